/-
  FnMerge: the law's walk.
-/
import Derived.Test.YtionggfecikedaaRows
import Derived.Test.YtionggfecikedaaMergeRows
import Derived.Deep.DeepCutAuto
namespace Go.Proofs.Ytionggfecikedaa.fnMerge
open Go.RowKit

theorem Hid.mk'' {p : Prop} (h : p) : Hid p := h

set_option maxRecDepth 4000 in
set_option maxHeartbeats 4000000 in
theorem walk (oa : Option Addr) (len cap : Nat) (zs : List Nat) (w : World) (hsl : SlB w oa len zs) (hmx : len ≤ maxLen) :
    Calls Try.prog 10 #[.slice oa len cap] w fun e w' => e = .returned (.bool true) ∧ w.grownBy w' none := by
  unfold maxLen at hmx
  by_cases hbig : 1048576 < len
  · clear hsl
    go_enter Try.func10, Try.ntmps10
    go_wp2
    go_ret
    exact ⟨rfl, grownBy_refl _ _⟩
  have HS : Hid (SlB w oa len zs) := hsl
  clear hsl
  obtain ⟨i0, TI⟩ := intT
  go_enter Try.func10, Try.ntmps10
  go_wp2_with fail
  refine (drawMerge_any oa len cap zs _ HS.out (by omega)).mono ?_
  rintro e w1 ⟨b0, p0, v1, v2, s, ts, ns, rfl, hb0, hp0, hM, ht20, hn20⟩
  obtain ⟨o1, c1, hv1, -⟩ := rowForm hM.r1
  obtain ⟨o2, c2, hv2, -⟩ := rowForm hM.r2
  obtain ⟨n1, hn1⟩ : ∃ n1, ts.length = n1 := ⟨_, rfl⟩
  obtain ⟨n2, hn2⟩ : ∃ n2, ns.length = n2 := ⟨_, rfl⟩
  rw [hn1] at hv1 ht20
  rw [hn2] at hv2 hn20
  subst hv1
  subst hv2
  have HM : Hid (MS w w1 s zs (.slice o1 n1 c1) (.slice o2 n2 c2) ts ns ∧ ts.length = n1 ∧ ns.length = n2) := ⟨hM, hn1, hn2⟩
  have hb1 := hb0.1
  have hb2 := hb0.2
  clear hM hn1 hn2 hb0
  go_upto_region 4 with fail
  have HR1 : Hid (w1.ownsRow (s + 1) 3 1 (.slice o1 n1 c1) n1 (ts.map iv)) := by have h9 := HM.out.1.r1; rw [HM.out.2.1] at h9; exact h9
  go_cut [46] (fun g wx => ∃ bad : Bool, g = .bool bad ∧ w1 = wx ∧ (bad = false → 0 ≤ b0 ∧ b0 ≤ 20 ∧ 0 ≤ p0 ∧ p0 ≤ b0 + n1))
  case first =>
    by_cases q1 : b0 < 0
    · go_wp2_with fail
      go_meet
      case rel => exact ⟨true, by simp, rfl, fun h => by cases h⟩
    · by_cases q2 : 20 < b0
      · go_wp2_with fail
        go_meet
        case rel => exact ⟨true, by simp, rfl, fun h => by cases h⟩
      · by_cases q3 : p0 < 0
        · go_wp2_with fail
          go_meet
          case rel => exact ⟨true, by simp, rfl, fun h => by cases h⟩
        · by_cases q4 : b0 + n1 < p0
          · go_wp2_with fail
            go_meet
            case rel => exact ⟨true, by simp, rfl, fun h => by cases h⟩
          · go_wp2_with fail
            go_meet
            case rel => exact ⟨false, by simp, rfl, fun _ => ⟨by omega, by omega, by omega, by omega⟩⟩
  case rest =>
    as_aux_lemma =>
      obtain ⟨bad, rfl, rfl, hbad⟩ := hcut
      go_upto_if 46 with fail
      go_cut [3, 5] (fun vb vp wx => ∃ b p : Int, vb = .int .i64 b ∧ vp = .int .i64 p ∧ w1 = wx ∧ 0 ≤ b ∧ b ≤ 20 ∧ 0 ≤ p ∧ p ≤ b + n1)
      case first =>
        cases bad
        · obtain ⟨hB0, hB1, hP0, hP1⟩ := hbad rfl
          go_wp2_with fail
          go_meet
          case rel => exact ⟨b0, p0, rfl, rfl, rfl, hB0, hB1, hP0, hP1⟩
        · go_wp2_with fail
          go_meet
          case rel => exact ⟨0, 0, rfl, rfl, rfl, by omega, by omega, by omega, by omega⟩
      case rest =>
        as_aux_lemma =>
          obtain ⟨b, p, rfl, rfl, rfl, hB0, hB1, hP0, hP1⟩ := hcut
          clear hbad hb1 hb2 hp0
          go_wp2_with (at_builtin; refine wpList_append_i (by rfl) (.tmp 47) (.tmp 48) TI (by rfl) (base := s + 1) (n := n1) (xs := ts) (by rfl) (by exact HR1.out.alloc _) (oa := some ⟨w1.heap.size, 0, none⟩) (m := 2) (c := 2) (zs := [7, 7]) (by rfl) (by exact two_slI w1 _) (by omega) (by have := HM.out.1.src.lt; simp; omega) ?_)
          intro vT w2 hownT hgrT hatT hszT
          obtain ⟨oT, cT, hvT, -⟩ := rowForm hownT.out
          subst hvT
          have HL2 : Hid (ML w w2 (s + 1) oT (n1 + 2) cT o2 n2 c2 (ts ++ [7, 7]) ns) := HM.out.1.sevens HM.out.2.2 (by simpa using hownT.out) hgrT.out
          obtain ⟨T, hT⟩ : ∃ T, ts ++ [7, 7] = T := ⟨_, rfl⟩
          have HTL : Hid (T.length = n1 + 2) := by show _ = _; rw [← hT]; simp [HM.out.2.1]
          rw [hT] at HL2
          clear hownT hgrT hatT hszT hT
          go_wp2_with (at_builtin; refine wpList_append_i (by rfl) (.tmp 50) (.tmp 51) TI (by rfl) (base := w2.heap.size) (n := 0) (xs := []) (by rfl) (by exact emptyRow w2) (oa := oT) (m := n1 + 2) (c := cT) (zs := T) (by rfl) (by exact HL2.out.slT.grown0 (World.grownBy_alloc _ _ _)) (by omega) (by simp) ?_)
          intro vl w3 hown3 hgr3 hat3 hsz3
          obtain ⟨ol, cl, hvl, hl3, hG3⟩ := copied hown3.out hgr3.out
          subst hvl
          have HL3 : Hid (ML w w3 (s + 1) oT (n1 + 2) cT o2 n2 c2 T ns ∧ w3.ownsRow w2.heap.size 3 1 (.slice ol (n1 + 2) cl) (n1 + 2) (T.map iv)) := ⟨HL2.out.more hG3, hl3⟩
          have HB2 : Hid (s + 1 ≤ w2.heap.size ∧ w.heap.size ≤ w2.heap.size) := ⟨HL2.out.up, HL2.out.grown.size⟩
          have HB3 : Hid ((∀ g, (Value.slice oT (n1 + 2) cT).ownBlock = some g → g < w2.heap.size) ∧ (∀ g, (Value.slice o2 n2 c2).ownBlock = some g → g < w2.heap.size)) := ⟨fun g hg => (HL2.out.rT.lt g hg).2, fun g hg => (HL2.out.rN.lt g hg).2⟩
          clear hown3 hgr3 hat3 hsz3 hl3 hG3 HL2
          go_wp2_with (at_builtin; refine wpList_append_i (by rfl) (.tmp 55) (.tmp 56) TI (by rfl) (base := w3.heap.size) (n := 0) (xs := []) (by rfl) (by exact emptyRow w3) (oa := oT) (m := n1 + 2) (c := cT) (zs := T) (by rfl) (by exact HL3.out.1.slT.grown0 (World.grownBy_alloc _ _ _)) (by omega) (by simp) ?_)
          intro vm w4 hown4 hgr4 hat4 hsz4
          obtain ⟨om, cm, hvm, hl4, hG4⟩ := copied hown4.out hgr4.out
          subst hvm
          have HL4 : Hid (ML w w4 (s + 1) oT (n1 + 2) cT o2 n2 c2 T ns ∧ w4.ownsRow w2.heap.size 3 1 (.slice ol (n1 + 2) cl) (n1 + 2) (T.map iv) ∧ SlI w4 om (n1 + 2) T) := ⟨HL3.out.1.more hG4, keepRow HL3.out.2 hG4 (by simp), rowSl hl4 HL3.out.1.sT⟩
          clear hown4 hgr4 hat4 hsz4 hl4 hG4 HL3
          go_wp2_with (at_builtin; refine wpList_append_i (by rfl) (.tmp 59) (.tmp 60) TI (by rfl) (base := w4.heap.size) (n := 0) (xs := []) (by rfl) (by exact emptyRow w4) (oa := o2) (m := n2) (c := c2) (zs := ns) (by rfl) (by exact HL4.out.1.slN.grown0 (World.grownBy_alloc _ _ _)) (by omega) (by simp) ?_)
          intro vn w5 hown5 hgr5 hat5 hsz5
          obtain ⟨on, cn, hvn, hl5, hG5⟩ := copied hown5.out hgr5.out
          subst hvn
          have HL5 : Hid (ML w w5 (s + 1) oT (n1 + 2) cT o2 n2 c2 T ns ∧ w5.ownsRow w2.heap.size 3 1 (.slice ol (n1 + 2) cl) (n1 + 2) (T.map iv) ∧ SlI w5 om (n1 + 2) T ∧ SlI w5 on n2 ns) := ⟨HL4.out.1.more hG5, keepRow HL4.out.2.1 hG5 (by simp), HL4.out.2.2.grown0 hG5, rowSl hl5 HL4.out.1.sN⟩
          clear hown5 hgr5 hat5 hsz5 hl5 hG5 HL4
          have HE : Hid (mergeR b p T ns = mergeGo b p T 0 ns) := mergeR_ok ⟨by omega, by omega, by omega, by omega⟩
          have HMM := Hid.mk'' (merged_holds b p T ns (by have := HTL.out; omega) (by omega) (by omega))
          obtain ⟨⟨cut, skip⟩, hr⟩ : ∃ r, mergeGo b p T 0 ns = r := ⟨_, rfl⟩
          rw [hr] at HE HMM
          clear hr
          go_wp2_with fail
          refine (implMerge_any b p om on (n1 + 2) n2 cm cn T ns _ HL5.out.2.2.1 HL5.out.2.2.2 (by omega) (by omega)).mono ?_
          rw [HE.out]
          rintro e w6 ⟨rfl, rfl⟩
          have HBT : Hid ((∀ g, (Value.slice oT (n1 + 2) cT).ownBlock = some g → g < w2.heap.size) ∧ (∀ g, (Value.slice o2 n2 c2).ownBlock = some g → g < w2.heap.size)) := HB3
          obtain ⟨⟨k0, k1⟩, kc, kc0, kag, ksame⟩ := HMM.out
          have k0 : 0 ≤ skip := k0
          have k1 : skip ≤ (ns.length : Int) := k1
          have kc : cut ≠ 0 → b < cut ∧ cut ≤ b + (T.length : Int) := kc
          have kc0 : 0 ≤ cut := kc0
          have kag : ∀ j, j < ns.length → agrees b p (merged b T ns cut skip) j (ns.getD j 0) := kag
          have ksame : (∀ j, j < ns.length → agrees b p T j (ns.getD j 0)) → (merged b T ns cut skip).length = T.length := ksame
          rw [HM.out.2.2] at k1
          rw [HTL.out] at kc
          obtain ⟨sk, hsk⟩ : ∃ sk : Nat, skip = (sk : Int) := ⟨skip.toNat, by omega⟩
          subst hsk
          have HAG : Hid ((∀ j, j < ns.length → agrees b p (merged b T ns cut (sk : Int)) j (ns.getD j 0)) ∧ ((∀ j, j < ns.length → agrees b p T j (ns.getD j 0)) → (merged b T ns cut (sk : Int)).length = T.length)) := ⟨kag, ksame⟩
          have hsk2 : sk ≤ n2 := by omega
          clear kag ksame HMM HE k0 k1
          have HB6 : Hid (w2.heap.size ≤ w6.heap.size) := by
            obtain ⟨g9, cap9, _, h8, h9⟩ := HL5.out.2.1.form (by omega)
            show _ ≤ _
            omega
          go_upto_region 10 with fail
          go_cut [89] (fun g wx => g = .bool false ∧ w6 = wx)
          case first =>
            by_cases c0 : cut = 0
            · subst c0
              go_wp2_with fail
              go_meet
              case rel => exact ⟨by simp; omega, rfl⟩
            · obtain ⟨c1', c2'⟩ := kc c0
              have c3' : (cut != 0) = true := by simpa using c0
              have c4' : decide (cut ≤ b) = false := by simp; omega
              have c5' : decide (b + ((n1 : Int) + 2) < cut) = false := by simp; omega
              go_wp2_with fail
              go_meet
              case rel => exact ⟨by simp; omega, rfl⟩
          case rest =>
            as_aux_lemma =>
              obtain ⟨rfl, rfl⟩ := hcut
              have HLO : Hid (w6.ownsRow w2.heap.size 3 1 (.slice ol (n1 + 2) cl) (n1 + 2) (T.map iv)) := HL5.out.2.1
              go_upto_if 91 with fail
              go_cut [7] (fun v wx => ∃ nL L, v = .slice ol nL cl ∧ w6 = wx ∧ (if 0 < cut then T.take (cut - b - 1).toNat else T) = L ∧ L.length = nL ∧ nL ≤ n1 + 2)
              case first =>
                by_cases c0 : cut = 0
                · subst c0
                  go_wp2_with fail
                  go_meet
                  case rel => exact ⟨n1 + 2, T, rfl, rfl, by simp, HTL.out, Nat.le_refl _⟩
                · obtain ⟨c1', c2'⟩ := kc c0
                  have c3' : decide (0 < cut) = true := by simp; omega
                  have c6 : (0 : Int) < cut := by omega
                  obtain ⟨j, hj⟩ : ∃ j : Nat, cut - b - 1 = (j : Int) := ⟨(cut - b - 1).toNat, by omega⟩
                  have HJ : Hid ((if 0 < cut then T.take (cut - b - 1).toNat else T) = T.take j) := by show _ = _; rw [if_pos c6, hj, Int.toNat_natCast]
                  have hjn : j ≤ n1 + 2 := by omega
                  rcases rowCases HLO.out with ⟨r1, r2, r3⟩ | ⟨g2, r1, r2, r3⟩
                  · omega
                  · subst r1
                    have z1 : (j : Int) ≤ (cl : Int) := by omega
                    have z2 : (0 : Int) ≤ (j : Int) := by omega
                    go_wp2_with fail
                    go_meet
                    case rel => exact ⟨j, T.take j, rfl, rfl, HJ.out, by rw [List.length_take, HTL.out]; omega, hjn⟩
              case rest =>
                as_aux_lemma =>
                  obtain ⟨nL, L, rfl, rfl, hL, hLL, hLn⟩ := hcut
                  have HLR : Hid (w6.ownsRow w2.heap.size 3 1 (.slice ol nL cl) nL (L.map iv)) := by
                    show World.ownsRow _ _ _ _ _ _ _
                    have h9 := row_take HLO.out hLn (by omega)
                    have h8 : L = T.take nL := by
                      rw [← hL] at hLL ⊢
                      split at hLL
                      · rename_i h7
                        rw [if_pos h7]
                        rw [List.length_take] at hLL
                        rw [← hLL, List.take_eq_take_iff]
                        omega
                      · rename_i h7
                        rw [if_neg h7, ← hLL, List.take_length]
                    rw [h8]
                    exact h9
                  have HLL : Hid (L.length = nL) := hLL
                  have HME : Hid (merged b T ns cut (sk : Int) = L ++ ns.drop sk) := by show _ = _; rw [merged, hL, Int.toNat_natCast]
                  clear kc kc0 hL hLL HLO
                  go_upto_region 14 with fail
                  go_cut [7] (fun v wx => LogIn w wx (s + 1) w2.heap.size oT (n1 + 2) cT o2 n2 c2 T ns (merged b T ns cut (sk : Int)) v)
                  case first =>
                    have HZ : Hid (w2.heap.size ≤ w6.heap.size) := by
                      exact HB6.out
                    have HSN : Hid (SlI w6 o2 n2 ns) := HL5.out.1.slN
                    rcases rowCases HL5.out.1.rN with ⟨r1, r2, r3⟩ | ⟨g2, r1, r2, r3⟩
                    · subst r1 r2 r3
                      obtain rfl : sk = 0 := by omega
                      go_wp2_with (at_builtin; refine wpList_append_i (by rfl) (.tmp 98) (.tmp 101) TI (by rfl) (base := w2.heap.size) (n := nL) (xs := L) (by rfl) (by exact HLR.out) (oa := none) (m := 0) (c := _) (zs := ns.drop 0) (by rfl) (by exact sli_zero w6 none (by simpa using HSN.out.1) rfl) (by omega) (by exact HZ.out) ?_)
                      intro v' w7 hown hgr hat hsz
                      go_wp2_with fail
                      go_meet
                      case rel => exact LogIn.of HL5.out.1 HB2.out.2 HLR.out HBT.out.1 HBT.out.2 (by rw [HME.out, List.length_append, List.length_drop, HLL.out, HM.out.2.2] <;> omega) (by rw [HME.out]; simpa using hown.out) hgr.out
                    · subst r1
                      have z1 : (sk : Int) ≤ (n2 : Int) := by omega
                      have z2 : (n2 : Int) ≤ (c2 : Int) := by omega
                      have z3 : (sk : Int) ≤ (c2 : Int) := by omega
                      have z4 : (0 : Int) ≤ (sk : Int) := by omega
                      by_cases hcs : c2 = sk
                      · have HNZ : Hid (n2 - sk = 0) := by show _ = _; omega
                        obtain rfl : sk = c2 := hcs.symm
                        obtain rfl : sk = n2 := by omega
                        go_wp2_with (at_builtin; refine wpList_append_i (by rfl) (.tmp 98) (.tmp 101) TI (by rfl) (base := w2.heap.size) (n := nL) (xs := L) (by rfl) (by exact HLR.out) (oa := some ⟨g2, 0, none⟩) (m := 0) (c := _) (zs := ns.drop sk) (by rfl) (by exact sli_zero w6 _ (by rw [List.length_drop, HM.out.2.2]; omega) rfl) (by omega) (by exact HZ.out) ?_)
                        intro v' w7 hown hgr hat hsz
                        go_wp2_with fail
                        go_meet
                        case rel => exact LogIn.of HL5.out.1 HB2.out.2 HLR.out HBT.out.1 HBT.out.2 (by rw [HME.out, List.length_append, List.length_drop, HLL.out, HM.out.2.2] <;> omega) (by rw [HME.out]; simpa using hown.out) hgr.out
                      · go_wp2_with (at_builtin; refine wpList_append_i (by rfl) (.tmp 98) (.tmp 101) TI (by rfl) (base := w2.heap.size) (n := nL) (xs := L) (by rfl) (by exact HLR.out) (oa := some ⟨g2, sk, none⟩) (m := n2 - sk) (c := _) (zs := ns.drop sk) (by rfl) (by exact by simpa using sli_cut HSN.out sk hsk2) (by omega) (by exact HZ.out) ?_)
                        intro v' w7 hown hgr hat hsz
                        go_wp2_with fail
                        go_meet
                        case rel => exact LogIn.of HL5.out.1 HB2.out.2 HLR.out HBT.out.1 HBT.out.2 (by rw [HME.out, List.length_append, List.length_drop, HLL.out, HM.out.2.2] <;> omega) (by rw [HME.out]; simpa using hown.out) hgr.out
                  case rest =>
                    as_aux_lemma =>
                      obtain ⟨oM, nM, cM, rfl, hMl, hRM, hML⟩ := hcut
                      obtain ⟨M, hMe⟩ : ∃ M, merged b T ns cut (sk : Int) = M := ⟨_, rfl⟩
                      rw [hMe] at HAG hMl hRM
                      have hzM : ∀ z ∈ M, i64Ok z := by
                        intro z hz
                        rw [← hMe, merged] at hz
                        rcases List.mem_append.1 hz with h9 | h9
                        · split at h9
                          · exact hML.sT z (List.mem_of_mem_take h9)
                          · exact hML.sT z h9
                        · exact hML.sN z (List.mem_of_mem_drop h9)
                      have HR : Hid (ML w wc (s + 1) oT (n1 + 2) cT o2 n2 c2 T ns ∧ SlI wc oM nM M ∧ M.length = nM) := ⟨hML, rowSl hRM hzM, hMl⟩
                      have HNM : Hid (nM ≤ 42) := by
                        show _ ≤ _
                        rw [← hMl, ← hMe, merged, List.length_append, List.length_drop]
                        have h5 : (if (0 : Int) < cut then T.take (cut - b - 1).toNat else T).length ≤ T.length := by split <;> first | exact Nat.le_refl _ | (rw [List.length_take]; omega)
                        have := HTL.out
                        have := HM.out.2.2
                        omega
                      have HZM : Hid (∀ z ∈ M, i64Ok z) := hzM
                      clear hMe hMl hRM hML hzM HL5 HLR HME HBT HB3 HB2 HB6 HLL
                      go_wp2
                      go_loop [105] (fun i => ∃ k : Nat, k ≤ n2 ∧ i = .int .i64 (k : Int)) (fun i => n2 - (intOf i).toNat)
                      case atStart => exact ⟨0, Nat.zero_le _, rfl⟩
                      case round =>
                        obtain ⟨k, hk, rfl⟩ := hrel
                        by_cases hlt : k < n2
                        · obtain ⟨bN, fN, hoN, hcN⟩ := HR.out.1.slN.2.2 (by omega)
                          have hck := hcN k hlt
                          have hag := HAG.out.1 k (by rw [HM.out.2.2]; exact hlt)
                          obtain ⟨t, ht⟩ : ∃ t, ns.getD k 0 = t := ⟨_, rfl⟩
                          rw [ht] at hck hag
                          subst hoN
                          clear hcN ht
                          rcases hag with h9 | ⟨h8, h9, h7⟩
                          · go_wp2
                            go_round
                            case rel => exact ⟨k + 1, by omega, by go_num⟩
                            case measure => simp [intOf]; omega
                          · rw [HR.out.2.2] at h9
                            obtain ⟨j, hj⟩ : ∃ j : Nat, p + 1 + (k : Int) - b - 1 = (j : Int) := ⟨(p + 1 + (k : Int) - b - 1).toNat, by omega⟩
                            have h7' : M.getD j 0 = t := by rw [hj, Int.toNat_natCast] at h7; exact h7
                            obtain ⟨bM, fM, hoM, hcM⟩ := HR.out.2.1.2.2 (by omega)
                            have hcj := hcM j (by omega)
                            rw [h7'] at hcj
                            subst hoM
                            have hjn : j < nM := by omega
                            clear hcM h7 h7'
                            go_wp2
                            go_round
                            case rel => exact ⟨k + 1, by omega, by go_num⟩
                            case measure => simp [intOf]; omega
                        · obtain rfl : k = n2 := by omega
                          go_wp2
                          go_loop [13, 140] (fun sm i => ∃ (q : Nat) (same : Bool), q ≤ k ∧ i = .int .i64 (q : Int) ∧ sm = .bool same ∧ (same = true → ∀ j, j < q → agrees b p T j (ns.getD j 0))) (fun _ i => k - (intOf i).toNat)
                          case atStart => exact ⟨0, true, Nat.zero_le _, rfl, rfl, fun _ j hj => absurd hj (by omega)⟩
                          case round =>
                            obtain ⟨q, same, hq, rfl, rfl, hsm⟩ := hrel
                            have HSM : Hid (same = true → ∀ j, j < q → agrees b p T j (ns.getD j 0)) := hsm
                            clear hsm
                            by_cases hlq : q < k
                            · obtain ⟨bN, fN, hoN, hcN⟩ := HR.out.1.slN.2.2 (by omega)
                              have hck := hcN q hlq
                              obtain ⟨t, ht⟩ : ∃ t, ns.getD q 0 = t := ⟨_, rfl⟩
                              have HT : Hid (ns.getD q 0 = t) := ht
                              rw [ht] at hck
                              subst hoN
                              clear hcN ht
                              by_cases d1 : p + 1 + (q : Int) ≤ b
                              · go_wp2
                                go_round
                                case rel =>
                                  refine ⟨q + 1, same, by omega, by go_num, rfl, fun h j hj => ?_⟩
                                  rcases Nat.lt_or_ge j q with h1 | h1
                                  · exact HSM.out h j h1
                                  · obtain rfl : j = q := by omega
                                    exact .inl d1
                                case measure => simp [intOf]; omega
                              · by_cases d2 : p + 1 + (q : Int) ≤ b + ((n1 : Int) + 2)
                                · obtain ⟨i, hi⟩ : ∃ i : Nat, p + 1 + (q : Int) - b - 1 = (i : Int) := ⟨(p + 1 + (q : Int) - b - 1).toNat, by omega⟩
                                  obtain ⟨bT, fT, hoT, hcT⟩ := HR.out.1.slT.2.2 (by omega)
                                  have hci := hcT i (by omega)
                                  obtain ⟨u, hu⟩ : ∃ u, T.getD i 0 = u := ⟨_, rfl⟩
                                  have HU : Hid (T.getD (p + 1 + (q : Int) - b - 1).toNat 0 = u) := by show _ = _; rw [hi, Int.toNat_natCast]; exact hu
                                  rw [hu] at hci
                                  subst hoT
                                  have hin : i < n1 + 2 := by omega
                                  clear hcT hu
                                  by_cases d3 : u = t
                                  · subst d3
                                    go_wp2
                                    go_round
                                    case rel =>
                                      refine ⟨q + 1, same, by omega, by go_num, rfl, fun h j hj => ?_⟩
                                      rcases Nat.lt_or_ge j q with h1 | h1
                                      · exact HSM.out h j h1
                                      · obtain rfl : j = q := by omega
                                        exact .inr ⟨by omega, by rw [HTL.out]; omega, by rw [HU.out, HT.out]⟩
                                    case measure => simp [intOf]; omega
                                  · have d4 : (u != t) = true := by rw [bne_iff_ne]; exact d3
                                    go_wp2
                                    go_round
                                    case rel => exact ⟨q + 1, false, by omega, by go_num, rfl, fun h => by cases h⟩
                                    case measure => simp [intOf]; omega
                                · obtain ⟨i, hi⟩ : ∃ i : Nat, p + 1 + (q : Int) - b - 1 = (i : Int) := ⟨(p + 1 + (q : Int) - b - 1).toNat, by omega⟩
                                  have hin : ¬ i < n1 + 2 := by omega
                                  have hin2 : ((n1 : Int) + 2) ≤ (i : Int) := by omega
                                  go_wp2
                                  go_round
                                  case rel => exact ⟨q + 1, false, by omega, by go_num, rfl, fun h => by cases h⟩
                                  case measure => simp [intOf]; omega
                            · obtain rfl : q = k := by omega
                              have HGO : Hid (mergeR b p M ns = (0, (q : Int))) := by
                                show _ = _
                                rw [mergeR_ok ⟨by omega, by omega, by omega, by omega⟩, mergeGo_all b p M ns 0 (fun j hj => by rw [Nat.zero_add]; exact HAG.out.1 j hj), Nat.zero_add, HM.out.2.2]
                              have HSAME : Hid (same = true → nM = n1 + 2) := by
                                intro h
                                rw [← HR.out.2.2, ← HTL.out]
                                exact HAG.out.2 (fun j hj => HSM.out h j (by rw [HM.out.2.2] at hj; exact hj))
                              have HCALL : Hid (∀ (X : World) (vm vn : Value), True) := fun _ _ _ => trivial
                              clear HAG HSM HCALL
                              cases same
                              · go_wp2_with (at_builtin; refine wpList_append_i (by rfl) (.tmp 183) (.tmp 184) TI (by rfl) (base := wc.heap.size) (n := 0) (xs := []) (by rfl) (by exact emptyRow wc) (oa := oM) (m := nM) (c := cM) (zs := M) (by rfl) (by exact HR.out.2.1.grown0 (World.grownBy_alloc _ _ _)) (by have := HNM.out; omega) (by simp) ?_)
                                intro vx w8 hown8 hgr8 hat8 hsz8
                                obtain ⟨ox, cx, hvx, hl8, hG8⟩ := copied hown8.out hgr8.out
                                subst hvx
                                have H8 : Hid (w.grownBy w8 none ∧ SlI w8 ox nM M ∧ SlI w8 o2 q ns) := ⟨grownBy_trans HR.out.1.grown hG8, rowSl hl8 HZM.out, HR.out.1.slN.grown0 hG8⟩
                                clear hown8 hgr8 hat8 hsz8 hl8 hG8
                                go_wp2_with (at_builtin; refine wpList_append_i (by rfl) (.tmp 187) (.tmp 188) TI (by rfl) (base := w8.heap.size) (n := 0) (xs := []) (by rfl) (by exact emptyRow w8) (oa := o2) (m := q) (c := c2) (zs := ns) (by rfl) (by exact H8.out.2.2.grown0 (World.grownBy_alloc _ _ _)) (by omega) (by simp) ?_)
                                intro vy w9 hown9 hgr9 hat9 hsz9
                                obtain ⟨oy, cy, hvy, hl9, hG9⟩ := copied hown9.out hgr9.out
                                subst hvy
                                have H9 : Hid (w.grownBy w9 none ∧ SlI w9 ox nM M ∧ SlI w9 oy q ns) := ⟨grownBy_trans H8.out.1 hG9, H8.out.2.1.grown0 hG9, rowSl hl9 HR.out.1.sN⟩
                                clear hown9 hgr9 hat9 hsz9 hl9 hG9
                                go_wp2_with fail
                                refine (implMerge_any b p ox oy nM q cx cy M ns _ H9.out.2.1 H9.out.2.2 (by have := HNM.out; omega) (by omega)).mono ?_
                                rw [HGO.out]
                                rintro e w10 ⟨rfl, rfl⟩
                                go_wp2
                                go_ret
                                exact ⟨rfl, H9.out.1⟩
                              · have e9 : (((nM : Nat) : Int) != ((n1 : Int) + 2)) = false := by rw [HSAME.out rfl]; simp
                                go_wp2_with (at_builtin; refine wpList_append_i (by rfl) (.tmp 183) (.tmp 184) TI (by rfl) (base := wc.heap.size) (n := 0) (xs := []) (by rfl) (by exact emptyRow wc) (oa := oM) (m := nM) (c := cM) (zs := M) (by rfl) (by exact HR.out.2.1.grown0 (World.grownBy_alloc _ _ _)) (by have := HNM.out; omega) (by simp) ?_)
                                intro vx w8 hown8 hgr8 hat8 hsz8
                                obtain ⟨ox, cx, hvx, hl8, hG8⟩ := copied hown8.out hgr8.out
                                subst hvx
                                have H8 : Hid (w.grownBy w8 none ∧ SlI w8 ox nM M ∧ SlI w8 o2 q ns) := ⟨grownBy_trans HR.out.1.grown hG8, rowSl hl8 HZM.out, HR.out.1.slN.grown0 hG8⟩
                                clear hown8 hgr8 hat8 hsz8 hl8 hG8
                                go_wp2_with (at_builtin; refine wpList_append_i (by rfl) (.tmp 187) (.tmp 188) TI (by rfl) (base := w8.heap.size) (n := 0) (xs := []) (by rfl) (by exact emptyRow w8) (oa := o2) (m := q) (c := c2) (zs := ns) (by rfl) (by exact H8.out.2.2.grown0 (World.grownBy_alloc _ _ _)) (by omega) (by simp) ?_)
                                intro vy w9 hown9 hgr9 hat9 hsz9
                                obtain ⟨oy, cy, hvy, hl9, hG9⟩ := copied hown9.out hgr9.out
                                subst hvy
                                have H9 : Hid (w.grownBy w9 none ∧ SlI w9 ox nM M ∧ SlI w9 oy q ns) := ⟨grownBy_trans H8.out.1 hG9, H8.out.2.1.grown0 hG9, rowSl hl9 HR.out.1.sN⟩
                                clear hown9 hgr9 hat9 hsz9 hl9 hG9
                                go_wp2_with fail
                                refine (implMerge_any b p ox oy nM q cx cy M ns _ H9.out.2.1 H9.out.2.2 (by have := HNM.out; omega) (by omega)).mono ?_
                                rw [HGO.out]
                                rintro e w10 ⟨rfl, rfl⟩
                                go_wp2
                                go_ret
                                exact ⟨rfl, H9.out.1⟩
end Go.Proofs.Ytionggfecikedaa.fnMerge
