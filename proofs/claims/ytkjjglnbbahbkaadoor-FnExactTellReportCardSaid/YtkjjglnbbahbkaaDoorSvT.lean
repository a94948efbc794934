/-
  A service as text, by the program: walked.
-/
import Derived.Test.YtkjjglnbbahbkaaDoorTextD
namespace Go.Proofs.YtkjjglnbbahbkaaDoor
open Go.RowKit

set_option maxRecDepth 4000 in
set_option maxHeartbeats 4000000 in
theorem addService_out {B : Nat} {w : World} {v : Value} {zs : List Nat} (ho : Out B w v zs) (b : Int) (hb : I64 b) (K : List (List Tr)) (ak : Option Addr) (pk : Nat) (sa : Option Addr) (sn sp : Nat) (hK : RowLow B w kItem ak K) (hkl : totR K ≤ 1048576) (hB : B ≤ w.heap.size) (hl : zs.length ≤ 3221225472) (htab : Lib.TabBelow Tryd.prog B w pow10 .u64 Lib.pow10Tab) :
    Calls Tryd.prog 26 #[v, .agg #[.int .i64 b, .slice ak K.length pk, .slice sa sn sp]] w fun e w' => ∃ v', e = .returned v' ∧ Out B w' v' (zs ++ serviceT b (tellR K)) ∧ Ex B w w' := by
  have HO : Hid (Out B w v zs ∧ RowLow B w kItem ak K ∧ totR K ≤ 1048576 ∧ B ≤ w.heap.size) := ⟨ho, hK, hkl, hB⟩
  have HT : Hid (Lib.TabBelow Tryd.prog B w pow10 .u64 Lib.pow10Tab) := htab
  have HI : Hid (I64 b) := hb
  have hnl : K.length ≤ 1048576 := Nat.le_trans (totR_len K) hkl
  clear ho hK hkl hB htab hb
  obtain ⟨n, hn⟩ : ∃ n, K.length = n := ⟨_, rfl⟩
  have HN : Hid (K.length = n) := hn
  rw [hn] at hnl ⊢
  clear hn
  go_enter Tryd.func26, Tryd.ntmps26
  by_cases h0 : b = 0 ∧ n = 0
  · obtain ⟨rfl, rfl⟩ := h0
    go_wp2
    go_ret
    refine ⟨v, rfl, ?_, (Ex.refl B w).alloc HO.out.2.2.2 _⟩
    have hK0 : K = [] := List.length_eq_zero_iff.1 HN.out
    subst hK0
    simpa [serviceT] using HO.out.1.alloc _
  · have HZ : Hid (serviceT b (tellR K) = [32, 115] ++ numB 58 [b] ++ (tellR K).flatMap (itemD [32, 107])) := by
      show _ = _
      rw [serviceT, if_neg]
      rintro ⟨rfl, h1⟩
      refine h0 ⟨rfl, ?_⟩
      rw [← HN.out]
      have := congrArg List.length h1
      simpa using this
    go_upto_region 1 with fail
    generalize hX : w.alloc (.cells #[.int .i64 b, .slice ak n pk, .slice sa sn sp] 44) = X
    have HX : Hid (Ex B w X ∧ B ≤ X.heap.size ∧ Out B X v zs ∧ X.heap[w.heap.size]? = some (.cells #[.int .i64 b, .slice ak n pk, .slice sa sn sp] 44 (0, 0))) := by
      subst hX
      exact ⟨(Ex.refl B w).alloc HO.out.2.2.2 _, by have := HO.out.2.2.2; simp; omega, HO.out.1.alloc _, heap_alloc_new w _⟩
    clear hX
    go_cut [15] (fun t wx => t = .bool false ∧ wx = X)
    case first =>
      have c0 : X.cell? ⟨w.heap.size, 0, none⟩ = some (.int .i64 b) := (cell_of_row X _ _ _ _ _ HX.out.2.2.2).trans rfl
      have c1 : X.cell? ⟨w.heap.size, 1, none⟩ = some (.slice ak n pk) := (cell_of_row X _ _ _ _ _ HX.out.2.2.2).trans rfl
      by_cases hb0 : b = 0
      · subst hb0
        have hn0 : ((n : Int) == 0) = false := by simpa using h0
        go_wp2_with fail
        go_meet
        case rel => exact ⟨rfl, rfl⟩
      · have hbz : (b == 0) = false := by simpa using hb0
        go_wp2_with fail
        go_meet
        case rel => exact ⟨rfl, rfl⟩
    case rest =>
      obtain ⟨rfl, h9⟩ := hcut
      have h9 := h9.symm
      subst h9
      go_wp2
      go_cut [0] (fun v wx => Out B wx v (zs ++ [32, 115] ++ numB 58 [b]) ∧ Ex B X wx)
      case first =>
        as_aux_lemma =>
          refine wp_region_Z (fun W => W.heap[w.heap.size]? = some (.cells #[.int .i64 b, .slice ak n pk, .slice sa sn sp] 44 (0, 0))) (fun _ => false) (by kernel_rfl) ?_
          have hS : X.drew.heap[w.heap.size]? = some (.cells #[.int .i64 b, .slice ak n pk, .slice sa sn sp] 44 (0, 0)) := HX.out.2.2.2
          refine wpAnyZ_take' (i := 0) (v := ?vz26) rfl (by kernel_rfl) (by kernel_rfl) (by kernel_rfl) (fun _ _ _ h => h) (Or.inl ⟨by rfl, ?yz26⟩) ?rz26
          case yz26 => (intro w _; go_simp; first | done | with_reducible rfl)
          simp only [Act.put, List.setIfInBounds_toArray, List.set_cons_zero, List.set_cons_succ]
          refine wpAnyZ_take' (i := 2) (v := ?vz27) rfl (by kernel_rfl) (by kernel_rfl) (by kernel_rfl) (fun _ _ _ h => h) (Or.inl ⟨by rfl, ?yz27⟩) ?rz27
          case yz27 => (intro w _; go_simp; first | done | with_reducible rfl)
          simp only [Act.put, List.setIfInBounds_toArray, List.set_cons_zero, List.set_cons_succ]
          refine wpAnyZ_loadS (i := 3) (v := ?vz28) rfl (by kernel_rfl) (by kernel_rfl) (by kernel_rfl) (fun _ _ _ h => h) (fun _ => rfl) (Or.inl ⟨by rfl, ?yz28⟩) hS ?rz28
          case yz28 => (intro W hW; have c0 : W.cell? ⟨w.heap.size, 0, none⟩ = some (.int .i64 b) := (cell_of_row W _ _ _ _ _ hW).trans rfl; go_simp; first | done | with_reducible rfl)
          simp only [Act.put, List.setIfInBounds_toArray, List.set_cons_zero, List.set_cons_succ]
          refine wpAnyZ_two' (i := 1) (k := 4) (by kernel_rfl) rfl rfl (fun K hK => ?_) (fun K hK => ?_)
          · (refine step_out_s (by rfl) (.tmp 17) _ (by rfl) (B := B) (zs := zs) (by rfl) (by exact HX.out.2.2.1.heap rfl) [32, 115] (by rfl) (by rfl) (by decide) (by simp; omega) (by exact HX.out.2.1) ?_; intro v1 w1 H1)
            refine hK.out _ _ (fun _ h => H1.out.2.blk h (by decide)) ?_
            clear hK K
            simp only [Act.put, List.setIfInBounds_toArray, List.set_cons_zero, List.set_cons_succ]
            have H2 : Hid (Ex B X w1 ∧ B ≤ w1.heap.size) := ⟨((Ex.refl B X).same (x := X.drew) ⟨rfl, rfl, rfl, rfl⟩).trans H1.out.2, H1.out.2.size (by exact HX.out.2.1)⟩
            refine wpAnyZ_one' (i := 4) (by kernel_rfl) rfl (fun K hK => ?_)
            go_simp
            refine hK.out _ _ (fun _ h => grown_blk (World.grownBy_alloc _ _ _) h) ?_
            clear hK K
            try simp only [Act.put, List.setIfInBounds_toArray, List.set_cons_zero, List.set_cons_succ]
            have H3 : Hid (Ex B X (w1.alloc (.cells #[.int .i64 b] 3))) := H2.out.1.alloc H2.out.2 _
            refine wpAnyZ_one' (i := 5) (by kernel_rfl) rfl (fun K hK => ?_)
            go_simp
            go_at_call 18
            refine (addNumbers_out (B := B) (zs := zs ++ [32, 115]) (H1.out.1.alloc _) 58 (by decide) w1.heap.size [b] (heap_alloc_new w1 _) (i64s1 HI.out) (by simp) (by simp) (by have := H2.out.2; simp; omega) (by rw [List.length_append]; simp; omega) (HT.out.on (HX.out.1.trans H3.out).below)).mono ?_
            rintro e w3 ⟨v3, rfl, hO3, hE3⟩
            have H4 : Hid (Out B w3 v3 (zs ++ [32, 115] ++ numB 58 [b]) ∧ Ex B X w3) := ⟨hO3, H3.out.trans hE3⟩
            go_wp2_with fail
            refine hK.out _ _ (fun _ h => hE3.blk h (by decide)) ?_
            clear hK K
            try simp only [Act.put, List.setIfInBounds_toArray, List.set_cons_zero, List.set_cons_succ]
            refine wpAnyZ_one' (i := 6) (by kernel_rfl) rfl (fun K hK => ?_)
            go_simp
            refine hK.out _ _ (fun _ h => h) ?_
            clear hK K
            try simp only [Act.put, List.setIfInBounds_toArray, List.set_cons_zero, List.set_cons_succ]
            refine wpAnyZ_done (by kernel_rfl) ?_ _
            go_wp2_with fail
            go_meet
            case rel => exact H4.out
          · go_simp
            refine hK.out _ _ (fun _ h => grown_blk (World.grownBy_alloc _ _ _) h) ?_
            clear hK K
            try simp only [Act.put, List.setIfInBounds_toArray, List.set_cons_zero, List.set_cons_succ]
            have H2 : Hid (Ex B X (X.drew.alloc (.cells #[.int .i64 b] 3)) ∧ B ≤ (X.drew.alloc (.cells #[.int .i64 b] 3)).heap.size) := ⟨((Ex.refl B X).same (x := X.drew) ⟨rfl, rfl, rfl, rfl⟩).alloc (by exact HX.out.2.1) _, by have := HX.out.2.1; simp; omega⟩
            refine wpAnyZ_one' (i := 1) (by kernel_rfl) rfl (fun K hK => ?_)
            (refine step_out_s (by rfl) (.tmp 17) _ (by rfl) (B := B) (zs := zs) (by rfl) (by exact (HX.out.2.2.1.heap (x := X.drew) rfl).alloc _) [32, 115] (by rfl) (by rfl) (by decide) (by simp; omega) (by exact H2.out.2) ?_; intro v1 w1 H1)
            refine hK.out _ _ (fun _ h => H1.out.2.blk h (by decide)) ?_
            clear hK K
            simp only [Act.put, List.setIfInBounds_toArray, List.set_cons_zero, List.set_cons_succ]
            have H3 : Hid (Ex B X w1) := H2.out.1.trans H1.out.2
            refine wpAnyZ_one' (i := 5) (by kernel_rfl) rfl (fun K hK => ?_)
            go_simp
            go_at_call 18
            refine (addNumbers_out (B := B) (zs := zs ++ [32, 115]) H1.out.1 58 (by decide) X.heap.size [b] (H1.out.2.blk (heap_alloc_new X.drew _) (by decide)) (i64s1 HI.out) (by simp) (by simp) (H3.out.size HX.out.2.1) (by rw [List.length_append]; simp; omega) (HT.out.on (HX.out.1.trans H3.out).below)).mono ?_
            rintro e w3 ⟨v3, rfl, hO3, hE3⟩
            have H4 : Hid (Out B w3 v3 (zs ++ [32, 115] ++ numB 58 [b]) ∧ Ex B X w3) := ⟨hO3, H3.out.trans hE3⟩
            go_wp2_with fail
            refine hK.out _ _ (fun _ h => hE3.blk h (by decide)) ?_
            clear hK K
            try simp only [Act.put, List.setIfInBounds_toArray, List.set_cons_zero, List.set_cons_succ]
            refine wpAnyZ_one' (i := 6) (by kernel_rfl) rfl (fun K hK => ?_)
            go_simp
            refine hK.out _ _ (fun _ h => h) ?_
            clear hK K
            try simp only [Act.put, List.setIfInBounds_toArray, List.set_cons_zero, List.set_cons_succ]
            refine wpAnyZ_done (by kernel_rfl) ?_ _
            go_wp2_with fail
            go_meet
            case rel => exact H4.out
      case rest =>
        obtain ⟨hO1, hE1⟩ := hcut
        have H5 : Hid (Out B wc u0 (zs ++ [32, 115] ++ numB 58 [b]) ∧ Ex B w wc ∧ (zs ++ [32, 115] ++ numB 58 [b]).length ≤ zs.length + 24) := ⟨hO1, HX.out.1.trans hE1, by have := numB_len (mark := 58) (i64s1 HI.out); rw [List.length_append, List.length_append]; simp at this ⊢; omega⟩
        have hS : wc.heap[w.heap.size]? = some (.cells #[.int .i64 b, .slice ak n pk, .slice sa sn sp] 44 (0, 0)) := hE1.blk HX.out.2.2.2 (by decide)
        have c1 : wc.cell? ⟨w.heap.size, 1, none⟩ = some (.slice ak n pk) := (cell_of_row wc _ _ _ _ _ hS).trans rfl
        clear hO1 hE1 HX hS
        go_wp2
        clear c1
        go_loopw [0, 26] (fun v i wr => ∃ k : Nat, k ≤ n ∧ i = .int .i64 (k : Int) ∧ Out B wr v (zs ++ [32, 115] ++ numB 58 [b] ++ (tellR (K.take k)).flatMap (itemD [32, 107])) ∧ Ex B w wr) (fun _ i _ => n - (intOf i).toNat)
        case atStart => exact ⟨0, Nat.zero_le _, rfl, by simpa using H5.out.1, H5.out.2.1⟩
        case round =>
          obtain ⟨k, hk, rfl, hOr, hE⟩ := hrel
          have HR : Hid (Out B wr u0 (zs ++ [32, 115] ++ numB 58 [b] ++ (tellR (K.take k)).flatMap (itemD [32, 107])) ∧ Ex B w wr) := ⟨hOr, hE⟩
          clear hOr hE
          by_cases hlt : k < n
          · obtain ⟨e, he⟩ : ∃ e, K[k]? = some e := ⟨_, List.getElem?_eq_getElem (by rw [HN.out]; exact hlt)⟩
            obtain ⟨hf, hrd, bb, off, hab, hc⟩ := HO.out.2.1 wr HR.out.2.below k e he
            obtain ⟨n0, n1, d2, a2, p2, rfl⟩ := fitItem hf
            subst hab
            have hd2 : d2.length ≤ 1048576 := by have h1 := tot_sub (y := .byt d2 a2 p2) (j := 2) he rfl; rw [tot_byt] at h1; have := HO.out.2.2.1; omega
            have c0 : wr.cell? ⟨bb, off + k * 3, none⟩ = some (.int .i64 n0) := hc 0 _ rfl
            have c1 : wr.cell? ⟨bb, off + k * 3 + 1, none⟩ = some (.int .i64 n1) := hc 1 _ rfl
            have c2 : wr.cell? ⟨bb, off + k * 3 + 2, none⟩ = some (.slice a2 d2.length p2) := hc 2 _ rfl
            have hlen : (zs ++ [32, 115] ++ numB 58 [b] ++ (tellR (K.take k)).flatMap (itemD [32, 107])).length + 64 ≤ 4294967296 := by
              have h1 := kept_len (tellR (K.take k)) (fun x hx => HO.out.2.1.ok.nu x (by rw [tellR, List.map_take] at hx; exact List.mem_of_mem_take hx))
              have h2 := totTo_le K k
              have h3 := HO.out.2.2.1
              have h4 := H5.out.2.2
              rw [List.length_append]
              unfold totTo at h2
              rw [List.length_map, List.length_take] at h1
              omega
            have HE : Hid (∀ Y : World, wr.grownBy Y none → Calls Tryd.prog 25 #[u0, .string ⟨#[32, 107]⟩, .agg #[.int .i64 n0, .int .i64 n1, .slice a2 d2.length p2]] Y fun e w' => ∃ v', e = .returned v' ∧ Out B w' v' (zs ++ [32, 115] ++ numB 58 [b] ++ (tellR (K.take (k + 1))).flatMap (itemD [32, 107])) ∧ Ex B w w') := fun Y hY => by
              have hEY : Ex B w Y := HR.out.2.grown hY (HR.out.2.size HO.out.2.2.2)
              refine (addItem_out (HR.out.1.grown hY) ⟨#[32, 107]⟩ [32, 107] rfl (by decide) (by decide) n0 n1 (hrd (.int n0) (by simp)).isInt (hrd (.int n1) (by simp)).isInt a2 d2 p2 ((HO.out.2.1.on hEY.below).byt (p := p2) he (by simp)) hd2 (hEY.size HO.out.2.2.2) hlen (HT.out.on hEY.below)).mono ?_
              rintro e w' ⟨v', rfl, h1, h2⟩
              refine ⟨v', rfl, ?_, hEY.trans h2⟩
              rw [flat_snoc _ he, ← List.append_assoc]
              exact h1
            clear hc hf hrd he hlen
            have hkI : (k : Int) < (n : Int) := by omega
            go_wp2_with fail
            refine (HE.out _ (by repeat (first | exact World.grownBy_alloc _ _ _ | refine grownBy_setNew ?_ (Nat.le_refl _)))).mono ?_
            rintro e w2 ⟨v2, rfl, hO2, hE2⟩
            have H2 : Hid (Out B w2 v2 (zs ++ [32, 115] ++ numB 58 [b] ++ (tellR (K.take (k + 1))).flatMap (itemD [32, 107])) ∧ Ex B w w2) := ⟨hO2, hE2⟩
            clear hO2 hE2 c0 c1 c2 HE
            go_wp2
            go_roundw
            case rel => exact ⟨k + 1, by omega, by go_num, H2.out.1, H2.out.2⟩
            case measure => simp [intOf]; omega
          · obtain rfl : k = n := by omega
            go_wp2
            go_ret
            refine ⟨_, rfl, ?_, HR.out.2⟩
            have h1 := HR.out.1
            rw [← HN.out, List.take_length] at h1
            rw [HZ.out, ← List.append_assoc, ← List.append_assoc]
            exact h1
end Go.Proofs.YtkjjglnbbahbkaaDoor
