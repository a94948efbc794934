/-
  The model's copy of a service, walked.
-/
import Derived.Test.YtdajcpcajdhplaaDoorSpCopy1
import Derived.Test.YtdajcpcajdhplaaDoorClone2
namespace Go.Proofs.YtdajcpcajdhplaaDoor
open Go.RowKit

theorem ownsRow_made0 (w : World) (n : Nat) (t : TypeId) (h : w.heap.size = n) : (w.alloc (.cells #[] t)).ownsRow n t 1 (.slice (some ⟨n, 0, none⟩) 0 0) 0 (([] : List Nat).map bv) := by
  subst h
  exact World.ownsRow_made w #[] 0 (Nat.le_refl _) (Nat.zero_le _) rfl
theorem tells_take {L M : List El} {k : Nat} {x y : El} (h : M.map El.tell = (L.take k).map El.tell) (hx : L[k]? = some x) (ht : y.tell = x.tell) : (M ++ [y]).map El.tell = (L.take (k + 1)).map El.tell := by
  rw [List.take_add_one, hx, List.map_append, List.map_append, h]
  simp [ht]
set_option maxRecDepth 4000 in
set_option maxHeartbeats 4000000 in
theorem l5Copy_any (s : Sv) (w : World) (h : SvAt w s) (hs : SvSmall s) :
    Calls Tryd.prog 44 #[.agg #[.int .i64 s.b, .slice s.ko s.K.length s.kc, .slice s.so s.S.length s.sc]] w fun e w' => ∃ (vk vs : Value) (K S : List El), e = .returned (.agg #[.int .i64 s.b, vk, vs]) ∧ K.map El.tell = s.K.map El.tell ∧ S.map El.tell = s.S.map El.tell ∧ ElRow w' w.heap.size 32 2 vk K ∧ ElRow w' w.heap.size 74 3 vs S ∧ (∀ g ∈ K.filterMap El.o, g ∉ S.filterMap El.o) ∧ w.grownBy w' none := by
  have HA : Hid (SvAt w s ∧ SvSmall s) := ⟨h, hs⟩
  have hkn : s.K.length ≤ 1048576 := hs.1
  have hsn : s.S.length ≤ 1048576 := hs.2.1
  clear h hs
  obtain ⟨b, ko, kc, K0, so, sc, S0⟩ := s
  simp only at HA hkn hsn ⊢
  obtain ⟨kn, hk0⟩ : ∃ n, K0.length = n := ⟨_, rfl⟩
  obtain ⟨sn, hs0⟩ : ∃ n, S0.length = n := ⟨_, rfl⟩
  have HN : Hid (K0.length = kn ∧ S0.length = sn) := ⟨hk0, hs0⟩
  rw [hk0] at hkn ⊢
  rw [hs0] at hsn ⊢
  clear hk0 hs0
  obtain ⟨W0, hW0⟩ : ∃ W0, W0 = (w.alloc (.cells #[.int .i64 b, .slice ko kn kc, .slice so sn sc] 28)).alloc (.cells #[.int .i64 0, .slice none 0 0, .slice none 0 0] 28) := ⟨_, rfl⟩
  have HW : Hid (W0 = (w.alloc (.cells #[.int .i64 b, .slice ko kn kc, .slice so sn sc] 28)).alloc (.cells #[.int .i64 0, .slice none 0 0, .slice none 0 0] 28) ∧ W0.heap.size = w.heap.size + 1 + 1 ∧ W0.heap[w.heap.size]? = some (.cells #[.int .i64 b, .slice ko kn kc, .slice so sn sc] 28 (0, 0)) ∧ W0.heap[w.heap.size + 1]? = some (.cells #[.int .i64 0, .slice none 0 0, .slice none 0 0] 28 (0, 0)) ∧ w.grownBy W0 none) := by
    refine ⟨hW0, by rw [hW0]; simp, ?_, ?_, ?_⟩
    · rw [hW0]; exact (Below.heap_alloc _ _ _ (by simp)).trans (heap_alloc_new w _)
    · rw [hW0]; exact heap_two w _ _
    · rw [hW0]; exact grownBy_alloc (World.grownBy_alloc _ _ _) _
  clear hW0
  obtain ⟨ib, TB⟩ := byteT
  go_enter Tryd.func44, Tryd.ntmps44
  go_wp2
  have HD0 : Hid (CD W0 (((w.alloc (.cells #[.int .i64 b, .slice ko kn kc, .slice so sn sc] 28)).alloc (.cells #[.int .i64 0, .slice none 0 0, .slice none 0 0] 28)).alloc (.cells #[.int .i64 b, .slice none 0 0, .slice none 0 0] 28)) (w.heap.size + 1 + 1) (w.heap.size + 3) b (.slice none 0 0) (.slice none 0 0) [] []) := by
    have e0 := HW.out.1
    have e1 := HW.out.2.1
    rw [← e0, ← e1]
    exact ⟨World.grownBy_alloc _ _ _, heap_alloc_new _ _, ElRow.nil _ _ _ _, ElRow.nil _ _ _ _, by simp, Nat.le_refl _, by omega⟩
  go_loopw [14] (fun i wr => ∃ k : Nat, k ≤ kn ∧ i = .int .i64 (k : Int) ∧ ∃ (vk : Value) (K : List El), CD W0 wr (w.heap.size + 1 + 1) (w.heap.size + 3) b vk (.slice none 0 0) K [] ∧ K.map El.tell = (K0.take k).map El.tell) (fun i _ => kn - (intOf i).toNat)
  case atStart => exact ⟨0, Nat.zero_le _, rfl, ⟨_, _, HD0.out, rfl⟩⟩
  case round =>
    clear HD0
    obtain ⟨k, hk, rfl, vk, K, hCD, ht⟩ := hrel
    have HD : Hid (CD W0 wr (w.heap.size + 1 + 1) (w.heap.size + 3) b vk (.slice none 0 0) (K) [] ∧ K.map El.tell = (K0.take k).map El.tell) := ⟨hCD, ht⟩
    clear hCD ht
    by_cases hlt : k < kn
    · obtain ⟨x, hx⟩ : ∃ x, K0[k]? = some x := ⟨_, List.getElem?_eq_getElem (by rw [HN.out.1]; exact hlt)⟩
      obtain ⟨g, hg, hE⟩ : ∃ g, ko = some ⟨g, 0, none⟩ ∧ ElAt w 32 2 g K0 := by
        rcases HA.out.1.kk with ⟨_, _, h0⟩ | h
        · simp only at h0; rw [h0] at hx; simp at hx
        · exact h
      subst hg
      have hGr : w.grownBy wr none := grownBy_trans HW.out.2.2.2.2 HD.out.1.grown
      have hAr : ElAt wr 32 2 g K0 := hE.kept (fun j hj _ => hGr.block j hj (by simp))
      obtain ⟨n0, n1, hhd, c0, c1, cd⟩ := hAr.get2 hx
      have hOw := (hAr.own k x hx).2.1.sl
      have hxl := HA.out.2.2.2.1 x (List.mem_of_getElem? hx)
      have HX : Hid (K0[k]? = some x ∧ x.hd = [n0, n1] ∧ SlB wr (oad x.o) x.d.length x.d) := ⟨hx, hhd, hOw⟩
      have hkI : (k : Int) < (kn : Int) := by omega
      have hsr := HD.out.1.slt
      clear hx hhd hOw hAr hE hGr
      go_wp2_with (at_builtin; refine wpList_append_b (by rfl) (.tmp 18) (.tmp 20) TB (by rfl) (base := wr.heap.size + 1) (g := wr.heap.size + 1) (n := 0) (cap := 0) (xs := []) (by rfl) (by exact ownsRow_made0 _ _ _ (by simp)) (oa := oad x.o) (m := x.d.length) (c := x.cp) (zs := x.d) (by rfl) (by exact HX.out.2.2.grown0 (grownBy_alloc (World.grownBy_alloc _ _ _) _)) (by omega) (by simp) ?_)
      intro g1 cp1 w1 hO1 hG1 hat1 hsz1
      have hO1' := hO1.out
      have hB1 : w1.heap[wr.heap.size]? = some (.cells #[.int .i64 n0, .int .i64 n1, .slice (oad x.o) x.d.length x.cp] 32 (0, 0)) := (hG1.out.block wr.heap.size (by simp; omega) (by simp)).trans ((Below.heap_alloc _ _ _ (by simp)).trans (heap_alloc_new wr _))
      have hg1 : wr.heap.size + 1 ≤ g1 := (hO1'.lt g1 rfl).1
      have hOw1 : Own w1 5 g1 x.d := own_made hO1' HX.out.2.2.2.1
      have hGr1 : wr.grownBy w1 none := grownBy_new (grownBy_alloc (World.grownBy_alloc wr _ none) _) hG1.out (by simp)
      have x2 : w1.cell? ⟨wr.heap.size, 2, none⟩ = some (.slice (oad x.o) x.d.length x.cp) := by simp [World.cell?, hB1]
      have f2 : w1.frozen? ⟨wr.heap.size, 2, none⟩ = false := by simp [World.frozen?, hB1]
      obtain ⟨W2, hW2⟩ : ∃ W2, W2 = w1.setCell ⟨wr.heap.size, 2, none⟩ (.slice (some ⟨g1, 0, none⟩) x.d.length cp1) := ⟨_, rfl⟩
      have hGr2 : wr.grownBy W2 none := by rw [hW2]; exact grownBy_setNew hGr1 (Nat.le_refl _)
      have hB2 : W2.heap[wr.heap.size]? = some (.cells #[.int .i64 n0, .int .i64 n1, .slice (some ⟨g1, 0, none⟩) x.d.length cp1] 32 (0, 0)) := by rw [hW2]; exact heap_setCell_same w1 _ 2 _ _ _ hB1
      have hOw2 : Own W2 5 g1 x.d := by rw [hW2]; exact hOw1.setOther (by show g1 ≠ wr.heap.size; omega)
      have HD2 : Hid (CD W0 W2 (w.heap.size + 1 + 1) (w.heap.size + 3) b vk (.slice none 0 0) (K) [] ∧ Own W2 5 g1 x.d ∧ wr.heap.size + 1 ≤ g1) := ⟨HD.out.1.more hGr2, hOw2, hg1⟩
      have y0 : W2.cell? ⟨wr.heap.size, 0, none⟩ = some (.int .i64 n0) := by simp [World.cell?, hB2]
      have y1 : W2.cell? ⟨wr.heap.size, 1, none⟩ = some (.int .i64 n1) := by simp [World.cell?, hB2]
      have y2 : W2.cell? ⟨wr.heap.size, 2, none⟩ = some (.slice (some ⟨g1, 0, none⟩) x.d.length cp1) := by simp [World.cell?, hB2]
      obtain ⟨q0, q1, q2, q3, q4⟩ := HD2.out.1.cells
      have hs2 := HD2.out.1.slt
      have hlen : K.length = k := by have h1 := congrArg List.length HD.out.2; have h2 := HN.out.1; simp at h1; omega
      have HLen : Hid (K.length = k) := hlen
      have HW2 : Hid (W2 = w1.setCell ⟨wr.heap.size, 2, none⟩ (.slice (some ⟨g1, 0, none⟩) x.d.length cp1)) := hW2
      clear hO1 hG1 hat1 hsz1 hO1' hB1 hg1 hOw1 hGr1 hGr2 hB2 hOw2 c0 c1 cd hlen hW2 hsr
      go_upto_region 6 with fail
      rw [← HW2.out]
      obtain ⟨ir, hri, hr0, hr1, hr2⟩ := info_parts Tryd.infoItem
      clear x2 f2 HW2
      go_wp2_with (at_builtin; refine wpList_append_own _ rfl _ _ 25 rfl (w.heap.size + 3) 32 ir (.agg #[.int .i64 0, .int .i64 0, .slice none 0 0]) 3 40 Tryd.underlying25 hri hr0 hr1 hr2 rfl (by decide) _ K.length (K.flatMap El.cells) rfl (by exact World.ownsRow.alloc HD2.out.1.rk.row _) ⟨W2.heap.size, 0, none⟩ 1 1 [.int .i64 n0, .int .i64 n1, .slice (some ⟨g1, 0, none⟩) x.d.length cp1] rfl rfl ?c1 ?c2 ?c3 ?c4 ?c5 ?_)
      case c1 =>
        intro j u hj
        match j, hj with
        | 0, hj => simp at hj; subst hj; simp [Addr.add]
        | 1, hj => simp at hj; subst hj; simp [Addr.add]
        | 2, hj => simp at hj; subst hj; simp [Addr.add]
      case c2 => intro u hu; simp at hu; rcases hu with rfl | rfl | rfl <;> rfl
      case c3 => have := HLen.out; unfold maxLen; omega
      case c4 => have := HLen.out; omega
      case c5 => simp; omega
      intro v' wa hown' hgrow _
      obtain ⟨g', cap', rfl⟩ : ∃ g' c', v' = .slice (some ⟨g', 0, none⟩) (K.length + 1) c' := by
        rcases hown'.2 with ⟨_, h'⟩ | ⟨g', cap', cur, h', _⟩
        · omega
        · exact ⟨g', cap', h'⟩
      obtain ⟨z, hz⟩ : ∃ z : El, z = ⟨[n0, n1], x.d, some g1, cp1⟩ := ⟨_, rfl⟩
      have hzc : z.cells = [.int .i64 n0, .int .i64 n1, .slice (some ⟨g1, 0, none⟩) x.d.length cp1] := by rw [hz]; rfl
      rw [← hzc] at hown'
      have hDa := HD2.out.1.more (World.grownBy_alloc W2 (.cells #[.int .i64 n0, .int .i64 n1, .slice (some ⟨g1, 0, none⟩) x.d.length cp1] 32) none)
      have HZ : Hid (CD W0 (wa.setCell ⟨w.heap.size + 1 + 1, 1, none⟩ (.slice (some ⟨g', 0, none⟩) (K.length + 1) cap')) (w.heap.size + 1 + 1) (w.heap.size + 3) b (.slice (some ⟨g', 0, none⟩) (K.length + 1) cap') (.slice none 0 0) (K ++ [z]) []) := by
        have hgs := HD2.out.2.2
        have hsw := HD.out.1.slt
        refine hDa.putK z ⟨by rw [hz]; rfl, ?_, by rw [hz]; simp, ?_⟩ ?_ hown' hgrow
        · rw [hz]; exact (HD2.out.2.1.grown (World.grownBy_alloc _ _ none) (by simp)).s rfl
        · rw [hz]; intro g e; simp only [Option.some.injEq] at e; omega
        · rw [hz]; intro g e; simp only [Option.some.injEq] at e; subst e
          exact ⟨fun hm => by have := (HD.out.1.rk.lt _ hm).2; omega, fun hm => by have := (HD.out.1.rs.lt _ hm).2; omega⟩
      have hsv := hDa.cellsK hgrow
      have hca : wa.cell? ⟨w.heap.size + 1 + 1, 1, none⟩ = some vk := by simp [World.cell?, hsv]
      have hfa : wa.frozen? ⟨w.heap.size + 1 + 1, 1, none⟩ = false := by simp [World.frozen?, hsv]
      have HT : Hid ((K ++ [z]).map El.tell = (K0.take (k + 1)).map El.tell) := tells_take HD.out.2 HX.out.1 (by rw [hz]; simp only [El.tell]; rw [HX.out.2.1])
      clear hown' hgrow hDa hsv HD HD2 hz hzc y0 y1 y2 q0 q1 q2 q3 q4 hs2 HLen HX
      go_wp2
      go_roundw
      case rel => exact ⟨k + 1, by omega, by go_num, _, _, HZ.out, HT.out⟩
      case measure => simp [intOf]; omega
    · obtain rfl : k = kn := by omega
      have HD0 : Hid (CD W0 wr (w.heap.size + 1 + 1) (w.heap.size + 3) b vk (.slice none 0 0) K []) := HD.out.1
      have HTK : Hid (K.map El.tell = K0.map El.tell) := by have h1 := HD.out.2; have h2 := HN.out.1; rw [← h2, List.take_length] at h1; exact h1
      have hb0 := (HD0.out.grown.block w.heap.size (by have := HW.out.2.1; omega) (by simp)).trans HW.out.2.2.1
      have a2 : wr.cell? ⟨w.heap.size, 2, none⟩ = some (.slice so sn sc) := by simp [World.cell?, hb0]
      clear HD hb0
      go_wp2
      go_loopw [33] (fun i wr => ∃ k : Nat, k ≤ sn ∧ i = .int .i64 (k : Int) ∧ ∃ (vs : Value) (S : List El), CD W0 wr (w.heap.size + 1 + 1) (w.heap.size + 3) b vk vs K S ∧ S.map El.tell = (S0.take k).map El.tell) (fun i _ => sn - (intOf i).toNat)
      case atStart => exact ⟨0, Nat.zero_le _, rfl, ⟨_, _, HD0.out, rfl⟩⟩
      case round =>
        clear HD0
        obtain ⟨k, hk, rfl, vs, S, hCD, ht⟩ := hrel
        have HD : Hid (CD W0 wr (w.heap.size + 1 + 1) (w.heap.size + 3) b vk vs K (S) ∧ S.map El.tell = (S0.take k).map El.tell) := ⟨hCD, ht⟩
        clear hCD ht
        by_cases hlt : k < sn
        · obtain ⟨x, hx⟩ : ∃ x, S0[k]? = some x := ⟨_, List.getElem?_eq_getElem (by rw [HN.out.2]; exact hlt)⟩
          obtain ⟨g, hg, hE⟩ : ∃ g, so = some ⟨g, 0, none⟩ ∧ ElAt w 74 3 g S0 := by
            rcases HA.out.1.ss with ⟨_, _, h0⟩ | h
            · simp only at h0; rw [h0] at hx; simp at hx
            · exact h
          subst hg
          have hGr : w.grownBy wr none := grownBy_trans HW.out.2.2.2.2 HD.out.1.grown
          have hAr : ElAt wr 74 3 g S0 := hE.kept (fun j hj _ => hGr.block j hj (by simp))
          obtain ⟨n0, n1, n2, hhd, c0, c1, c2, cd⟩ := hAr.get3 hx
          have hOw := (hAr.own k x hx).2.1.sl
          have hxl := HA.out.2.2.2.2 x (List.mem_of_getElem? hx)
          have HX : Hid (S0[k]? = some x ∧ x.hd = [n0, n1, n2] ∧ SlB wr (oad x.o) x.d.length x.d) := ⟨hx, hhd, hOw⟩
          have hkI : (k : Int) < (sn : Int) := by omega
          have hsr := HD.out.1.slt
          clear hx hhd hOw hAr hE hGr
          go_wp2_with (at_builtin; refine wpList_append_b (by rfl) (.tmp 37) (.tmp 39) TB (by rfl) (base := wr.heap.size + 1) (g := wr.heap.size + 1) (n := 0) (cap := 0) (xs := []) (by rfl) (by exact ownsRow_made0 _ _ _ (by simp)) (oa := oad x.o) (m := x.d.length) (c := x.cp) (zs := x.d) (by rfl) (by exact HX.out.2.2.grown0 (grownBy_alloc (World.grownBy_alloc _ _ _) _)) (by omega) (by simp) ?_)
          intro g1 cp1 w1 hO1 hG1 hat1 hsz1
          have hO1' := hO1.out
          have hB1 : w1.heap[wr.heap.size]? = some (.cells #[.int .i64 n0, .int .i64 n1, .int .i64 n2, .slice (oad x.o) x.d.length x.cp] 74 (0, 0)) := (hG1.out.block wr.heap.size (by simp; omega) (by simp)).trans ((Below.heap_alloc _ _ _ (by simp)).trans (heap_alloc_new wr _))
          have hg1 : wr.heap.size + 1 ≤ g1 := (hO1'.lt g1 rfl).1
          have hOw1 : Own w1 5 g1 x.d := own_made hO1' HX.out.2.2.2.1
          have hGr1 : wr.grownBy w1 none := grownBy_new (grownBy_alloc (World.grownBy_alloc wr _ none) _) hG1.out (by simp)
          have x2 : w1.cell? ⟨wr.heap.size, 3, none⟩ = some (.slice (oad x.o) x.d.length x.cp) := by simp [World.cell?, hB1]
          have f2 : w1.frozen? ⟨wr.heap.size, 3, none⟩ = false := by simp [World.frozen?, hB1]
          obtain ⟨W2, hW2⟩ : ∃ W2, W2 = w1.setCell ⟨wr.heap.size, 3, none⟩ (.slice (some ⟨g1, 0, none⟩) x.d.length cp1) := ⟨_, rfl⟩
          have hGr2 : wr.grownBy W2 none := by rw [hW2]; exact grownBy_setNew hGr1 (Nat.le_refl _)
          have hB2 : W2.heap[wr.heap.size]? = some (.cells #[.int .i64 n0, .int .i64 n1, .int .i64 n2, .slice (some ⟨g1, 0, none⟩) x.d.length cp1] 74 (0, 0)) := by rw [hW2]; exact heap_setCell_same w1 _ 3 _ _ _ hB1
          have hOw2 : Own W2 5 g1 x.d := by rw [hW2]; exact hOw1.setOther (by show g1 ≠ wr.heap.size; omega)
          have HD2 : Hid (CD W0 W2 (w.heap.size + 1 + 1) (w.heap.size + 3) b vk vs K (S) ∧ Own W2 5 g1 x.d ∧ wr.heap.size + 1 ≤ g1) := ⟨HD.out.1.more hGr2, hOw2, hg1⟩
          have y0 : W2.cell? ⟨wr.heap.size, 0, none⟩ = some (.int .i64 n0) := by simp [World.cell?, hB2]
          have y1 : W2.cell? ⟨wr.heap.size, 1, none⟩ = some (.int .i64 n1) := by simp [World.cell?, hB2]
          have y2 : W2.cell? ⟨wr.heap.size, 2, none⟩ = some (.int .i64 n2) := by simp [World.cell?, hB2]
          have y3 : W2.cell? ⟨wr.heap.size, 3, none⟩ = some (.slice (some ⟨g1, 0, none⟩) x.d.length cp1) := by simp [World.cell?, hB2]
          obtain ⟨q0, q1, q2, q3, q4⟩ := HD2.out.1.cells
          have hs2 := HD2.out.1.slt
          have hlen : S.length = k := by have h1 := congrArg List.length HD.out.2; have h2 := HN.out.2; simp at h1; omega
          have HLen : Hid (S.length = k) := hlen
          have HW2 : Hid (W2 = w1.setCell ⟨wr.heap.size, 3, none⟩ (.slice (some ⟨g1, 0, none⟩) x.d.length cp1)) := hW2
          clear hO1 hG1 hat1 hsz1 hO1' hB1 hg1 hOw1 hGr1 hGr2 hB2 hOw2 c0 c1 c2 cd hlen hW2 hsr
          go_upto_region 12 with fail
          rw [← HW2.out]
          obtain ⟨ir, hri, hr0, hr1, hr2⟩ := info_parts Tryd.infoSession
          clear x2 f2 HW2
          go_wp2_with (at_builtin; refine wpList_append_own _ rfl _ _ 26 rfl (w.heap.size + 3) 74 ir (.agg #[.int .i64 0, .int .i64 0, .int .i64 0, .slice none 0 0]) 4 48 Tryd.underlying26 hri hr0 hr1 hr2 rfl (by decide) _ S.length (S.flatMap El.cells) rfl (by exact World.ownsRow.alloc HD2.out.1.rs.row _) ⟨W2.heap.size, 0, none⟩ 1 1 [.int .i64 n0, .int .i64 n1, .int .i64 n2, .slice (some ⟨g1, 0, none⟩) x.d.length cp1] rfl rfl ?c1 ?c2 ?c3 ?c4 ?c5 ?_)
          case c1 =>
            intro j u hj
            match j, hj with
            | 0, hj => simp at hj; subst hj; simp [Addr.add]
            | 1, hj => simp at hj; subst hj; simp [Addr.add]
            | 2, hj => simp at hj; subst hj; simp [Addr.add]
            | 3, hj => simp at hj; subst hj; simp [Addr.add]
          case c2 => intro u hu; simp at hu; rcases hu with rfl | rfl | rfl | rfl <;> rfl
          case c3 => have := HLen.out; unfold maxLen; omega
          case c4 => have := HLen.out; omega
          case c5 => simp; omega
          intro v' wa hown' hgrow _
          obtain ⟨g', cap', rfl⟩ : ∃ g' c', v' = .slice (some ⟨g', 0, none⟩) (S.length + 1) c' := by
            rcases hown'.2 with ⟨_, h'⟩ | ⟨g', cap', cur, h', _⟩
            · omega
            · exact ⟨g', cap', h'⟩
          obtain ⟨z, hz⟩ : ∃ z : El, z = ⟨[n0, n1, n2], x.d, some g1, cp1⟩ := ⟨_, rfl⟩
          have hzc : z.cells = [.int .i64 n0, .int .i64 n1, .int .i64 n2, .slice (some ⟨g1, 0, none⟩) x.d.length cp1] := by rw [hz]; rfl
          rw [← hzc] at hown'
          have hDa := HD2.out.1.more (World.grownBy_alloc W2 (.cells #[.int .i64 n0, .int .i64 n1, .int .i64 n2, .slice (some ⟨g1, 0, none⟩) x.d.length cp1] 74) none)
          have HZ : Hid (CD W0 (wa.setCell ⟨w.heap.size + 1 + 1, 2, none⟩ (.slice (some ⟨g', 0, none⟩) (S.length + 1) cap')) (w.heap.size + 1 + 1) (w.heap.size + 3) b vk (.slice (some ⟨g', 0, none⟩) (S.length + 1) cap') K (S ++ [z])) := by
            have hgs := HD2.out.2.2
            have hsw := HD.out.1.slt
            refine hDa.putS z ⟨by rw [hz]; rfl, ?_, by rw [hz]; simp, ?_⟩ ?_ hown' hgrow
            · rw [hz]; exact (HD2.out.2.1.grown (World.grownBy_alloc _ _ none) (by simp)).s rfl
            · rw [hz]; intro g e; simp only [Option.some.injEq] at e; omega
            · rw [hz]; intro g e; simp only [Option.some.injEq] at e; subst e
              exact ⟨fun hm => by have := (HD.out.1.rk.lt _ hm).2; omega, fun hm => by have := (HD.out.1.rs.lt _ hm).2; omega⟩
          have hsv := hDa.cellsS hgrow
          have hca : wa.cell? ⟨w.heap.size + 1 + 1, 2, none⟩ = some vs := by simp [World.cell?, hsv]
          have hfa : wa.frozen? ⟨w.heap.size + 1 + 1, 2, none⟩ = false := by simp [World.frozen?, hsv]
          have HT : Hid ((S ++ [z]).map El.tell = (S0.take (k + 1)).map El.tell) := tells_take HD.out.2 HX.out.1 (by rw [hz]; simp only [El.tell]; rw [HX.out.2.1])
          clear hown' hgrow hDa hsv HD HD2 hz hzc y0 y1 y2 y3 q0 q1 q2 q3 q4 hs2 HLen HX
          go_wp2
          go_roundw
          case rel => exact ⟨k + 1, by omega, by go_num, _, _, HZ.out, HT.out⟩
          case measure => simp [intOf]; omega
        · obtain rfl : k = sn := by omega
          have h2 := HN.out.2
          have hT := HD.out.2
          rw [← h2, List.take_length] at hT
          obtain ⟨q0, q1, q2, q3, q4⟩ := HD.out.1.cells
          have hb1 := (HD.out.1.grown.block (w.heap.size + 1) (by have := HW.out.2.1; omega) (by simp)).trans HW.out.2.2.2.1
          have r0 : wr.cell? ⟨w.heap.size + 1, 0, none⟩ = some (.int .i64 0) := by simp [World.cell?, hb1]
          have r1 : wr.cell? ⟨w.heap.size + 1, 1, none⟩ = some (.slice none 0 0) := by simp [World.cell?, hb1]
          have r2 : wr.cell? ⟨w.heap.size + 1, 2, none⟩ = some (.slice none 0 0) := by simp [World.cell?, hb1]
          have y0 : wr.frozen? ⟨w.heap.size + 1, 0, none⟩ = false := by simp [World.frozen?, hb1]
          have y1 : wr.frozen? ⟨w.heap.size + 1, 1, none⟩ = false := by simp [World.frozen?, hb1]
          have y2 : wr.frozen? ⟨w.heap.size + 1, 2, none⟩ = false := by simp [World.frozen?, hb1]
          have HE : Hid (S.map El.tell = S0.map El.tell ∧ K.map El.tell = K0.map El.tell) := ⟨hT, HTK.out⟩
          obtain ⟨oa1, ca1, hf1, -, -, -, -⟩ := HD.out.1.rk.elO
          obtain ⟨oa2, ca2, hf2, -, -, -, -⟩ := HD.out.1.rs.elO
          clear hb1 hT h2
          subst hf1
          subst hf2
          go_wp2
          refine bodyPost_ret (v := .agg #[.int .i64 b, .slice oa1 K.length ca1, .slice oa2 S.length ca2]) (by simp [results, Tryd.results44, go_sem, r0, r1, r2]) rfl ⟨_, _, K, S, rfl, HE.out.2, HE.out.1, ?_, ?_, HD.out.1.far, ?_⟩
          · have hG : ∀ (X : World) (j : Nat) (u : Value), X.grownBy (X.setCell ⟨w.heap.size + 1, j, none⟩ u) (some (w.heap.size + 1)) := fun X j u => grownBy_setCell (grownBy_refl _ _)
            have hlt : ∀ k, some (w.heap.size + 1) = some k → k < w.heap.size + 3 := fun k e => by simp only [Option.some.injEq] at e; omega
            exact (((HD.out.1.rk.grown (hG _ _ _) hlt).grown (hG _ _ _) hlt).grown (hG _ _ _) hlt).lower (by omega)
          · have hG : ∀ (X : World) (j : Nat) (u : Value), X.grownBy (X.setCell ⟨w.heap.size + 1, j, none⟩ u) (some (w.heap.size + 1)) := fun X j u => grownBy_setCell (grownBy_refl _ _)
            have hlt : ∀ k, some (w.heap.size + 1) = some k → k < w.heap.size + 3 := fun k e => by simp only [Option.some.injEq] at e; omega
            exact (((HD.out.1.rs.grown (hG _ _ _) hlt).grown (hG _ _ _) hlt).grown (hG _ _ _) hlt).lower (by omega)
          · exact grownBy_setNew (grownBy_setNew (grownBy_setNew (grownBy_trans HW.out.2.2.2.2 HD.out.1.grown) (by simp)) (by simp)) (by simp)
end Go.Proofs.YtdajcpcajdhplaaDoor
