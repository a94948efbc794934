/-
  FnExactFrameScan: the law's walk, and what it gives for every argument.
-/
import Derived.Test.YteacgefklafofaaDoorScanImpl
import Derived.Test.YteacgefklafofaaDoorSpecScan
import Derived.Test.YteacgefklafofaaDoorRecMark
import Derived.Test.YteacgefklafofaaDoorOpenB
import Derived.Test.YteacgefklafofaaDoorTabLaid
import Derived.Test.YteacgefklafofaaDoorPost
namespace Go.Proofs.YteacgefklafofaaDoor
open Go.RowKit

def sumL (l : List (Nat × List Nat)) : Nat := (l.map (fun p => 12 + p.2.length)).sum
theorem scanL_sum (k : Nat) : ∀ zs, sumL (scanL k zs).1 ≤ zs.length := by
  induction k with
  | zero => intro zs; simp [scanL, sumL]
  | succ k ih =>
    intro zs
    by_cases h : fault zs ≠ 0 ∨ zs.length = 0
    · rw [scanL, if_pos h]; simp [sumL]
    · rw [scanL, if_neg h]
      have h1 := ih (zs.drop (recSize zs))
      have h2 := (fault_ok _ h).2.2.1
      have h3 : 12 + recN zs ≤ recSize zs := by unfold recSize; omega
      simp only [List.length_drop] at h1
      simp only [sumL, List.map_cons, List.sum_cons] at h1 ⊢
      have h4 : ((zs.drop 12).take (recN zs)).length ≤ recN zs := by simp; omega
      omega
theorem sum_take_le (l : List Nat) (k : Nat) : (l.take k).sum ≤ l.sum := by
  have h : (l.take k ++ l.drop k).sum = l.sum := by rw [List.take_append_drop]
  rw [List.sum_append] at h
  omega
theorem mAt_sum (R : List Rc) (m k : Nat) (hk : k ≤ R.length) : mAt R m k ≤ m + ((R.map (fun r => 12 + r.data.length)).take k).sum := by
  induction k with
  | zero => simp [mAt]
  | succ k ih =>
    have h1 := ih (by omega)
    have hr : R[k]? = some (R[k]'(by omega)) := List.getElem?_eq_getElem (by omega)
    rw [List.take_succ_eq_append_getElem (by simp; omega), List.sum_append]
    simp only [mAt, hr, Option.map_some, Option.getD_some, List.getElem_map, List.sum_cons, List.sum_nil]
    omega
theorem scan_marks {zs : List Nat} {R : List Rc} (h : R.map Rc.tell = (scan zs).1) (hz : zs.length ≤ 1048576) : (∀ k, k ≤ R.length → mAt R 1 k ≤ 1073741000) ∧ (∀ r ∈ R, r.data.length ≤ 1048576) ∧ R.length ≤ 1048576 := by
  have h1 : sumL (R.map Rc.tell) ≤ zs.length := by rw [h]; exact scanL_sum _ zs
  have h2 : (R.map (fun r => 12 + r.data.length)).sum = sumL (R.map Rc.tell) := by simp [sumL, Rc.tell, Function.comp_def]
  have hm : ∀ (l : List Rc) (r : Rc), r ∈ l → r.data.length ≤ (l.map (fun r => 12 + r.data.length)).sum := by
    intro l
    induction l with
    | nil => intro r hr; cases hr
    | cons x l ih =>
      intro r hr
      simp only [List.map_cons, List.sum_cons]
      rcases List.mem_cons.1 hr with rfl | hr
      · omega
      · have := ih r hr; omega
  have hlen : ∀ l : List Rc, l.length ≤ (l.map (fun r => 12 + r.data.length)).sum := by
    intro l
    induction l with
    | nil => simp
    | cons x l ih => simp only [List.map_cons, List.sum_cons, List.length_cons]; omega
  refine ⟨fun k hk => ?_, fun r hr => ?_, ?_⟩
  · have h3 := mAt_sum R 1 k hk
    have h4 := sum_take_le (R.map (fun r => 12 + r.data.length)) k
    omega
  · have := hm R r hr; omega
  · have := hlen R; omega
theorem SlB.below {w W : World} {oa : Option Addr} {len : Nat} {zs : List Nat} (h : SlB w oa len zs) (hb : Below w.heap.size w W) : SlB W oa len zs := by
  obtain ⟨h1, h2, h3⟩ := h
  refine ⟨h1, h2, fun hn => ?_⟩
  obtain ⟨b, off, rfl, hc⟩ := h3 hn
  exact ⟨b, off, rfl, fun i hi => (hb.cell (p := ⟨b, off + i, none⟩) (cell_block_lt (hc i hi))).trans (hc i hi)⟩
theorem Tab.below {w W : World} (h : Tab w) (hb : Below w.heap.size w W) : Tab W := fun r hr => (hb.cell (p := ⟨0, r, none⟩) (cell_block_lt (h r hr))).trans (h r hr)
theorem RecRow.below {w W : World} {base : Nat} {v : Value} {R : List Rc} (h : RecRow w base v R) (hb : Below w.heap.size w W) : RecRow W base v R := h.kept fun k _ hk => hb.block k hk
theorem RecRow.sl2 {w : World} {base : Nat} {oa : Option Addr} {n cap : Nat} {R : List Rc} (h : RecRow w base (.slice oa n cap) R) : RecSl w oa R := by
  obtain ⟨oa', cap', he, hs⟩ := h.sl
  simp only [Value.slice.injEq] at he
  rw [he.1]
  exact hs
theorem below_grown2 {n : Nat} {a b c : World} (h : Below n a b) (hn : n ≤ b.heap.size) (hg : b.grownBy c none) : Below n a c := h.grown hg hn (fun k e => by cases e)

set_option maxHeartbeats 400000 in
theorem markRecordS_nil (m : Nat) (w : World) : Calls Tryd.prog 23 #[.slice none 0 0, .int .i64 (m : Int)] w fun e w' => e = .returned (.int .i64 (m : Int)) ∧ w' = w := by
  go_enter Tryd.func23, Tryd.ntmps23
  go_wp2
  go_loop [1, 5] (fun v i => i = .int .i64 0 ∧ v = .int .i64 (m : Int)) (fun _ _ => 0)
  case atStart => exact ⟨rfl, rfl⟩
  case round =>
    obtain ⟨rfl, rfl⟩ := hrel
    go_wp2
    go_ret
    exact ⟨rfl, rfl⟩
set_option maxHeartbeats 400000 in
theorem heldRecordS_nil (m : Nat) (w : World) : Calls Tryd.prog 24 #[.slice none 0 0, .int .i64 (m : Int)] w fun e w' => e = .returned (.int .i64 (m : Int)) ∧ w' = w := by
  go_enter Tryd.func24, Tryd.ntmps24
  go_wp2
  go_loop [1, 5] (fun v i => i = .int .i64 0 ∧ v = .int .i64 (m : Int)) (fun _ _ => 0)
  case atStart => exact ⟨rfl, rfl⟩
  case round =>
    obtain ⟨rfl, rfl⟩ := hrel
    go_wp2
    go_ret
    exact ⟨rfl, rfl⟩
/-- marks, and then the look at them: one number -/
theorem markHeld (base : Nat) (v : Value) (R : List Rc) (w : World) (h : RecRow w base v R) (hb : (∀ k, k ≤ R.length → mAt R 1 k ≤ 1073741000) ∧ (∀ r ∈ R, r.data.length ≤ 1048576) ∧ R.length ≤ 1048576) :
    ∃ K : Nat, K ≤ 1073741000 ∧ Calls Tryd.prog 23 #[v, .int .i64 1] w fun e w' => e = .returned (.int .i64 (K : Int)) ∧ Below base w w' ∧
      Hid (∀ W : World, W.heap = w'.heap → Calls Tryd.prog 24 #[v, .int .i64 1] W fun e W' => e = .returned (.int .i64 (K : Int)) ∧ W' = W) := by
  rcases h.form with ⟨rfl, rfl⟩ | ⟨g, cap, cur, rfl, hbg, -, -, -, -⟩
  · refine ⟨1, by omega, (markRecordS_nil 1 w).mono ?_⟩
    rintro e w' ⟨rfl, rfl⟩
    exact ⟨rfl, Below.refl _ _, fun W _ => heldRecordS_nil 1 W⟩
  · refine ⟨mAt R 1 R.length, hb.1 _ (Nat.le_refl _), (markRecordS_at g cap 1 R w base h.at hbg (fun r hr => (h.2.1 r hr).1) hb.1 hb.2.1 hb.2.2).mono ?_⟩
    rintro e w' ⟨rfl, hA, hB⟩
    refine ⟨rfl, hB, fun W hW => heldRecordS_at g cap 1 R W ?_ hb.1 hb.2.1 hb.2.2⟩
    obtain ⟨⟨cur, hg, hc⟩, hO, hd⟩ := hA
    exact ⟨⟨cur, by rw [hW]; exact hg, hc⟩, fun i r hr => (hO i r hr).heap hW, hd⟩
end Go.Proofs.YteacgefklafofaaDoor
namespace Go.Proofs.YteacgefklafofaaDoor.fnExactFrameScan
open Go.ChangeShapes Go.WideShapes Go.ChangeAt Go.RowKit

set_option maxRecDepth 100000 in
set_option maxHeartbeats 4000000 in
theorem walk (oa : Option Addr) (len cap : Nat) (zs : List Nat) (w : World) (hsl : SlB w oa len zs) (ht : Tab w) (hmx : len ≤ maxLen) :
    Calls Tryd.prog 5 #[.slice oa len cap] w fun e w' => e = .returned (.bool true) ∧ Below w.heap.size w w' := by
  unfold maxLen at hmx
  by_cases hbig : 1048576 < len
  · clear hsl ht
    go_enter Tryd.func5, Tryd.ntmps5
    go_wp2
    go_ret
    exact ⟨rfl, Below.refl _ _⟩
  · have HS : Hid (SlB w oa len zs) := hsl
    have HT : Hid (Tab w) := ht
    have hl : zs.length = len := hsl.1
    clear hsl ht
    go_enter Tryd.func5, Tryd.ntmps5
    go_wp2_with fail
    refine (toByteS_any oa len cap zs _ HS.out (by omega)).mono ?_
    rintro e w1 ⟨rfl, hO1, hG1⟩
    have H1 : Hid (Own w1 5 w.heap.size zs ∧ w.grownBy w1 none) := ⟨hO1, hG1⟩
    clear hO1 hG1
    go_wp2_with fail
    refine (specScan_any w.heap.size 0 len len zs w1 (H1.out.1.sl len hl) (Nat.le_refl _) (by unfold maxLen; omega) (by omega)).mono ?_
    rintro e w2 ⟨v0, R0, rfl, hR0, ⟨ht0, -⟩, hG2⟩
    obtain ⟨o0, c0, rfl, -⟩ := hR0.sl
    have H2 : Hid (RecRow w2 w1.heap.size (.slice o0 R0.length c0) R0 ∧ R0.map Rc.tell = (scan zs).1 ∧ w.grownBy w2 none) := ⟨hR0, ht0, grownBy_trans H1.out.2 hG2⟩
    clear hR0 ht0 hG2
    go_wp2_with fail
    refine (toByteS_any oa len cap zs _ (HS.out.grown0 H2.out.2.2) (by omega)).mono ?_
    rintro e w3 ⟨rfl, hO3, hG3⟩
    have H3 : Hid (Own w3 5 w2.heap.size zs ∧ w2.grownBy w3 none ∧ w.grownBy w3 none) := ⟨hO3, hG3, grownBy_trans H2.out.2.2 hG3⟩
    have hx3 : w2.heap.size < w3.heap.size := hO3.lt
    clear hO3 hG3
    go_wp2_with fail
    refine (implScan_any w2.heap.size 0 len len zs w3 (H3.out.1.sl len hl) (Tab_grown HT.out H3.out.2.2) (Nat.le_refl _) (by unfold maxLen; omega) (by omega) hx3).mono ?_
    rintro e w4 ⟨vg, Rg, rfl, hRg, htg, hG4⟩
    obtain ⟨og, cg, rfl, -⟩ := hRg.sl
    have hz : zs.length ≤ 1048576 := by omega
    have H4 : Hid (RecRow w4 w3.heap.size (.slice og Rg.length cg) Rg ∧ Rg.map Rc.tell = (scan zs).1 ∧ w3.grownBy w4 none ∧ Own w4 5 w2.heap.size zs) := ⟨hRg, htg, hG4, H3.out.1.grown hG4 (by simp)⟩
    have HZ : Hid (zs.length ≤ 1048576) := hz
    clear hRg htg hG4 hz
    have HET : Hid (Rg.map Rc.tell = R0.map Rc.tell) := H4.out.2.1.trans H2.out.2.1.symm
    have HBd := scan_marks H4.out.2.1 HZ.out
    have HBD : Hid (_ ∧ _ ∧ _) := HBd
    clear HBd
    have H24 : Hid (w2.grownBy w4 none) := grownBy_trans H3.out.2.1 H4.out.2.2.1
    obtain ⟨V, hV⟩ : ∃ V, (scan zs).2.1 = V := ⟨_, rfl⟩
    obtain ⟨RS, hRS⟩ : ∃ V, (scan zs).2.2 = V := ⟨_, rfl⟩
    have HVR : Hid ((scan zs).2.1 = V ∧ (scan zs).2.2 = RS) := ⟨hV, hRS⟩
    rw [hV, hRS]
    clear hV hRS
    obtain ⟨ng, hng⟩ : ∃ n, Rg.length = n := ⟨_, rfl⟩
    obtain ⟨n0, hn0⟩ : ∃ n, R0.length = n := ⟨_, rfl⟩
    have HNN : Hid (Rg.length = ng ∧ R0.length = n0) := ⟨hng, hn0⟩
    have HEQ : Hid (∀ W : World, RecSl W og Rg → RecSl W o0 R0 → Calls Tryd.prog 22 #[.slice og ng cg, .slice o0 n0 c0] W fun e W' => e = .returned (.bool true) ∧ W.grownBy W' none) := fun W h1 h2 => by
      rw [← hng, ← hn0]
      exact eqRecordS_same og o0 cg c0 Rg R0 W h1 h2 HET.out HBD.out.2.2 HBD.out.2.1
    rw [hng, hn0]
    clear hng hn0
    go_wp2_with fail
    refine (HEQ.out w4 H4.out.1.sl2 (H2.out.1.grown H24.out (by simp)).sl2).mono ?_
    rintro e w5 ⟨rfl, hG5⟩
    have H5 : Hid (w4.grownBy w5 none ∧ w.grownBy w5 none) := ⟨hG5, grownBy_trans (grownBy_trans H3.out.2.2 H4.out.2.2.1) hG5⟩
    clear hG5
    go_wp2_with fail
    refine (toByteS_any oa len cap zs _ (HS.out.grown0 H5.out.2) (by omega)).mono ?_
    rintro e w6 ⟨rfl, hO6, hG6⟩
    have H6 : Hid (Own w6 5 w5.heap.size zs ∧ w4.grownBy w6 none) := ⟨hO6, grownBy_trans H5.out.1 hG6⟩
    clear hO6 hG6
    go_wp2_with fail
    refine (eqByteS_same _ _ len len len zs _ ((H4.out.2.2.2.grown H6.out.2 (by simp)).sl len hl) (H6.out.1.sl len hl) (by omega)).mono ?_
    rintro e w7 ⟨rfl, hG7⟩
    have H7 : Hid (w4.grownBy w7 none) := grownBy_trans H6.out.2 hG7
    clear hG7
    go_wp2_with fail
    refine (markByteS_own w2.heap.size len len 1 zs w7 (H4.out.2.2.2.grown H7.out (by simp)) hl (by omega) (by omega)).mono ?_
    rintro e w8 ⟨rfl, -, hG8⟩
    have hR8 : RecRow w8 w3.heap.size (.slice og Rg.length cg) Rg := (H4.out.1.grown H7.out (by simp)).grown hG8 (fun k e => by cases e; exact hx3)
    have hB8 : Below w2.heap.size w2 w8 := (below_of_grown (grownBy_trans H24.out H7.out)).grown hG8 (by have := (grownBy_trans H24.out H7.out).size; omega) (fun k e => by cases e; exact Nat.le_refl _)
    have hs8 : w3.heap.size ≤ w8.heap.size := by have := H4.out.2.2.1.size; have := H7.out.size; have := hG8.size; omega
    have H8 : Hid (RecRow w8 w3.heap.size (.slice og Rg.length cg) Rg ∧ Below w2.heap.size w2 w8 ∧ w3.heap.size ≤ w8.heap.size) := ⟨hR8, hB8, hs8⟩
    clear hG8 hR8 hB8 hs8
    have hlz : ¬ ((1 : Int) + (len : Int) < 0) := by omega
    go_wp2_with fail
    refine (HEQ.out w8 H8.out.1.sl2 (H2.out.1.below H8.out.2.1).sl2).mono ?_
    rintro e w9 ⟨rfl, hG9⟩
    have H9 : Hid (RecRow w9 w3.heap.size (.slice og Rg.length cg) Rg ∧ Below w2.heap.size w2 w9 ∧ w3.heap.size ≤ w9.heap.size) := ⟨H8.out.1.grown hG9 (by simp), below_grown2 H8.out.2.1 (by have := H8.out.2.2; omega) hG9, Nat.le_trans H8.out.2.2 hG9.size⟩
    clear hG9
    obtain ⟨K, hK, HMK⟩ := markHeld w3.heap.size (.slice og Rg.length cg) Rg w9 H9.out.1 HBD.out
    rw [HNN.out.1] at HMK
    have HMK2 : Hid (Calls _ _ _ _ _) := HMK
    clear HMK
    go_wp2_with fail
    refine HMK2.out.mono ?_
    clear HMK2
    rintro e w10 ⟨rfl, hB10, hHeld⟩
    have H10 : Hid (Below w2.heap.size w2 w10 ∧ w3.heap.size ≤ w10.heap.size) := ⟨H9.out.2.1.trans (hB10.mono (by omega)), Nat.le_trans H9.out.2.2 hB10.size⟩
    clear hB10
    go_wp2_with fail
    refine (hHeld.out w10 rfl).mono ?_
    clear hHeld
    rintro e w11 ⟨rfl, rfl⟩
    have hwB : Below w.heap.size w w11 := (below_of_grown H2.out.2.2).trans (H10.out.1.mono H2.out.2.2.size)
    have HB11 : Hid (Below w.heap.size w w11) := hwB
    clear hwB
    go_wp2_with fail
    refine (toByteS_any oa len cap zs _ (HS.out.below HB11.out) (by omega)).mono ?_
    rintro e w12 ⟨rfl, hO12, hG12⟩
    have H12 : Hid (Own w12 5 w11.heap.size zs ∧ w11.grownBy w12 none ∧ Below w.heap.size w w12) := ⟨hO12, hG12, below_grown2 HB11.out HB11.out.size hG12⟩
    have hx12 : w11.heap.size < w12.heap.size := hO12.lt
    clear hO12 hG12
    go_wp2_with fail
    refine (implScan_any w11.heap.size 0 len len zs w12 (H12.out.1.sl len hl) (HT.out.below H12.out.2.2) (Nat.le_refl _) (by unfold maxLen; omega) (by omega) hx12).mono ?_
    rintro e w13 ⟨vh, Rh, rfl, hRh, hth, hG13⟩
    obtain ⟨oh, ch, rfl, -⟩ := hRh.sl
    have hBd := scan_marks hth HZ.out
    have H13 : Hid (RecRow w13 w12.heap.size (.slice oh Rh.length ch) Rh ∧ Below w2.heap.size w2 w13 ∧ Below w.heap.size w w13) :=
      ⟨hRh, below_grown2 (below_grown2 H10.out.1 (by have := H10.out.2; omega) H12.out.2.1) (by have := H12.out.2.1.size; have := H10.out.2; omega) hG13, below_grown2 H12.out.2.2 (by have := H12.out.2.2.size; omega) hG13⟩
    have HEQ2 : Hid (Calls _ _ _ _ _) := eqRecordS_same oh o0 ch c0 Rh R0 w13 H13.out.1.sl2 (H2.out.1.below H13.out.2.1).sl2 (hth.trans H2.out.2.1.symm) hBd.2.2 hBd.2.1
    rw [HNN.out.2] at HEQ2
    obtain ⟨nh, hnh⟩ : ∃ n, Rh.length = n := ⟨_, rfl⟩
    rw [hnh] at HEQ2 ⊢
    rw [HVR.out.1, HVR.out.2]
    clear hRh hth hG13 hBd hnh
    go_wp2_with fail
    refine HEQ2.out.mono ?_
    clear HEQ2
    rintro e w14 ⟨rfl, hG14⟩
    have H14 : Hid (Below w.heap.size w w14) := below_grown2 H13.out.2.2 H13.out.2.2.size hG14
    clear hG14
    go_wp2
    go_ret
    exact ⟨rfl, H14.out⟩

theorem cellsU8 : Tryd.prog.cellsOf 5 = 1 := by kernel_rfl
theorem contract (H : Type) (enc : TypeId × Value → H) (W : World) (base : Nat) (args : Array Value) (ds gs : List (DataW H)) (before : List MemPlace)
    (hval : ∀ (j : Nat) t v, Tryd.f5.params[j]? = some t → args[j]? = some v → Value.okWide Tryd.prog W .any base t v)
    (hW : DataW.Whole enc Tryd.prog Tryd.f5.params.toList Rows.fnExactFrameScanSpec.vars false W args.toList ds gs before) (hT : Tab W) :
    Calls Tryd.prog 5 args W fun e W' => ∃ v, e = .returned v ∧ Rows.fnExactFrameScanSpec.post enc Tryd.prog Tryd.f5 false true false false W args v W' := by
  have hW' := hW
  obtain ⟨p, q, hA0, hV, rfl, hfz, hnd⟩ := hW
  have hA : DataW.TrodAll enc Tryd.prog W 0 (fun _ => true) true Tryd.f5.params.toList args.toList ds p := hA0
  rw [Tryd.params5] at hA hval
  obtain ⟨v0, vs0, d0, ds0, p0, q0, hargs, rfl, rfl, h0, r0⟩ := trodAll_cons hA
  obtain ⟨rfl, rfl, rfl⟩ := trodAll_nil r0
  obtain rfl : args = #[v0] := by cases args; simp_all
  obtain ⟨a0, len0, cap0, rfl⟩ := okWide_slice Tryd.underlying22 (hval 0 22 v0 rfl rfl)
  obtain ⟨zs, hs, hmx⟩ := slb_open Tryd.underlying22 Tryd.underlying5 cellsU8 h0
  have hV1 : DataW.TrodVars enc Tryd.prog W (fun _ => true) [TabLaid.nm] gs q := hV
  obtain ⟨g, t, cs, fuel, d, p', rfl, hg, ht, hvar, hd, rfl⟩ := trodVars_one hV1
  refine (walk a0 len0 cap0 zs W hs hT hmx).mono fun e W' ⟨he, hgr⟩ => ?_
  subst he
  exact ⟨_, rfl, Post.law TabLaid.laidOut hgr hW' (by kernel_rfl) (TabLaid.vars_ok hT) (tb := 4) (by kernel_rfl) Tryd.underlying4 rfl⟩
end Go.Proofs.YteacgefklafofaaDoor.fnExactFrameScan
