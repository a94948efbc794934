/-
  FnExactTellReport: the law's walk.
-/
import Derived.Test.YtkjjglnbbahbkaaDoorSpRep
import Derived.Test.YtkjjglnbbahbkaaDoorEqT3
import Derived.Test.YtkjjglnbbahbkaaDoorSzT2
import Derived.Test.YtkjjglnbbahbkaaDoorToT4
import Derived.Test.YtkjjglnbbahbkaaDoorMarkT3
import Derived.Test.YtkjjglnbbahbkaaDoorFlatT
import Derived.Test.YtkjjglnbbahbkaaDoorPost
import Derived.Test.YtkjjglnbbahbkaaDoorRows
import Derived.Lib.LaidTab
import Derived.Lib.SmallJoins
import Derived.Stop.LaidErr
namespace Go.Proofs.YtkjjglnbbahbkaaDoor.fnExactTellReport
open Go.ChangeShapes Go.WideShapes Go.ChangeAt Go.RowKit

theorem own : ownKnob Tryd.prog.godebug = none := by kernel_rfl
theorem laidOut : laidOutB Tryd.prog = true := by kernel_rfl
theorem gTab : Tryd.prog.globalNamed pow10 = some 0 := by kernel_rfl
theorem gTabType : (Tryd.prog.globals[0]?).map (·.type) = some 139 := by kernel_rfl
theorem cellsTab : Tryd.prog.cellsOf 139 = 20 := by kernel_rfl
theorem cellsU64 : Tryd.prog.cellsOf 70 = 1 := by kernel_rfl
theorem cellsRep : Tryd.prog.cellsOf 24 = 2 := by kernel_rfl
theorem tab {W : World} (h : laidMetH Tryd.prog Rows.fnExactTellReportRow.laid W) : Lib.TabIs Tryd.prog W pow10 .u64 Lib.pow10Tab :=
  Lib.tabIs_of_head (rest := []) gTab gTabType Tryd.underlying139 Tryd.underlying70 cellsU64 cellsTab (show laidMet Tryd.prog Rows.fnExactTellReportRow.laid W from h).tail.tail

theorem mkH {P : Prop} (h : P) : Hid P := h
/-- nothing old turned but in T -/
structure OnlyT (T : Nat → Prop) (w w' : World) : Prop where
  os : w'.os = w.os
  tape : w'.tape = w.tape
  output : w'.output = w.output
  size : w.heap.size ≤ w'.heap.size
  block : ∀ k, k < w.heap.size → ¬ T k → w'.heap[k]? = w.heap[k]?
theorem OnlyT.own {T : Nat → Prop} {w w' : World} (h : OnlyT T w w') {e : TypeId} {g : Nat} {zs : List Nat} (ho : Own w e g zs) (hT : ¬ T g) : Own w' e g zs := ho.of_block (h.block g ho.lt hT)
theorem OnlyT.blk {T : Nat → Prop} {w w' : World} (h : OnlyT T w w') {k : Nat} {o : Obj} (ho : w.heap[k]? = some o) (hT : ¬ T k) : w'.heap[k]? = some o := (h.block k (Array.getElem?_eq_some_iff.1 ho).1 hT).trans ho
theorem OnlyT.grown {T : Nat → Prop} {w0 w w' : World} (h : OnlyT T w w') (hg : w0.grownBy w none) (hT : ∀ k, k < w0.heap.size → ¬ T k) : w0.grownBy w' none :=
  ⟨h.os.trans hg.os, h.tape.trans hg.tape, h.output.trans hg.output, Nat.le_trans hg.size h.size, fun k hk _ => (h.block k (Nat.lt_of_lt_of_le hk hg.size) (hT k hk)).trans (hg.block k hk (by simp))⟩
set_option maxHeartbeats 1000000 in
theorem markReport_any (n0 : Int) (L : List (List Tr)) (a : Option Addr) (p k0 : Nat) (T : Nat → Prop) (w : World) (h : ∀ X, w.grownBy X none → Dug X T (.row kObs.length a p L)) (hf : Fits (.row kObs.length a p L) (.row kObs)) (s : k0 + 32 * totR L ≤ 1073741824) :
    Calls Tryd.prog 10 #[.agg #[.int .i64 n0, .slice a L.length p], .int .i64 (k0 : Int)] w fun e w' => ∃ v : Nat, e = .returned (.int .i64 (v : Int)) ∧ v ≤ k0 + 32 * totR L ∧ OnlyT T w w' := by
  have HC : Hid (Calls _ _ _ _ _) := markObsS_any L a p k0 T (w.alloc (.cells #[.int .i64 n0, .slice a L.length p] 30)) (h _ (World.grownBy_alloc _ _ _)) hf s
  clear h hf
  go_enter Tryd.func10, Tryd.ntmps10
  go_wp2_with fail
  refine HC.out.mono ?_
  rintro e w1 ⟨v, rfl, hv, hM⟩
  have H1 : Hid (OnlyT T w w1) := ⟨hM.os, hM.tape, hM.output, by rw [hM.size]; simp, fun k hk hT => (hM.below k hT).trans (heap_alloc_old w _ hk)⟩
  clear hM HC
  go_wp2
  go_ret
  exact ⟨v, rfl, hv, H1.out⟩
theorem reportT_len (code : Int) (L : List (List Tr)) (hc : I64 code) (hn : ∀ e ∈ tellR L, ∀ y ∈ e, Nu y) (ht : totR L ≤ 1048576) : (reportT code (tellR L)).length ≤ 600000000 ∧ 0 < (reportT code (tellR L)).length := by
  have h1 := numB_len (mark := 32) (i64s1 hc)
  have h2 := rows_len obsD 512 (tellR L) (fun e he => by
    refine obsD_len e (hn e he) ?_
    obtain ⟨i, hi⟩ := List.mem_iff_getElem?.1 he
    have := tdRows_get hi
    unfold totR at ht
    omega)
  unfold totR at ht
  rw [List.length_map] at h2
  simp only [reportT, List.length_append, List.length_cons, List.length_nil] at h1 ⊢
  omega
theorem out_own {B : Nat} {w : World} {v : Value} {zs : List Nat} (h : Out B w v zs) (h0 : 0 < zs.length) : ∃ g cap, v = .slice (some ⟨g, 0, none⟩) zs.length cap ∧ B ≤ g ∧ Own w 5 g zs := h.sl h0
set_option maxRecDepth 8000 in
set_option maxHeartbeats 8000000 in
theorem walk (code : Int) (hc : I64 code) (L : List (List Tr)) (a : Option Addr) (p : Nat) (w : World) (hL : RowOk w kObs a L) (hb : L.length ≤ maxLen) (htab : Lib.TabBelow Tryd.prog w.heap.size w pow10 .u64 Lib.pow10Tab) :
    Calls Tryd.prog 3 #[.agg #[.int .i64 code, .slice a L.length p]] w fun e w' => e = .returned (.bool true) ∧ w.grownBy w' none := by
  obtain ⟨n, hn⟩ : ∃ n, L.length = n := ⟨_, rfl⟩
  have HZ : Hid (∀ X : World, w.grownBy X none → Calls Tryd.prog 4 #[.agg #[.int .i64 code, .slice a n p], .int .i64 1048576] X fun e w' => ∃ v : Int, e = .returned (.int .i64 v) ∧ ((totR L ≤ 1048576 ∧ 0 ≤ v) ∨ (1048576 < totR L ∧ v = -1)) ∧ X.grownBy w' none) := fun X hX => by
    rw [← hn]
    refine (szReport_any code L a p 1048576 X (hL.grown0 hX) hb (Nat.le_refl _)).mono ?_
    rintro e w' ⟨v, rfl, hv, hG⟩
    refine ⟨v, rfl, ?_, hG⟩
    rcases hv with ⟨h1, h2⟩ | h
    · exact .inl ⟨h1, by omega⟩
    · exact .inr h
  have HT0 : Hid (totR L ≤ 1048576 → ∀ X : World, w.grownBy X none → Calls Tryd.prog 6 #[.agg #[.int .i64 code, .slice a n p]] X fun e w' => ∃ (L1 : List (List Tr)) (a1 : Option Addr) (p1 : Nat), e = .returned (.agg #[.int .i64 code, .slice a1 L1.length p1]) ∧ (Made w' X.heap.size (.row kObs.length a1 p1 L1) ∧ Fits (.row kObs.length a1 p1 L1) (.row kObs) ∧ tellR L1 = tellR L) ∧ X.grownBy w' none) := fun hs X hX => by
    rw [← hn]
    exact toReport_any code L a p X (hL.grown0 hX) hs
  obtain ⟨TX, hTX⟩ : ∃ TX, reportT code (tellR L) = TX := ⟨_, rfl⟩
  obtain ⟨N, hN⟩ : ∃ N, TX.length = N := ⟨_, rfl⟩
  have HNl : Hid (totR L ≤ 1048576 → N ≤ 600000000 ∧ 0 < N) := fun hs => by
    rw [← hN, ← hTX]
    exact reportT_len code L hc hL.nu hs
  have HP0 : Hid (totR L ≤ 1048576 → ∀ (L1 : List (List Tr)) (a1 : Option Addr) (p1 : Nat) (X : World), RowOk X kObs a1 L1 → tellR L1 = tellR L → Calls Tryd.prog 5 #[.agg #[.int .i64 code, .slice a1 L1.length p1]] X fun e w' => ∃ g cap, e = .returned (.slice (some ⟨g, 0, none⟩) N cap) ∧ X.heap.size ≤ g ∧ Own w' 5 g TX ∧ X.grownBy w' none) := fun hs L1 a1 p1 X hR ht => by
    refine (tellReport_sp (B := X.heap.size) code hc L1 a1 p1 X (Nat.le_refl _) hR.low (by rw [totR_tell ht]; exact hs)).mono ?_
    rintro e w' ⟨v, rfl, h1, h2⟩
    rw [ht, hTX] at h1
    obtain ⟨g, cap, rfl, h3, h4⟩ := out_own h1 (by rw [hN]; exact (HNl.out hs).2)
    exact ⟨g, cap, by rw [hN], h3, h4, h2.g0⟩
  have HI0 : Hid (totR L ≤ 1048576 → ∀ (L1 : List (List Tr)) (a1 : Option Addr) (p1 : Nat) (X : World), w.grownBy X none → RowOk X kObs a1 L1 → tellR L1 = tellR L → Calls Tryd.prog 7 #[.agg #[.int .i64 code, .slice a1 L1.length p1]] X fun e w' => ∃ g cap, e = .returned (.slice (some ⟨g, 0, none⟩) N cap) ∧ X.heap.size ≤ g ∧ Own w' 5 g TX ∧ X.grownBy w' none) := fun hs L1 a1 p1 X hX hR ht => by
    refine (tellReport_im code hc L1 a1 p1 X hR (by rw [totR_tell ht]; exact hs) (tabBelow_low (htab.on (below_of_grown hX)) hX.size)).mono ?_
    rintro e w' ⟨v, rfl, h1, h2⟩
    rw [ht, hTX] at h1
    obtain ⟨g, cap, rfl, h3, h4⟩ := out_own h1 (by rw [hN]; exact (HNl.out hs).2)
    exact ⟨g, cap, by rw [hN], h3, h4, h2.g0⟩
  have HSM : Hid (∀ (L1 : List (List Tr)) (a1 : Option Addr) (X : World), RowOk X kObs a1 L1 → tellR L1 = tellR L → totR L ≤ 1048576 → SmR L1) := fun L1 a1 X h1 h2 h3 => h1.smR (by rw [totR_tell h2]; exact h3)
  have HNN : Hid (TX.length = N) := hN
  clear hL hb hTX hN htab hc
  rw [hn]
  clear hn
  go_enter Tryd.func3, Tryd.ntmps3
  go_wp2_with fail
  refine (HZ.out _ (World.grownBy_alloc _ _ _)).mono ?_
  rintro e w1 ⟨v, rfl, hv, hG1⟩
  have H1 : Hid (w1.heap[w.heap.size]? = some (.cells #[.int .i64 code, .slice a n p] 24 (0, 0)) ∧ w.grownBy w1 none) := ⟨grown_blk hG1 (heap_alloc_new w _), grownBy_trans (World.grownBy_alloc _ _ _) hG1⟩
  clear hG1 HZ
  rcases hv with ⟨hfit, hv0⟩ | ⟨hbig, rfl⟩
  · have HT := mkH (HT0.out hfit)
    have HP := mkH (HP0.out hfit)
    have HI := mkH (HI0.out hfit)
    obtain ⟨hNl, hN0⟩ := HNl.out hfit
    have HF : Hid (totR L ≤ 1048576) := hfit
    clear hfit HT0 HP0 HI0 HNl
    have c0 : w1.cell? ⟨w.heap.size, 0, none⟩ = some (.int .i64 code) := (cell_of_row w1 _ _ _ _ _ H1.out.1).trans rfl
    have c1 : w1.cell? ⟨w.heap.size, 1, none⟩ = some (.slice a n p) := (cell_of_row w1 _ _ _ _ _ H1.out.1).trans rfl
    go_wp2_with fail
    refine (HT.out _ H1.out.2).mono ?_
    rintro e w2 ⟨L2, a2, p2, rfl, ⟨hM2, hF2, ht2⟩, hG2⟩
    have H2 : Hid (w2.heap[w.heap.size]? = some (.cells #[.int .i64 code, .slice a n p] 24 (0, 0)) ∧ w.grownBy w2 none ∧ RowOk w2 kObs a2 L2 ∧ tellR L2 = tellR L) := ⟨grown_blk hG2 H1.out.1, grownBy_trans H1.out.2 hG2, hM2.rd.rowOk hF2 (by decide), ht2⟩
    clear c0 c1 hM2 hF2 ht2 hG2 H1
    go_wp2_with fail
    refine (HP.out L2 a2 p2 _ H2.out.2.2.1 H2.out.2.2.2).mono ?_
    rintro e w3 ⟨g3, cp3, rfl, hg3, hO3, hG3⟩
    have H3 : Hid (w3.heap[w.heap.size]? = some (.cells #[.int .i64 code, .slice a n p] 24 (0, 0)) ∧ w.grownBy w3 none ∧ Own w3 5 g3 TX ∧ w.heap.size < w3.heap.size) := ⟨grown_blk hG3 H2.out.1, grownBy_trans H2.out.2.1 hG3, hO3, (Array.getElem?_eq_some_iff.1 (grown_blk hG3 H2.out.1)).1⟩
    clear hg3 hO3 hG3 H2
    have c0 : w3.cell? ⟨w.heap.size, 0, none⟩ = some (.int .i64 code) := (cell_of_row w3 _ _ _ _ _ H3.out.1).trans rfl
    have c1 : w3.cell? ⟨w.heap.size, 1, none⟩ = some (.slice a n p) := (cell_of_row w3 _ _ _ _ _ H3.out.1).trans rfl
    go_wp2_with fail
    refine (HT.out _ H3.out.2.1).mono ?_
    rintro e w4 ⟨L4, a4, p4, rfl, ⟨hM4, hF4, ht4⟩, hG4⟩
    obtain ⟨lo, hlo⟩ : ∃ lo, w3.heap.size = lo := ⟨_, rfl⟩
    obtain ⟨hi, hhi⟩ : ∃ hi, w4.heap.size = hi := ⟨_, rfl⟩
    have H4 : Hid (Made w4 lo (.row kObs.length a4 p4 L4) ∧ Fits (.row kObs.length a4 p4 L4) (.row kObs) ∧ tellR L4 = tellR L ∧ w4.heap.size = hi ∧ g3 < lo ∧ w.heap.size < lo ∧ lo ≤ hi) := ⟨by rw [← hlo]; exact hM4, hF4, ht4, hhi, by rw [← hlo]; exact H3.out.2.2.1.lt, by rw [← hlo]; exact H3.out.2.2.2, by rw [← hlo, ← hhi]; exact hG4.size⟩
    have H5 : Hid (w4.heap[w.heap.size]? = some (.cells #[.int .i64 code, .slice a n p] 24 (0, 0)) ∧ w.grownBy w4 none ∧ Own w4 5 g3 TX ∧ RowOk w4 kObs a4 L4) := ⟨grown_blk hG4 H3.out.1, grownBy_trans H3.out.2.1 hG4, H3.out.2.2.1.grown hG4 (by simp), hM4.rd.rowOk hF4 (by decide)⟩
    clear c0 c1 hM4 hF4 ht4 hG4 H3 hlo
    go_wp2_with fail
    refine (HI.out L4 a4 p4 _ (grownBy_alloc H5.out.2.1 _) (H5.out.2.2.2.grown0 (World.grownBy_alloc _ _ _)) H4.out.2.2.1).mono ?_
    rintro e w6 ⟨g6, cp6, rfl, hg6, hO6, hG6⟩
    have H6 : Hid (w6.heap[w.heap.size]? = some (.cells #[.int .i64 code, .slice a n p] 24 (0, 0)) ∧ w.grownBy w6 none ∧ Own w6 5 g3 TX ∧ Own w6 5 g6 TX ∧ w6.heap[hi]? = some (.cells #[.int .i64 code, .slice a4 L4.length p4] 30 (0, 0)) ∧ w4.grownBy w6 none ∧ hi < g6) := by
      have hA := World.grownBy_alloc w4 (.cells #[.int .i64 code, .slice a4 L4.length p4] 30) none
      exact ⟨grown_blk hG6 (grown_blk hA H5.out.1), grownBy_trans (grownBy_alloc H5.out.2.1 _) hG6, (H5.out.2.2.1.grown hA (by simp)).grown hG6 (by simp), hO6, grown_blk hG6 (by rw [← hhi]; exact heap_alloc_new w4 _), grownBy_trans hA hG6, by simp at hg6; omega⟩
    clear hg6 hO6 hG6 H5
    go_wp2_with fail
    refine (eqByteS_same (some ⟨g6, 0, none⟩) (some ⟨g3, 0, none⟩) N cp6 cp3 TX _ (H6.out.2.2.2.1.sl N HNN.out) (H6.out.2.2.1.sl N HNN.out) (by omega)).mono ?_
    rintro e w7 ⟨rfl, hG7⟩
    have H7 : Hid (w7.heap[w.heap.size]? = some (.cells #[.int .i64 code, .slice a n p] 24 (0, 0)) ∧ w.grownBy w7 none ∧ Own w7 5 g3 TX ∧ Own w7 5 g6 TX ∧ w7.heap[hi]? = some (.cells #[.int .i64 code, .slice a4 L4.length p4] 30 (0, 0)) ∧ w4.grownBy w7 none ∧ hi < g6) := ⟨grown_blk hG7 H6.out.1, grownBy_trans H6.out.2.1 hG7, H6.out.2.2.1.grown hG7 (by simp), H6.out.2.2.2.1.grown hG7 (by simp), grown_blk hG7 H6.out.2.2.2.2.1, grownBy_trans H6.out.2.2.2.2.2.1 hG7, H6.out.2.2.2.2.2.2⟩
    clear hG7 H6
    go_upto_region 10 with fail
    refine wp_region_Z (fun W => W.heap[w.heap.size]? = some (.cells #[.int .i64 code, .slice a n p] 24 (0, 0)) ∧ W.heap[hi]? = some (.cells #[.int .i64 code, .slice a4 L4.length p4] 30 (0, 0))) (fun _ => false) (by kernel_rfl) ?_
    have hS : w7.drew.heap[w.heap.size]? = some (.cells #[.int .i64 code, .slice a n p] 24 (0, 0)) ∧ w7.drew.heap[hi]? = some (.cells #[.int .i64 code, .slice a4 L4.length p4] 30 (0, 0)) := ⟨H7.out.1, H7.out.2.2.2.2.1⟩
    refine wpAnyZ_loadS (i := 0) (v := ?vz0) rfl (by kernel_rfl) (by kernel_rfl) (by kernel_rfl) (fun _ _ _ h => h) (fun _ => rfl) (Or.inl ⟨by rfl, ?yz0⟩) hS ?rz0
    case yz0 => (intro W hW; have c0 : W.cell? ⟨hi, 0, none⟩ = some (.int .i64 code) := (cell_of_row W _ _ _ _ _ hW.2).trans rfl; have c1 : W.cell? ⟨hi, 1, none⟩ = some (.slice a4 L4.length p4) := (cell_of_row W _ _ _ _ _ hW.2).trans rfl; go_simp; first | done | with_reducible rfl)
    simp only [Act.put, List.setIfInBounds_toArray, List.set_cons_zero, List.set_cons_succ]
    refine wpAnyZ_loadS (i := 1) (v := ?vz1) rfl (by kernel_rfl) (by kernel_rfl) (by kernel_rfl) (fun _ _ _ h => h) (fun _ => rfl) (Or.inl ⟨by rfl, ?yz1⟩) hS ?rz1
    case yz1 => (intro W hW; have c0 : W.cell? ⟨w.heap.size, 0, none⟩ = some (.int .i64 code) := (cell_of_row W _ _ _ _ _ hW.1).trans rfl; have c1 : W.cell? ⟨w.heap.size, 1, none⟩ = some (.slice a n p) := (cell_of_row W _ _ _ _ _ hW.1).trans rfl; go_simp; first | done | with_reducible rfl)
    simp only [Act.put, List.setIfInBounds_toArray, List.set_cons_zero, List.set_cons_succ]
    refine wpAnyZ_one' (i := 2) (by kernel_rfl) rfl (fun K hK => ?_)
    go_simp
    go_at_call 6
    refine (HT.out w7.drew (grownBy_drew H7.out.2.1)).mono ?_
    rintro e w8 ⟨L8, a8, p8, rfl, ⟨hM8, hF8, ht8⟩, hG8⟩
    have hG78 : w7.grownBy w8 none := grownBy_trans (grownBy_drew (grownBy_refl w7 none)) hG8
    have H8 : Hid (RowOk w8 kObs a4 L4 ∧ RowOk w8 kObs a8 L8 ∧ tellR L4 = tellR L8 ∧ SmR L4) := by
      have hR4 : RowOk w8 kObs a4 L4 := ((H4.out.1.rd.rowOk H4.out.2.1 (by decide)).grown0 H7.out.2.2.2.2.2.1).grown0 hG78
      exact ⟨hR4, hM8.rd.rowOk hF8 (by decide), H4.out.2.2.1.trans ht8.symm, HSM.out L4 a4 w8 hR4 H4.out.2.2.1 HF.out⟩
    have HG8 : Hid (w7.grownBy w8 none) := hG78
    go_wp2_with fail
    refine hK.out _ _ (fun _ h => ⟨grown_blk hG8 h.1, grown_blk hG8 h.2⟩) ?_
    clear hK K hM8 hF8 ht8 hG8 hG78
    try simp only [Act.put, List.setIfInBounds_toArray, List.set_cons_zero, List.set_cons_succ]
    refine wpAnyZ_one' (i := 3) (by kernel_rfl) rfl (fun K hK => ?_)
    go_simp
    go_at_call 9
    refine (eqReport_same code L4 a4 p4 L8 a8 p8 w8 H8.out.1 H8.out.2.1 H8.out.2.2.1 H8.out.2.2.2).mono ?_
    rintro e w9 ⟨rfl, hG9⟩
    have hG79 : w7.grownBy w9 none := grownBy_trans HG8.out hG9
    have H9 : Hid (w9.heap[w.heap.size]? = some (.cells #[.int .i64 code, .slice a n p] 24 (0, 0)) ∧ w.grownBy w9 none ∧ Own w9 5 g3 TX ∧ Own w9 5 g6 TX ∧ w9.heap[hi]? = some (.cells #[.int .i64 code, .slice a4 L4.length p4] 30 (0, 0)) ∧ w4.grownBy w9 none ∧ hi < g6) := ⟨grown_blk hG79 H7.out.1, grownBy_trans H7.out.2.1 hG79, H7.out.2.2.1.grown hG79 (by simp), H7.out.2.2.2.1.grown hG79 (by simp), grown_blk hG79 H7.out.2.2.2.2.1, grownBy_trans H7.out.2.2.2.2.2.1 hG79, H7.out.2.2.2.2.2.2⟩
    go_wp2_with fail
    refine hK.out _ _ (fun _ h => ⟨grown_blk hG9 h.1, grown_blk hG9 h.2⟩) ?_
    clear hK K hG9 hG79 HG8 H8 H7 hS
    try simp only [Act.put, List.setIfInBounds_toArray, List.set_cons_zero, List.set_cons_succ]
    refine wpAnyZ_one' (i := 4) (by kernel_rfl) rfl (fun K hK => ?_)
    go_simp
    refine hK.out _ _ (fun _ h => h) ?_
    clear hK K
    try simp only [Act.put, List.setIfInBounds_toArray, List.set_cons_zero, List.set_cons_succ]
    refine wpAnyZ_done (by kernel_rfl) ?_ _
    have c0 : w9.cell? ⟨hi, 0, none⟩ = some (.int .i64 code) := (cell_of_row w9 _ _ _ _ _ H9.out.2.2.2.2.1).trans rfl
    have c1 : w9.cell? ⟨hi, 1, none⟩ = some (.slice a4 L4.length p4) := (cell_of_row w9 _ _ _ _ _ H9.out.2.2.2.2.1).trans rfl
    go_wp2_with fail
    refine (markReport_any code L4 a4 p4 1 (fun k => lo ≤ k ∧ k < hi) w9 (fun X hX => by have h9 := H4.out.1.dugAt (grownBy_trans H9.out.2.2.2.2.2.1 hX); rw [H4.out.2.2.2.1] at h9; exact h9) H4.out.2.1 (by rw [totR_tell H4.out.2.2.1]; have := HF.out; omega)).mono ?_
    rintro e w10 ⟨v10, rfl, hv10, hM10⟩
    have H10 : Hid (w10.heap[w.heap.size]? = some (.cells #[.int .i64 code, .slice a n p] 24 (0, 0)) ∧ w.grownBy w10 none ∧ Own w10 5 g3 TX ∧ Own w10 5 g6 TX) := by
      have hx := H4.out.2.2.2.2
      exact ⟨hM10.blk H9.out.1 (fun h => by have := h.1; omega), hM10.grown H9.out.2.1 (fun k hk h => by have := h.1; omega), hM10.own H9.out.2.2.1 (fun h => by have := h.1; omega), hM10.own H9.out.2.2.2.1 (fun h => by have := h.2; have := H9.out.2.2.2.2.2.2; omega)⟩
    have hw6 : w.heap.size < g6 := by have h1 := H4.out.2.2.2.2; have h2 := H9.out.2.2.2.2.2.2; omega
    have hne : g3 ≠ g6 := by have h1 := H4.out.2.2.2.2; have h2 := H9.out.2.2.2.2.2.2; omega
    have hvn : decide ((v10 : Int) < 0) = false := by simp
    clear hM10 hv10 H9 c0 c1
    go_wp2_with fail
    refine (eqByteS_same (some ⟨g6, 0, none⟩) (some ⟨g3, 0, none⟩) N cp6 cp3 TX _ (H10.out.2.2.2.sl N HNN.out) (H10.out.2.2.1.sl N HNN.out) (by omega)).mono ?_
    rintro e w11 ⟨rfl, hG11⟩
    have H11 : Hid (w11.heap[w.heap.size]? = some (.cells #[.int .i64 code, .slice a n p] 24 (0, 0)) ∧ w.grownBy w11 none ∧ Own w11 5 g3 TX ∧ Own w11 5 g6 TX) := ⟨grown_blk hG11 H10.out.1, grownBy_trans H10.out.2.1 hG11, H10.out.2.2.1.grown hG11 (by simp), H10.out.2.2.2.grown hG11 (by simp)⟩
    clear hG11 H10
    go_wp2_with fail
    refine (markByteS_own g6 N cp6 1 TX _ H11.out.2.2.2 HNN.out (by omega) (by omega)).mono ?_
    rintro e w12 ⟨rfl, hO12, hG12⟩
    have H12 : Hid (w12.heap[w.heap.size]? = some (.cells #[.int .i64 code, .slice a n p] 24 (0, 0)) ∧ w.grownBy w12 none ∧ Own w12 5 g3 TX ∧ Own w12 5 g6 (marked TX 1 N)) := ⟨(hG12.block _ (Array.getElem?_eq_some_iff.1 H11.out.1).1 (by simp; omega)).trans H11.out.1, grownBy_row H11.out.2.1 hG12 (fun g hg => by simp at hg; omega), H11.out.2.2.1.grown hG12 (by simp; omega), hO12⟩
    have HMD : Hid ((∀ i, i < N → (marked TX 1 N).getD i 0 = (1 + i) % 256) ∧ (marked TX 1 N).length = N) := ⟨fun i hi => marked_get TX 1 N i (by rw [HNN.out]; omega) hi, by rw [marked_len]; exact HNN.out⟩
    clear hO12 hG12 H11
    have c0 : w12.cell? ⟨w.heap.size, 0, none⟩ = some (.int .i64 code) := (cell_of_row w12 _ _ _ _ _ H12.out.1).trans rfl
    have c1 : w12.cell? ⟨w.heap.size, 1, none⟩ = some (.slice a n p) := (cell_of_row w12 _ _ _ _ _ H12.out.1).trans rfl
    go_wp2_with fail
    refine (heldByteS_own g6 N cp6 1 (marked TX 1 N) _ H12.out.2.2.2 HMD.out.2 HMD.out.1 (by omega) (by omega)).mono ?_
    rintro e w13 ⟨rfl, hw13⟩
    subst hw13
    go_wp2_with fail
    refine (HT.out _ H12.out.2.1).mono ?_
    rintro e w14 ⟨L14, a14, p14, rfl, ⟨hM14, hF14, ht14⟩, hG14⟩
    have H14 : Hid (w.grownBy w14 none ∧ Own w14 5 g3 TX ∧ RowOk w14 kObs a14 L14 ∧ tellR L14 = tellR L) := ⟨grownBy_trans H12.out.2.1 hG14, H12.out.2.2.1.grown hG14 (by simp), hM14.rd.rowOk hF14 (by decide), ht14⟩
    clear hM14 hF14 ht14 hG14 H12 c0 c1
    go_wp2_with fail
    refine (HI.out L14 a14 p14 _ H14.out.1 H14.out.2.2.1 H14.out.2.2.2).mono ?_
    rintro e w15 ⟨g15, cp15, rfl, hg15, hO15, hG15⟩
    have H15 : Hid (w.grownBy w15 none ∧ Own w15 5 g3 TX ∧ Own w15 5 g15 TX) := ⟨grownBy_trans H14.out.1 hG15, H14.out.2.1.grown hG15 (by simp), hO15⟩
    clear hg15 hO15 hG15 H14
    go_wp2_with fail
    refine (eqByteS_same (some ⟨g15, 0, none⟩) (some ⟨g3, 0, none⟩) N cp15 cp3 TX _ (H15.out.2.2.sl N HNN.out) (H15.out.2.1.sl N HNN.out) (by omega)).mono ?_
    rintro e w16 ⟨rfl, hG16⟩
    have R : Hid (w.grownBy w16 none) := grownBy_trans H15.out.1 hG16
    clear hG16
    go_wp2
    go_ret
    exact ⟨rfl, R.out⟩
  · go_wp2
    go_ret
    exact ⟨rfl, H1.out.2⟩

set_option maxRecDepth 100000 in
theorem contract (H : Type) (enc : TypeId × Value → H) (W : World) (base : Nat) (args : Array Value) (ds gs : List (DataW H)) (before : List MemPlace)
    (hval : ∀ (j : Nat) t v, Tryd.f3.params[j]? = some t → args[j]? = some v → Value.okWide Tryd.prog W .any base t v)
    (hW : DataW.Whole enc Tryd.prog Tryd.f3.params.toList Rows.fnExactTellReportSpec.vars false W args.toList ds gs before) (hT : Lib.TabIs Tryd.prog W pow10 .u64 Lib.pow10Tab) :
    Calls Tryd.prog 3 args W fun e W' => ∃ v, e = .returned v ∧ Rows.fnExactTellReportSpec.post enc Tryd.prog Tryd.f3 false true false false W args v W' := by
  have hW' := hW
  obtain ⟨p, q, hA0, hV, rfl, hfz, hnd⟩ := hW
  have hA : DataW.TrodAll enc Tryd.prog W 0 (fun _ => true) true Tryd.f3.params.toList args.toList ds p := hA0
  rw [Tryd.params3] at hA hval
  obtain ⟨v0, vs0, d0, ds0, p0, q0, hargs, rfl, rfl, h0, r0⟩ := trodAll_cons hA
  obtain ⟨rfl, rfl, rfl⟩ := trodAll_nil r0
  obtain rfl : args = #[v0] := by cases args; simp_all
  obtain ⟨rfl, rfl⟩ := trodVars_none hV
  obtain ⟨c0, c1, y0, y1, m, rfl, hd0, hp0, hy0, hy1⟩ := Joins.open_agg2 Tryd.underlying24 (by kernel_rfl) cellsRep (hval 0 24 v0 rfl rfl) h0
  obtain ⟨e0, hc0, hf0, hr0⟩ := open_flat fInt _ _ _ hy0
  obtain ⟨e1, hc1, hf1, hr1⟩ := open_flat fslObs _ _ _ hy1
  obtain ⟨z0, t0, rfl, f0, g0⟩ := FitsL.cons hf0
  obtain ⟨n0, rfl⟩ := f0.isInt
  obtain rfl := g0.nil
  obtain ⟨z1, t1, rfl, f1, g1⟩ := FitsL.cons hf1
  obtain rfl := g1.nil
  obtain ⟨a1, p1, L1, rfl⟩ := f1.isRow
  simp only [List.map_cons, List.map_nil, List.cons.injEq, and_true] at hc0 hc1
  subst hc0
  subst hc1
  refine (walk n0 (hr0 (.int n0) (by simp)).isInt L1 a1 p1 W ((hr1 (.row kObs.length a1 p1 L1) (by simp)).rowOk f1 (by decide)) (hr1 (.row kObs.length a1 p1 L1) (by simp)).lenR (Lib.tabBelow_of_tabIs hT)).mono fun e W' ⟨he, hgr⟩ => ?_
  subst he
  exact ⟨_, rfl, Post.law laidOut (below_of_grown hgr) hW' (by kernel_rfl) (by kernel_rfl) (tb := 4) (by kernel_rfl) Tryd.underlying4 rfl⟩
end Go.Proofs.YtkjjglnbbahbkaaDoor.fnExactTellReport
