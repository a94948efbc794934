/-
  The laws' eq.. over the types of a report, walked.
-/
import Derived.Test.YtkjjglnbbahbkaaDoorShapes
import Derived.Test.YtkjjglnbbahbkaaDoorBytes
import Derived.Test.YtkjjglnbbahbkaaDoorTreeL
import Derived.Test.YtkjjglnbbahbkaaDoorRegZ
import Derived.Deep.DeepCutAuto
namespace Go.Proofs.YtkjjglnbbahbkaaDoor
open Go.RowKit

set_option maxRecDepth 4000 in
set_option maxHeartbeats 4000000 in
theorem eqEntry_same (n0 : Int) (d1 : List Nat) (a1 : Option Addr) (p1 : Nat) (a1' : Option Addr) (p1' : Nat) (w : World) (h1 : SlB w a1 d1.length d1) (h1' : SlB w a1' d1.length d1) (s1 : d1.length ≤ 1048576) :
    Calls Tryd.prog 80 #[.agg #[.int .i64 n0, .slice a1 d1.length p1], .agg #[.int .i64 n0, .slice a1' d1.length p1']] w fun e w' => e = .returned (.bool true) ∧ w.grownBy w' none := by
  have C0 : Hid (∀ Y : World, w.grownBy Y none → Calls Tryd.prog 8 #[.slice a1 d1.length p1, .slice a1' d1.length p1'] Y fun e w' => e = .returned (.bool true) ∧ Y.grownBy w' none) := fun Y hY => eqByteS_same a1 a1' d1.length p1 p1' d1 Y (h1.grown0 hY) (h1'.grown0 hY) (by omega)
  have HW : Hid (∀ Y : World, ((w.alloc (.cells #[.int .i64 n0, .slice a1 d1.length p1] 120)).alloc (.cells #[.int .i64 n0, .slice a1' d1.length p1'] 120)).grownBy Y none → Y.cell? ⟨w.heap.size, 0, none⟩ = some (.int .i64 n0) ∧ Y.cell? ⟨w.heap.size, 1, none⟩ = some (.slice a1 d1.length p1) ∧ Y.cell? ⟨w.heap.size + 1, 0, none⟩ = some (.int .i64 n0) ∧ Y.cell? ⟨w.heap.size + 1, 1, none⟩ = some (.slice a1' d1.length p1')) := fun Y hY => by
    have x0 : Y.heap[w.heap.size]? = some (.cells #[.int .i64 n0, .slice a1 d1.length p1] 120 (0, 0)) := (hY.block _ (by simp; omega) (by simp)).trans ((Below.heap_alloc _ _ _ (by simp)).trans (heap_alloc_new w _))
    have x1 : Y.heap[w.heap.size + 1]? = some (.cells #[.int .i64 n0, .slice a1' d1.length p1'] 120 (0, 0)) := (hY.block _ (by simp) (by simp)).trans (heap_two w _ _)
    simp [World.cell?, x0, x1]
  have HG : Hid (w.grownBy ((w.alloc (.cells #[.int .i64 n0, .slice a1 d1.length p1] 120)).alloc (.cells #[.int .i64 n0, .slice a1' d1.length p1'] 120)) none) := grownBy_alloc (World.grownBy_alloc _ _ _) _
  clear h1 h1' s1
  go_enter Tryd.func80, Tryd.ntmps80
  go_wp2_with fail
  refine (C0.out _ HG.out).mono ?_
  rintro e w1 ⟨rfl, hG1⟩
  have HY : Hid (((w.alloc (.cells #[.int .i64 n0, .slice a1 d1.length p1] 120)).alloc (.cells #[.int .i64 n0, .slice a1' d1.length p1'] 120)).grownBy w1 none) := hG1
  clear hG1
  have hC := HW.out w1 HY.out
  go_wp2
  go_ret
  exact ⟨rfl, grownBy_trans HG.out HY.out⟩
set_option maxRecDepth 4000 in
set_option maxHeartbeats 4000000 in
theorem eqEntryS_same (L : List (List Tr)) (a : Option Addr) (p : Nat) (L' : List (List Tr)) (a' : Option Addr) (p' : Nat) (w : World) (h : RowOk w kEntry a L) (h' : RowOk w kEntry a' L') (e : tellR L = tellR L') (s : SmR L) :
    Calls Tryd.prog 72 #[.slice a L.length p, .slice a' L'.length p'] w fun e w' => e = .returned (.bool true) ∧ w.grownBy w' none := by
  have hll : L'.length = L.length := by have := congrArg List.length e; simpa using this.symm
  rw [hll]
  have HR : Hid (RowOk w kEntry a L ∧ RowOk w kEntry a' L' ∧ tellR L = tellR L' ∧ SmR L) := ⟨h, h', e, s⟩
  have hlen := s.1
  clear h h' e s
  obtain ⟨n, hn⟩ : ∃ n, L.length = n := ⟨_, rfl⟩
  have HN : Hid (L.length = n ∧ L'.length = n) := ⟨hn, by omega⟩
  rw [hn] at hlen ⊢
  clear hll hn
  go_enter Tryd.func72, Tryd.ntmps72
  go_wp2
  go_loopw [5] (fun i wr => ∃ k : Nat, k ≤ n ∧ i = .int .i64 (k : Int) ∧ w.grownBy wr none) (fun i _ => n - (intOf i).toNat)
  case atStart => exact ⟨0, Nat.zero_le _, rfl, grownBy_refl _ _⟩
  case round =>
    obtain ⟨k, hk, rfl, hG⟩ := hrel
    have HG : Hid (w.grownBy wr none) := hG
    clear hG
    by_cases hlt : k < n
    · obtain ⟨e, he⟩ : ∃ e, L[k]? = some e := ⟨_, List.getElem?_eq_getElem (by rw [HN.out.1]; exact hlt)⟩
      obtain ⟨e', he'⟩ : ∃ e, L'[k]? = some e := ⟨_, List.getElem?_eq_getElem (by rw [HN.out.2]; exact hlt)⟩
      have htl := tellR_get HR.out.2.2.1 he he'
      obtain ⟨hf, hrd, b, off, hab, hc⟩ := HR.out.1.grown0 HG.out k e he
      obtain ⟨hf', hrd', b', off', hab', hc'⟩ := HR.out.2.1.grown0 HG.out k e' he'
      have hsm := fun j y hj => HR.out.2.2.2.2 k j e y he hj
      obtain ⟨n0, d1, a1, p1, rfl⟩ := fitEntry hf
      obtain ⟨n0', d1', a1', p1', rfl⟩ := fitEntry hf'
      simp only [List.map_cons, List.map_nil, List.cons.injEq, and_true, Td.int.injEq, Td.byt.injEq] at htl
      obtain ⟨rfl, rfl⟩ := htl
      subst hab hab'
      have HE : Hid (∀ w' : World, SameT wr w' → Calls Tryd.prog 80 #[.agg #[.int .i64 n0, .slice a1 d1.length p1], .agg #[.int .i64 n0, .slice a1' d1.length p1']] w' fun e w1 => e = .returned (.bool true) ∧ w'.grownBy w1 none) := fun w' hs => by
        have hh : w'.heap = wr.heap := hs.1
        have hhG : wr.grownBy w' none := hs.grown
        exact eqEntry_same n0 d1 a1 p1 a1' p1' w' ((hrd (.byt d1 a1 p1) (by simp)).isByt.heap hh) ((hrd' (.byt d1 a1' p1') (by simp)).isByt.heap hh) (hsm 1 _ rfl).isByt
      have hkI : (k : Int) < (n : Int) := by omega
      have hS : wr.drew.rangeAt b (off + k * 2) [.int .i64 n0, .slice a1 d1.length p1] ∧ wr.drew.rangeAt b' (off' + k * 2) [.int .i64 n0, .slice a1' d1.length p1'] := ⟨range_el hc, range_el hc'⟩
      clear hc hc' hrd hrd' hsm hf hf' he he'
      go_wp2
      go_cut [26] (fun v wx => v = .bool false ∧ wr.grownBy wx none)
      case first =>
        as_aux_lemma =>
          refine wp_region_Z (fun W => W.rangeAt b (off + k * 2) [.int .i64 n0, .slice a1 d1.length p1] ∧ W.rangeAt b' (off' + k * 2) [.int .i64 n0, .slice a1' d1.length p1']) (fun j => j == 8) (by kernel_rfl) ?_
          refine wpAnyZ_take' (i := 0) (v := ?vz0) rfl (by kernel_rfl) (by kernel_rfl) (by kernel_rfl) (fun _ _ _ h => h) (Or.inl ⟨by rfl, ?yz0⟩) ?rz0
          case yz0 => (intro w _; go_simp; first | done | with_reducible rfl)
          simp only [Act.put, List.setIfInBounds_toArray, List.set_cons_zero, List.set_cons_succ]
          refine wpAnyZ_take' (i := 1) (v := ?vz1) rfl (by kernel_rfl) (by kernel_rfl) (by kernel_rfl) (fun _ _ _ h => h) (Or.inl ⟨by rfl, ?yz1⟩) ?rz1
          case yz1 => (intro w _; go_simp; first | done | with_reducible rfl)
          simp only [Act.put, List.setIfInBounds_toArray, List.set_cons_zero, List.set_cons_succ]
          refine wpAnyZ_take' (i := 2) (v := ?vz2) rfl (by kernel_rfl) (by kernel_rfl) (by kernel_rfl) (fun _ _ _ h => h) (Or.inl ⟨by rfl, ?yz2⟩) ?rz2
          case yz2 => (intro w _; go_simp; first | done | with_reducible rfl)
          simp only [Act.put, List.setIfInBounds_toArray, List.set_cons_zero, List.set_cons_succ]
          refine wpAnyZ_load' (i := 3) (y := 8) (v := .agg [.int .i64 n0, .slice a1 d1.length p1].toArray) rfl (by kernel_rfl) (by kernel_rfl) (by kernel_rfl) (fun _ _ _ h => h) (fun j hj => .inl (by obtain rfl : j = 8 := (by simpa using hj); kernel_rfl)) rfl (by kernel_rfl) (yieldsIf_load_mid (by rfl) _ _ rfl _ _ rfl _ _ (fun W hW => hW.1) Tryd.underlying120 rfl (by kernel_rfl)) hS ?rz3
          simp only [Act.put, List.setIfInBounds_toArray, List.set_cons_zero, List.set_cons_succ]
          refine wpAnyZ_take' (i := 4) (v := ?vz4) rfl (by kernel_rfl) (by kernel_rfl) (by kernel_rfl) (fun _ _ _ h => h) (Or.inl ⟨by rfl, ?yz4⟩) ?rz4
          case yz4 => (intro w _; go_simp; first | done | with_reducible rfl)
          simp only [Act.put, List.setIfInBounds_toArray, List.set_cons_zero, List.set_cons_succ]
          refine wpAnyZ_take' (i := 5) (v := ?vz5) rfl (by kernel_rfl) (by kernel_rfl) (by kernel_rfl) (fun _ _ _ h => h) (Or.inl ⟨by rfl, ?yz5⟩) ?rz5
          case yz5 => (intro w _; go_simp; first | done | with_reducible rfl)
          simp only [Act.put, List.setIfInBounds_toArray, List.set_cons_zero, List.set_cons_succ]
          refine wpAnyZ_take' (i := 6) (v := ?vz6) rfl (by kernel_rfl) (by kernel_rfl) (by kernel_rfl) (fun _ _ _ h => h) (Or.inl ⟨by rfl, ?yz6⟩) ?rz6
          case yz6 => (intro w _; go_simp; first | done | with_reducible rfl)
          simp only [Act.put, List.setIfInBounds_toArray, List.set_cons_zero, List.set_cons_succ]
          refine wpAnyZ_load' (i := 7) (y := 8) (v := .agg [.int .i64 n0, .slice a1' d1.length p1'].toArray) rfl (by kernel_rfl) (by kernel_rfl) (by kernel_rfl) (fun _ _ _ h => h) (fun j hj => .inl (by obtain rfl : j = 8 := (by simpa using hj); kernel_rfl)) rfl (by kernel_rfl) (yieldsIf_load_mid (by rfl) _ _ rfl _ _ rfl _ _ (fun W hW => hW.2) Tryd.underlying120 rfl (by kernel_rfl)) hS ?rz7
          simp only [Act.put, List.setIfInBounds_toArray, List.set_cons_zero, List.set_cons_succ]
          refine wpAnyZ_one' (i := 8) (by kernel_rfl) rfl (fun K hK => ?_)
          go_simp
          go_at_call 80
          refine (HE.out wr.drew ⟨rfl, rfl, rfl, rfl⟩).mono ?_
          rintro e w1 ⟨rfl, hG1⟩
          have HG2 : Hid (wr.grownBy w1 none) := grownBy_trans (grownBy_drew (grownBy_refl wr none)) hG1
          clear hG1
          go_wp2_with fail
          refine hK.out _ _ (fun h => by cases h) ?_
          clear hK K
          try simp only [Act.put, List.setIfInBounds_toArray, List.set_cons_zero, List.set_cons_succ]
          refine wpAnyZ_one' (i := 9) (by kernel_rfl) rfl (fun K hK => ?_)
          go_simp
          refine hK.out _ _ (fun _ h => h) ?_
          clear hK K
          try simp only [Act.put, List.setIfInBounds_toArray, List.set_cons_zero, List.set_cons_succ]
          refine wpAnyZ_done (by kernel_rfl) ?_ _
          go_wp2_with fail
          go_meet
          case rel => exact ⟨rfl, HG2.out⟩
      case rest =>
        obtain ⟨rfl, hG1⟩ := hcut
        have HG2 : Hid (w.grownBy wc none) := grownBy_trans HG.out hG1
        clear hG1
        go_wp2
        go_roundw
        case rel => exact ⟨k + 1, by omega, by go_num, HG2.out⟩
        case measure => simp [intOf]; omega
    · obtain rfl : k = n := by omega
      go_wp2
      go_ret
      exact ⟨rfl, HG.out⟩
set_option maxRecDepth 4000 in
set_option maxHeartbeats 4000000 in
theorem eqMessage_same (n0 : Int) (n1 : Int) (n2 : Int) (n3 : Int) (n4 : Int) (n5 : Int) (n6 : Int) (b7 : Bool) (L8 : List (List Tr)) (a8 : Option Addr) (p8 : Nat) (L8' : List (List Tr)) (a8' : Option Addr) (p8' : Nat) (d9 : List Nat) (a9 : Option Addr) (p9 : Nat) (a9' : Option Addr) (p9' : Nat) (w : World) (h8 : RowOk w kEntry a8 L8) (h9 : SlB w a9 d9.length d9) (h8' : RowOk w kEntry a8' L8') (h9' : SlB w a9' d9.length d9) (e8 : tellR L8 = tellR L8') (s8 : SmR L8) (s9 : d9.length ≤ 1048576) :
    Calls Tryd.prog 62 #[.agg #[.int .i64 n0, .int .i64 n1, .int .i64 n2, .int .i64 n3, .int .i64 n4, .int .i64 n5, .int .i64 n6, .bool b7, .slice a8 L8.length p8, .slice a9 d9.length p9], .agg #[.int .i64 n0, .int .i64 n1, .int .i64 n2, .int .i64 n3, .int .i64 n4, .int .i64 n5, .int .i64 n6, .bool b7, .slice a8' L8'.length p8', .slice a9' d9.length p9']] w fun e w' => e = .returned (.bool true) ∧ w.grownBy w' none := by
  have C0 : Hid (∀ Y : World, w.grownBy Y none → Calls Tryd.prog 72 #[.slice a8 L8.length p8, .slice a8' L8'.length p8'] Y fun e w' => e = .returned (.bool true) ∧ Y.grownBy w' none) := fun Y hY => eqEntryS_same L8 a8 p8 L8' a8' p8' Y (h8.grown0 hY) (h8'.grown0 hY) e8 s8
  have C1 : Hid (∀ Y : World, w.grownBy Y none → Calls Tryd.prog 8 #[.slice a9 d9.length p9, .slice a9' d9.length p9'] Y fun e w' => e = .returned (.bool true) ∧ Y.grownBy w' none) := fun Y hY => eqByteS_same a9 a9' d9.length p9 p9' d9 Y (h9.grown0 hY) (h9'.grown0 hY) (by omega)
  have HW : Hid (∀ Y : World, ((w.alloc (.cells #[.int .i64 n0, .int .i64 n1, .int .i64 n2, .int .i64 n3, .int .i64 n4, .int .i64 n5, .int .i64 n6, .bool b7, .slice a8 L8.length p8, .slice a9 d9.length p9] 100)).alloc (.cells #[.int .i64 n0, .int .i64 n1, .int .i64 n2, .int .i64 n3, .int .i64 n4, .int .i64 n5, .int .i64 n6, .bool b7, .slice a8' L8'.length p8', .slice a9' d9.length p9'] 100)).grownBy Y none → Y.cell? ⟨w.heap.size, 0, none⟩ = some (.int .i64 n0) ∧ Y.cell? ⟨w.heap.size, 1, none⟩ = some (.int .i64 n1) ∧ Y.cell? ⟨w.heap.size, 2, none⟩ = some (.int .i64 n2) ∧ Y.cell? ⟨w.heap.size, 3, none⟩ = some (.int .i64 n3) ∧ Y.cell? ⟨w.heap.size, 4, none⟩ = some (.int .i64 n4) ∧ Y.cell? ⟨w.heap.size, 5, none⟩ = some (.int .i64 n5) ∧ Y.cell? ⟨w.heap.size, 6, none⟩ = some (.int .i64 n6) ∧ Y.cell? ⟨w.heap.size, 7, none⟩ = some (.bool b7) ∧ Y.cell? ⟨w.heap.size, 8, none⟩ = some (.slice a8 L8.length p8) ∧ Y.cell? ⟨w.heap.size, 9, none⟩ = some (.slice a9 d9.length p9) ∧ Y.cell? ⟨w.heap.size + 1, 0, none⟩ = some (.int .i64 n0) ∧ Y.cell? ⟨w.heap.size + 1, 1, none⟩ = some (.int .i64 n1) ∧ Y.cell? ⟨w.heap.size + 1, 2, none⟩ = some (.int .i64 n2) ∧ Y.cell? ⟨w.heap.size + 1, 3, none⟩ = some (.int .i64 n3) ∧ Y.cell? ⟨w.heap.size + 1, 4, none⟩ = some (.int .i64 n4) ∧ Y.cell? ⟨w.heap.size + 1, 5, none⟩ = some (.int .i64 n5) ∧ Y.cell? ⟨w.heap.size + 1, 6, none⟩ = some (.int .i64 n6) ∧ Y.cell? ⟨w.heap.size + 1, 7, none⟩ = some (.bool b7) ∧ Y.cell? ⟨w.heap.size + 1, 8, none⟩ = some (.slice a8' L8'.length p8') ∧ Y.cell? ⟨w.heap.size + 1, 9, none⟩ = some (.slice a9' d9.length p9')) := fun Y hY => by
    have x0 : Y.heap[w.heap.size]? = some (.cells #[.int .i64 n0, .int .i64 n1, .int .i64 n2, .int .i64 n3, .int .i64 n4, .int .i64 n5, .int .i64 n6, .bool b7, .slice a8 L8.length p8, .slice a9 d9.length p9] 100 (0, 0)) := (hY.block _ (by simp; omega) (by simp)).trans ((Below.heap_alloc _ _ _ (by simp)).trans (heap_alloc_new w _))
    have x1 : Y.heap[w.heap.size + 1]? = some (.cells #[.int .i64 n0, .int .i64 n1, .int .i64 n2, .int .i64 n3, .int .i64 n4, .int .i64 n5, .int .i64 n6, .bool b7, .slice a8' L8'.length p8', .slice a9' d9.length p9'] 100 (0, 0)) := (hY.block _ (by simp) (by simp)).trans (heap_two w _ _)
    simp [World.cell?, x0, x1]
  have HG : Hid (w.grownBy ((w.alloc (.cells #[.int .i64 n0, .int .i64 n1, .int .i64 n2, .int .i64 n3, .int .i64 n4, .int .i64 n5, .int .i64 n6, .bool b7, .slice a8 L8.length p8, .slice a9 d9.length p9] 100)).alloc (.cells #[.int .i64 n0, .int .i64 n1, .int .i64 n2, .int .i64 n3, .int .i64 n4, .int .i64 n5, .int .i64 n6, .bool b7, .slice a8' L8'.length p8', .slice a9' d9.length p9'] 100)) none) := grownBy_alloc (World.grownBy_alloc _ _ _) _
  clear h8 h8' e8 s8 h9 h9' s9
  go_enter Tryd.func62, Tryd.ntmps62
  go_wp2_with fail
  refine (C0.out _ HG.out).mono ?_
  rintro e w1 ⟨rfl, hG1⟩
  have HY : Hid (((w.alloc (.cells #[.int .i64 n0, .int .i64 n1, .int .i64 n2, .int .i64 n3, .int .i64 n4, .int .i64 n5, .int .i64 n6, .bool b7, .slice a8 L8.length p8, .slice a9 d9.length p9] 100)).alloc (.cells #[.int .i64 n0, .int .i64 n1, .int .i64 n2, .int .i64 n3, .int .i64 n4, .int .i64 n5, .int .i64 n6, .bool b7, .slice a8' L8'.length p8', .slice a9' d9.length p9'] 100)).grownBy w1 none) := hG1
  clear hG1
  have hC := HW.out w1 HY.out
  go_wp2_with fail
  refine (C1.out _ (grownBy_trans HG.out HY.out)).mono ?_
  rintro e w2 ⟨rfl, hG2⟩
  have HY : Hid (((w.alloc (.cells #[.int .i64 n0, .int .i64 n1, .int .i64 n2, .int .i64 n3, .int .i64 n4, .int .i64 n5, .int .i64 n6, .bool b7, .slice a8 L8.length p8, .slice a9 d9.length p9] 100)).alloc (.cells #[.int .i64 n0, .int .i64 n1, .int .i64 n2, .int .i64 n3, .int .i64 n4, .int .i64 n5, .int .i64 n6, .bool b7, .slice a8' L8'.length p8', .slice a9' d9.length p9'] 100)).grownBy w2 none) := grownBy_trans HY.out hG2
  clear hG2 hC
  have hC := HW.out w2 HY.out
  go_wp2
  go_ret
  exact ⟨rfl, grownBy_trans HG.out HY.out⟩
set_option maxRecDepth 4000 in
set_option maxHeartbeats 4000000 in
theorem eqMessageS_same (L : List (List Tr)) (a : Option Addr) (p : Nat) (L' : List (List Tr)) (a' : Option Addr) (p' : Nat) (w : World) (h : RowOk w kMessage a L) (h' : RowOk w kMessage a' L') (e : tellR L = tellR L') (s : SmR L) :
    Calls Tryd.prog 46 #[.slice a L.length p, .slice a' L'.length p'] w fun e w' => e = .returned (.bool true) ∧ w.grownBy w' none := by
  have hll : L'.length = L.length := by have := congrArg List.length e; simpa using this.symm
  rw [hll]
  have HR : Hid (RowOk w kMessage a L ∧ RowOk w kMessage a' L' ∧ tellR L = tellR L' ∧ SmR L) := ⟨h, h', e, s⟩
  have hlen := s.1
  clear h h' e s
  obtain ⟨n, hn⟩ : ∃ n, L.length = n := ⟨_, rfl⟩
  have HN : Hid (L.length = n ∧ L'.length = n) := ⟨hn, by omega⟩
  rw [hn] at hlen ⊢
  clear hll hn
  go_enter Tryd.func46, Tryd.ntmps46
  go_wp2
  go_loopw [5] (fun i wr => ∃ k : Nat, k ≤ n ∧ i = .int .i64 (k : Int) ∧ w.grownBy wr none) (fun i _ => n - (intOf i).toNat)
  case atStart => exact ⟨0, Nat.zero_le _, rfl, grownBy_refl _ _⟩
  case round =>
    obtain ⟨k, hk, rfl, hG⟩ := hrel
    have HG : Hid (w.grownBy wr none) := hG
    clear hG
    by_cases hlt : k < n
    · obtain ⟨e, he⟩ : ∃ e, L[k]? = some e := ⟨_, List.getElem?_eq_getElem (by rw [HN.out.1]; exact hlt)⟩
      obtain ⟨e', he'⟩ : ∃ e, L'[k]? = some e := ⟨_, List.getElem?_eq_getElem (by rw [HN.out.2]; exact hlt)⟩
      have htl := tellR_get HR.out.2.2.1 he he'
      obtain ⟨hf, hrd, b, off, hab, hc⟩ := HR.out.1.grown0 HG.out k e he
      obtain ⟨hf', hrd', b', off', hab', hc'⟩ := HR.out.2.1.grown0 HG.out k e' he'
      have hsm := fun j y hj => HR.out.2.2.2.2 k j e y he hj
      obtain ⟨n0, n1, n2, n3, n4, n5, n6, b7, L8, a8, p8, d9, a9, p9, rfl⟩ := fitMessage hf
      obtain ⟨n0', n1', n2', n3', n4', n5', n6', b7', L8', a8', p8', d9', a9', p9', rfl⟩ := fitMessage hf'
      simp only [List.map_cons, List.map_nil, List.cons.injEq, and_true, Td.int.injEq, Td.bool.injEq, Td.byt.injEq, Td.row.injEq] at htl
      obtain ⟨rfl, rfl, rfl, rfl, rfl, rfl, rfl, rfl, e8, rfl⟩ := htl
      subst hab hab'
      have HE : Hid (∀ w' : World, SameT wr w' → Calls Tryd.prog 62 #[.agg #[.int .i64 n0, .int .i64 n1, .int .i64 n2, .int .i64 n3, .int .i64 n4, .int .i64 n5, .int .i64 n6, .bool b7, .slice a8 L8.length p8, .slice a9 d9.length p9], .agg #[.int .i64 n0, .int .i64 n1, .int .i64 n2, .int .i64 n3, .int .i64 n4, .int .i64 n5, .int .i64 n6, .bool b7, .slice a8' L8'.length p8', .slice a9' d9.length p9']] w' fun e w1 => e = .returned (.bool true) ∧ w'.grownBy w1 none) := fun w' hs => by
        have hh : w'.heap = wr.heap := hs.1
        have hhG : wr.grownBy w' none := hs.grown
        exact eqMessage_same n0 n1 n2 n3 n4 n5 n6 b7 L8 a8 p8 L8' a8' p8' d9 a9 p9 a9' p9' w' (((hrd (.row kEntry.length a8 p8 L8) (by simp)).rowOk ((hf.2 8 _ _ rfl rfl)) (by decide)).grown0 hhG) ((hrd (.byt d9 a9 p9) (by simp)).isByt.heap hh) (((hrd' (.row kEntry.length a8' p8' L8') (by simp)).rowOk ((hf'.2 8 _ _ rfl rfl)) (by decide)).grown0 hhG) ((hrd' (.byt d9 a9' p9') (by simp)).isByt.heap hh) e8 (hsm 8 _ rfl).isRow (hsm 9 _ rfl).isByt
      have hkI : (k : Int) < (n : Int) := by omega
      have hS : wr.drew.rangeAt b (off + k * 10) [.int .i64 n0, .int .i64 n1, .int .i64 n2, .int .i64 n3, .int .i64 n4, .int .i64 n5, .int .i64 n6, .bool b7, .slice a8 L8.length p8, .slice a9 d9.length p9] ∧ wr.drew.rangeAt b' (off' + k * 10) [.int .i64 n0, .int .i64 n1, .int .i64 n2, .int .i64 n3, .int .i64 n4, .int .i64 n5, .int .i64 n6, .bool b7, .slice a8' L8'.length p8', .slice a9' d9.length p9'] := ⟨range_el hc, range_el hc'⟩
      clear hc hc' hrd hrd' hsm hf hf' he he'
      go_wp2
      go_cut [26] (fun v wx => v = .bool false ∧ wr.grownBy wx none)
      case first =>
        as_aux_lemma =>
          refine wp_region_Z (fun W => W.rangeAt b (off + k * 10) [.int .i64 n0, .int .i64 n1, .int .i64 n2, .int .i64 n3, .int .i64 n4, .int .i64 n5, .int .i64 n6, .bool b7, .slice a8 L8.length p8, .slice a9 d9.length p9] ∧ W.rangeAt b' (off' + k * 10) [.int .i64 n0, .int .i64 n1, .int .i64 n2, .int .i64 n3, .int .i64 n4, .int .i64 n5, .int .i64 n6, .bool b7, .slice a8' L8'.length p8', .slice a9' d9.length p9']) (fun j => j == 8) (by kernel_rfl) ?_
          refine wpAnyZ_take' (i := 0) (v := ?vz0) rfl (by kernel_rfl) (by kernel_rfl) (by kernel_rfl) (fun _ _ _ h => h) (Or.inl ⟨by rfl, ?yz0⟩) ?rz0
          case yz0 => (intro w _; go_simp; first | done | with_reducible rfl)
          simp only [Act.put, List.setIfInBounds_toArray, List.set_cons_zero, List.set_cons_succ]
          refine wpAnyZ_take' (i := 1) (v := ?vz1) rfl (by kernel_rfl) (by kernel_rfl) (by kernel_rfl) (fun _ _ _ h => h) (Or.inl ⟨by rfl, ?yz1⟩) ?rz1
          case yz1 => (intro w _; go_simp; first | done | with_reducible rfl)
          simp only [Act.put, List.setIfInBounds_toArray, List.set_cons_zero, List.set_cons_succ]
          refine wpAnyZ_take' (i := 2) (v := ?vz2) rfl (by kernel_rfl) (by kernel_rfl) (by kernel_rfl) (fun _ _ _ h => h) (Or.inl ⟨by rfl, ?yz2⟩) ?rz2
          case yz2 => (intro w _; go_simp; first | done | with_reducible rfl)
          simp only [Act.put, List.setIfInBounds_toArray, List.set_cons_zero, List.set_cons_succ]
          refine wpAnyZ_load' (i := 3) (y := 8) (v := .agg [.int .i64 n0, .int .i64 n1, .int .i64 n2, .int .i64 n3, .int .i64 n4, .int .i64 n5, .int .i64 n6, .bool b7, .slice a8 L8.length p8, .slice a9 d9.length p9].toArray) rfl (by kernel_rfl) (by kernel_rfl) (by kernel_rfl) (fun _ _ _ h => h) (fun j hj => .inl (by obtain rfl : j = 8 := (by simpa using hj); kernel_rfl)) rfl (by kernel_rfl) (yieldsIf_load_mid (by rfl) _ _ rfl _ _ rfl _ _ (fun W hW => hW.1) Tryd.underlying100 rfl (by kernel_rfl)) hS ?rz3
          simp only [Act.put, List.setIfInBounds_toArray, List.set_cons_zero, List.set_cons_succ]
          refine wpAnyZ_take' (i := 4) (v := ?vz4) rfl (by kernel_rfl) (by kernel_rfl) (by kernel_rfl) (fun _ _ _ h => h) (Or.inl ⟨by rfl, ?yz4⟩) ?rz4
          case yz4 => (intro w _; go_simp; first | done | with_reducible rfl)
          simp only [Act.put, List.setIfInBounds_toArray, List.set_cons_zero, List.set_cons_succ]
          refine wpAnyZ_take' (i := 5) (v := ?vz5) rfl (by kernel_rfl) (by kernel_rfl) (by kernel_rfl) (fun _ _ _ h => h) (Or.inl ⟨by rfl, ?yz5⟩) ?rz5
          case yz5 => (intro w _; go_simp; first | done | with_reducible rfl)
          simp only [Act.put, List.setIfInBounds_toArray, List.set_cons_zero, List.set_cons_succ]
          refine wpAnyZ_take' (i := 6) (v := ?vz6) rfl (by kernel_rfl) (by kernel_rfl) (by kernel_rfl) (fun _ _ _ h => h) (Or.inl ⟨by rfl, ?yz6⟩) ?rz6
          case yz6 => (intro w _; go_simp; first | done | with_reducible rfl)
          simp only [Act.put, List.setIfInBounds_toArray, List.set_cons_zero, List.set_cons_succ]
          refine wpAnyZ_load' (i := 7) (y := 8) (v := .agg [.int .i64 n0, .int .i64 n1, .int .i64 n2, .int .i64 n3, .int .i64 n4, .int .i64 n5, .int .i64 n6, .bool b7, .slice a8' L8'.length p8', .slice a9' d9.length p9'].toArray) rfl (by kernel_rfl) (by kernel_rfl) (by kernel_rfl) (fun _ _ _ h => h) (fun j hj => .inl (by obtain rfl : j = 8 := (by simpa using hj); kernel_rfl)) rfl (by kernel_rfl) (yieldsIf_load_mid (by rfl) _ _ rfl _ _ rfl _ _ (fun W hW => hW.2) Tryd.underlying100 rfl (by kernel_rfl)) hS ?rz7
          simp only [Act.put, List.setIfInBounds_toArray, List.set_cons_zero, List.set_cons_succ]
          refine wpAnyZ_one' (i := 8) (by kernel_rfl) rfl (fun K hK => ?_)
          go_simp
          go_at_call 62
          refine (HE.out wr.drew ⟨rfl, rfl, rfl, rfl⟩).mono ?_
          rintro e w1 ⟨rfl, hG1⟩
          have HG2 : Hid (wr.grownBy w1 none) := grownBy_trans (grownBy_drew (grownBy_refl wr none)) hG1
          clear hG1
          go_wp2_with fail
          refine hK.out _ _ (fun h => by cases h) ?_
          clear hK K
          try simp only [Act.put, List.setIfInBounds_toArray, List.set_cons_zero, List.set_cons_succ]
          refine wpAnyZ_one' (i := 9) (by kernel_rfl) rfl (fun K hK => ?_)
          go_simp
          refine hK.out _ _ (fun _ h => h) ?_
          clear hK K
          try simp only [Act.put, List.setIfInBounds_toArray, List.set_cons_zero, List.set_cons_succ]
          refine wpAnyZ_done (by kernel_rfl) ?_ _
          go_wp2_with fail
          go_meet
          case rel => exact ⟨rfl, HG2.out⟩
      case rest =>
        obtain ⟨rfl, hG1⟩ := hcut
        have HG2 : Hid (w.grownBy wc none) := grownBy_trans HG.out hG1
        clear hG1
        go_wp2
        go_roundw
        case rel => exact ⟨k + 1, by omega, by go_num, HG2.out⟩
        case measure => simp [intOf]; omega
    · obtain rfl : k = n := by omega
      go_wp2
      go_ret
      exact ⟨rfl, HG.out⟩
set_option maxRecDepth 4000 in
set_option maxHeartbeats 4000000 in
theorem eqAck_same (n0 : Int) (n1 : Int) (n2 : Int) (n3 : Int) (n4 : Int) (w : World)  :
    Calls Tryd.prog 61 #[.agg #[.int .i64 n0, .int .i64 n1, .int .i64 n2, .int .i64 n3, .int .i64 n4], .agg #[.int .i64 n0, .int .i64 n1, .int .i64 n2, .int .i64 n3, .int .i64 n4]] w fun e w' => e = .returned (.bool true) ∧ w.grownBy w' none := by
  go_enter Tryd.func61, Tryd.ntmps61
  go_wp2
  go_ret
  exact ⟨rfl, grownBy_alloc (World.grownBy_alloc _ _ _) _⟩
set_option maxRecDepth 4000 in
set_option maxHeartbeats 4000000 in
theorem eqAckS_same (L : List (List Tr)) (a : Option Addr) (p : Nat) (L' : List (List Tr)) (a' : Option Addr) (p' : Nat) (w : World) (h : RowOk w kAck a L) (h' : RowOk w kAck a' L') (e : tellR L = tellR L') (s : SmR L) :
    Calls Tryd.prog 45 #[.slice a L.length p, .slice a' L'.length p'] w fun e w' => e = .returned (.bool true) ∧ w.grownBy w' none := by
  have hll : L'.length = L.length := by have := congrArg List.length e; simpa using this.symm
  rw [hll]
  have HR : Hid (RowOk w kAck a L ∧ RowOk w kAck a' L' ∧ tellR L = tellR L' ∧ SmR L) := ⟨h, h', e, s⟩
  have hlen := s.1
  clear h h' e s
  obtain ⟨n, hn⟩ : ∃ n, L.length = n := ⟨_, rfl⟩
  have HN : Hid (L.length = n ∧ L'.length = n) := ⟨hn, by omega⟩
  rw [hn] at hlen ⊢
  clear hll hn
  go_enter Tryd.func45, Tryd.ntmps45
  go_wp2
  go_loopw [5] (fun i wr => ∃ k : Nat, k ≤ n ∧ i = .int .i64 (k : Int) ∧ w.grownBy wr none) (fun i _ => n - (intOf i).toNat)
  case atStart => exact ⟨0, Nat.zero_le _, rfl, grownBy_refl _ _⟩
  case round =>
    obtain ⟨k, hk, rfl, hG⟩ := hrel
    have HG : Hid (w.grownBy wr none) := hG
    clear hG
    by_cases hlt : k < n
    · obtain ⟨e, he⟩ : ∃ e, L[k]? = some e := ⟨_, List.getElem?_eq_getElem (by rw [HN.out.1]; exact hlt)⟩
      obtain ⟨e', he'⟩ : ∃ e, L'[k]? = some e := ⟨_, List.getElem?_eq_getElem (by rw [HN.out.2]; exact hlt)⟩
      have htl := tellR_get HR.out.2.2.1 he he'
      obtain ⟨hf, hrd, b, off, hab, hc⟩ := HR.out.1.grown0 HG.out k e he
      obtain ⟨hf', hrd', b', off', hab', hc'⟩ := HR.out.2.1.grown0 HG.out k e' he'
      have hsm := fun j y hj => HR.out.2.2.2.2 k j e y he hj
      obtain ⟨n0, n1, n2, n3, n4, rfl⟩ := fitAck hf
      obtain ⟨n0', n1', n2', n3', n4', rfl⟩ := fitAck hf'
      simp only [List.map_cons, List.map_nil, List.cons.injEq, and_true, Td.int.injEq] at htl
      obtain ⟨rfl, rfl, rfl, rfl, rfl⟩ := htl
      subst hab hab'
      have HE : Hid (∀ w' : World, SameT wr w' → Calls Tryd.prog 61 #[.agg #[.int .i64 n0, .int .i64 n1, .int .i64 n2, .int .i64 n3, .int .i64 n4], .agg #[.int .i64 n0, .int .i64 n1, .int .i64 n2, .int .i64 n3, .int .i64 n4]] w' fun e w1 => e = .returned (.bool true) ∧ w'.grownBy w1 none) := fun w' hs => by
        have hh : w'.heap = wr.heap := hs.1
        have hhG : wr.grownBy w' none := hs.grown
        exact eqAck_same n0 n1 n2 n3 n4 w' 
      have hkI : (k : Int) < (n : Int) := by omega
      have hS : wr.drew.rangeAt b (off + k * 5) [.int .i64 n0, .int .i64 n1, .int .i64 n2, .int .i64 n3, .int .i64 n4] ∧ wr.drew.rangeAt b' (off' + k * 5) [.int .i64 n0, .int .i64 n1, .int .i64 n2, .int .i64 n3, .int .i64 n4] := ⟨range_el hc, range_el hc'⟩
      clear hc hc' hrd hrd' hsm hf hf' he he'
      go_wp2
      go_cut [26] (fun v wx => v = .bool false ∧ wr.grownBy wx none)
      case first =>
        as_aux_lemma =>
          refine wp_region_Z (fun W => W.rangeAt b (off + k * 5) [.int .i64 n0, .int .i64 n1, .int .i64 n2, .int .i64 n3, .int .i64 n4] ∧ W.rangeAt b' (off' + k * 5) [.int .i64 n0, .int .i64 n1, .int .i64 n2, .int .i64 n3, .int .i64 n4]) (fun j => j == 8) (by kernel_rfl) ?_
          refine wpAnyZ_take' (i := 0) (v := ?vz0) rfl (by kernel_rfl) (by kernel_rfl) (by kernel_rfl) (fun _ _ _ h => h) (Or.inl ⟨by rfl, ?yz0⟩) ?rz0
          case yz0 => (intro w _; go_simp; first | done | with_reducible rfl)
          simp only [Act.put, List.setIfInBounds_toArray, List.set_cons_zero, List.set_cons_succ]
          refine wpAnyZ_take' (i := 1) (v := ?vz1) rfl (by kernel_rfl) (by kernel_rfl) (by kernel_rfl) (fun _ _ _ h => h) (Or.inl ⟨by rfl, ?yz1⟩) ?rz1
          case yz1 => (intro w _; go_simp; first | done | with_reducible rfl)
          simp only [Act.put, List.setIfInBounds_toArray, List.set_cons_zero, List.set_cons_succ]
          refine wpAnyZ_take' (i := 2) (v := ?vz2) rfl (by kernel_rfl) (by kernel_rfl) (by kernel_rfl) (fun _ _ _ h => h) (Or.inl ⟨by rfl, ?yz2⟩) ?rz2
          case yz2 => (intro w _; go_simp; first | done | with_reducible rfl)
          simp only [Act.put, List.setIfInBounds_toArray, List.set_cons_zero, List.set_cons_succ]
          refine wpAnyZ_load' (i := 3) (y := 8) (v := .agg [.int .i64 n0, .int .i64 n1, .int .i64 n2, .int .i64 n3, .int .i64 n4].toArray) rfl (by kernel_rfl) (by kernel_rfl) (by kernel_rfl) (fun _ _ _ h => h) (fun j hj => .inl (by obtain rfl : j = 8 := (by simpa using hj); kernel_rfl)) rfl (by kernel_rfl) (yieldsIf_load_mid (by rfl) _ _ rfl _ _ rfl _ _ (fun W hW => hW.1) Tryd.underlying53 rfl (by kernel_rfl)) hS ?rz3
          simp only [Act.put, List.setIfInBounds_toArray, List.set_cons_zero, List.set_cons_succ]
          refine wpAnyZ_take' (i := 4) (v := ?vz4) rfl (by kernel_rfl) (by kernel_rfl) (by kernel_rfl) (fun _ _ _ h => h) (Or.inl ⟨by rfl, ?yz4⟩) ?rz4
          case yz4 => (intro w _; go_simp; first | done | with_reducible rfl)
          simp only [Act.put, List.setIfInBounds_toArray, List.set_cons_zero, List.set_cons_succ]
          refine wpAnyZ_take' (i := 5) (v := ?vz5) rfl (by kernel_rfl) (by kernel_rfl) (by kernel_rfl) (fun _ _ _ h => h) (Or.inl ⟨by rfl, ?yz5⟩) ?rz5
          case yz5 => (intro w _; go_simp; first | done | with_reducible rfl)
          simp only [Act.put, List.setIfInBounds_toArray, List.set_cons_zero, List.set_cons_succ]
          refine wpAnyZ_take' (i := 6) (v := ?vz6) rfl (by kernel_rfl) (by kernel_rfl) (by kernel_rfl) (fun _ _ _ h => h) (Or.inl ⟨by rfl, ?yz6⟩) ?rz6
          case yz6 => (intro w _; go_simp; first | done | with_reducible rfl)
          simp only [Act.put, List.setIfInBounds_toArray, List.set_cons_zero, List.set_cons_succ]
          refine wpAnyZ_load' (i := 7) (y := 8) (v := .agg [.int .i64 n0, .int .i64 n1, .int .i64 n2, .int .i64 n3, .int .i64 n4].toArray) rfl (by kernel_rfl) (by kernel_rfl) (by kernel_rfl) (fun _ _ _ h => h) (fun j hj => .inl (by obtain rfl : j = 8 := (by simpa using hj); kernel_rfl)) rfl (by kernel_rfl) (yieldsIf_load_mid (by rfl) _ _ rfl _ _ rfl _ _ (fun W hW => hW.2) Tryd.underlying53 rfl (by kernel_rfl)) hS ?rz7
          simp only [Act.put, List.setIfInBounds_toArray, List.set_cons_zero, List.set_cons_succ]
          refine wpAnyZ_one' (i := 8) (by kernel_rfl) rfl (fun K hK => ?_)
          go_simp
          go_at_call 61
          refine (HE.out wr.drew ⟨rfl, rfl, rfl, rfl⟩).mono ?_
          rintro e w1 ⟨rfl, hG1⟩
          have HG2 : Hid (wr.grownBy w1 none) := grownBy_trans (grownBy_drew (grownBy_refl wr none)) hG1
          clear hG1
          go_wp2_with fail
          refine hK.out _ _ (fun h => by cases h) ?_
          clear hK K
          try simp only [Act.put, List.setIfInBounds_toArray, List.set_cons_zero, List.set_cons_succ]
          refine wpAnyZ_one' (i := 9) (by kernel_rfl) rfl (fun K hK => ?_)
          go_simp
          refine hK.out _ _ (fun _ h => h) ?_
          clear hK K
          try simp only [Act.put, List.setIfInBounds_toArray, List.set_cons_zero, List.set_cons_succ]
          refine wpAnyZ_done (by kernel_rfl) ?_ _
          go_wp2_with fail
          go_meet
          case rel => exact ⟨rfl, HG2.out⟩
      case rest =>
        obtain ⟨rfl, hG1⟩ := hcut
        have HG2 : Hid (w.grownBy wc none) := grownBy_trans HG.out hG1
        clear hG1
        go_wp2
        go_roundw
        case rel => exact ⟨k + 1, by omega, by go_num, HG2.out⟩
        case measure => simp [intOf]; omega
    · obtain rfl : k = n := by omega
      go_wp2
      go_ret
      exact ⟨rfl, HG.out⟩
set_option maxRecDepth 4000 in
set_option maxHeartbeats 4000000 in
theorem eqItem_same (n0 : Int) (n1 : Int) (d2 : List Nat) (a2 : Option Addr) (p2 : Nat) (a2' : Option Addr) (p2' : Nat) (w : World) (h2 : SlB w a2 d2.length d2) (h2' : SlB w a2' d2.length d2) (s2 : d2.length ≤ 1048576) :
    Calls Tryd.prog 43 #[.agg #[.int .i64 n0, .int .i64 n1, .slice a2 d2.length p2], .agg #[.int .i64 n0, .int .i64 n1, .slice a2' d2.length p2']] w fun e w' => e = .returned (.bool true) ∧ w.grownBy w' none := by
  have C0 : Hid (∀ Y : World, w.grownBy Y none → Calls Tryd.prog 8 #[.slice a2 d2.length p2, .slice a2' d2.length p2'] Y fun e w' => e = .returned (.bool true) ∧ Y.grownBy w' none) := fun Y hY => eqByteS_same a2 a2' d2.length p2 p2' d2 Y (h2.grown0 hY) (h2'.grown0 hY) (by omega)
  have HW : Hid (∀ Y : World, ((w.alloc (.cells #[.int .i64 n0, .int .i64 n1, .slice a2 d2.length p2] 40)).alloc (.cells #[.int .i64 n0, .int .i64 n1, .slice a2' d2.length p2'] 40)).grownBy Y none → Y.cell? ⟨w.heap.size, 0, none⟩ = some (.int .i64 n0) ∧ Y.cell? ⟨w.heap.size, 1, none⟩ = some (.int .i64 n1) ∧ Y.cell? ⟨w.heap.size, 2, none⟩ = some (.slice a2 d2.length p2) ∧ Y.cell? ⟨w.heap.size + 1, 0, none⟩ = some (.int .i64 n0) ∧ Y.cell? ⟨w.heap.size + 1, 1, none⟩ = some (.int .i64 n1) ∧ Y.cell? ⟨w.heap.size + 1, 2, none⟩ = some (.slice a2' d2.length p2')) := fun Y hY => by
    have x0 : Y.heap[w.heap.size]? = some (.cells #[.int .i64 n0, .int .i64 n1, .slice a2 d2.length p2] 40 (0, 0)) := (hY.block _ (by simp; omega) (by simp)).trans ((Below.heap_alloc _ _ _ (by simp)).trans (heap_alloc_new w _))
    have x1 : Y.heap[w.heap.size + 1]? = some (.cells #[.int .i64 n0, .int .i64 n1, .slice a2' d2.length p2'] 40 (0, 0)) := (hY.block _ (by simp) (by simp)).trans (heap_two w _ _)
    simp [World.cell?, x0, x1]
  have HG : Hid (w.grownBy ((w.alloc (.cells #[.int .i64 n0, .int .i64 n1, .slice a2 d2.length p2] 40)).alloc (.cells #[.int .i64 n0, .int .i64 n1, .slice a2' d2.length p2'] 40)) none) := grownBy_alloc (World.grownBy_alloc _ _ _) _
  clear h2 h2' s2
  go_enter Tryd.func43, Tryd.ntmps43
  go_wp2_with fail
  refine (C0.out _ HG.out).mono ?_
  rintro e w1 ⟨rfl, hG1⟩
  have HY : Hid (((w.alloc (.cells #[.int .i64 n0, .int .i64 n1, .slice a2 d2.length p2] 40)).alloc (.cells #[.int .i64 n0, .int .i64 n1, .slice a2' d2.length p2'] 40)).grownBy w1 none) := hG1
  clear hG1
  have hC := HW.out w1 HY.out
  go_wp2
  go_ret
  exact ⟨rfl, grownBy_trans HG.out HY.out⟩
set_option maxRecDepth 4000 in
set_option maxHeartbeats 4000000 in
theorem eqItemS_same (L : List (List Tr)) (a : Option Addr) (p : Nat) (L' : List (List Tr)) (a' : Option Addr) (p' : Nat) (w : World) (h : RowOk w kItem a L) (h' : RowOk w kItem a' L') (e : tellR L = tellR L') (s : SmR L) :
    Calls Tryd.prog 59 #[.slice a L.length p, .slice a' L'.length p'] w fun e w' => e = .returned (.bool true) ∧ w.grownBy w' none := by
  have hll : L'.length = L.length := by have := congrArg List.length e; simpa using this.symm
  rw [hll]
  have HR : Hid (RowOk w kItem a L ∧ RowOk w kItem a' L' ∧ tellR L = tellR L' ∧ SmR L) := ⟨h, h', e, s⟩
  have hlen := s.1
  clear h h' e s
  obtain ⟨n, hn⟩ : ∃ n, L.length = n := ⟨_, rfl⟩
  have HN : Hid (L.length = n ∧ L'.length = n) := ⟨hn, by omega⟩
  rw [hn] at hlen ⊢
  clear hll hn
  go_enter Tryd.func59, Tryd.ntmps59
  go_wp2
  go_loopw [5] (fun i wr => ∃ k : Nat, k ≤ n ∧ i = .int .i64 (k : Int) ∧ w.grownBy wr none) (fun i _ => n - (intOf i).toNat)
  case atStart => exact ⟨0, Nat.zero_le _, rfl, grownBy_refl _ _⟩
  case round =>
    obtain ⟨k, hk, rfl, hG⟩ := hrel
    have HG : Hid (w.grownBy wr none) := hG
    clear hG
    by_cases hlt : k < n
    · obtain ⟨e, he⟩ : ∃ e, L[k]? = some e := ⟨_, List.getElem?_eq_getElem (by rw [HN.out.1]; exact hlt)⟩
      obtain ⟨e', he'⟩ : ∃ e, L'[k]? = some e := ⟨_, List.getElem?_eq_getElem (by rw [HN.out.2]; exact hlt)⟩
      have htl := tellR_get HR.out.2.2.1 he he'
      obtain ⟨hf, hrd, b, off, hab, hc⟩ := HR.out.1.grown0 HG.out k e he
      obtain ⟨hf', hrd', b', off', hab', hc'⟩ := HR.out.2.1.grown0 HG.out k e' he'
      have hsm := fun j y hj => HR.out.2.2.2.2 k j e y he hj
      obtain ⟨n0, n1, d2, a2, p2, rfl⟩ := fitItem hf
      obtain ⟨n0', n1', d2', a2', p2', rfl⟩ := fitItem hf'
      simp only [List.map_cons, List.map_nil, List.cons.injEq, and_true, Td.int.injEq, Td.byt.injEq] at htl
      obtain ⟨rfl, rfl, rfl⟩ := htl
      subst hab hab'
      have HE : Hid (∀ w' : World, SameT wr w' → Calls Tryd.prog 43 #[.agg #[.int .i64 n0, .int .i64 n1, .slice a2 d2.length p2], .agg #[.int .i64 n0, .int .i64 n1, .slice a2' d2.length p2']] w' fun e w1 => e = .returned (.bool true) ∧ w'.grownBy w1 none) := fun w' hs => by
        have hh : w'.heap = wr.heap := hs.1
        have hhG : wr.grownBy w' none := hs.grown
        exact eqItem_same n0 n1 d2 a2 p2 a2' p2' w' ((hrd (.byt d2 a2 p2) (by simp)).isByt.heap hh) ((hrd' (.byt d2 a2' p2') (by simp)).isByt.heap hh) (hsm 2 _ rfl).isByt
      have hkI : (k : Int) < (n : Int) := by omega
      have hS : wr.drew.rangeAt b (off + k * 3) [.int .i64 n0, .int .i64 n1, .slice a2 d2.length p2] ∧ wr.drew.rangeAt b' (off' + k * 3) [.int .i64 n0, .int .i64 n1, .slice a2' d2.length p2'] := ⟨range_el hc, range_el hc'⟩
      clear hc hc' hrd hrd' hsm hf hf' he he'
      go_wp2
      go_cut [26] (fun v wx => v = .bool false ∧ wr.grownBy wx none)
      case first =>
        as_aux_lemma =>
          refine wp_region_Z (fun W => W.rangeAt b (off + k * 3) [.int .i64 n0, .int .i64 n1, .slice a2 d2.length p2] ∧ W.rangeAt b' (off' + k * 3) [.int .i64 n0, .int .i64 n1, .slice a2' d2.length p2']) (fun j => j == 8) (by kernel_rfl) ?_
          refine wpAnyZ_take' (i := 0) (v := ?vz0) rfl (by kernel_rfl) (by kernel_rfl) (by kernel_rfl) (fun _ _ _ h => h) (Or.inl ⟨by rfl, ?yz0⟩) ?rz0
          case yz0 => (intro w _; go_simp; first | done | with_reducible rfl)
          simp only [Act.put, List.setIfInBounds_toArray, List.set_cons_zero, List.set_cons_succ]
          refine wpAnyZ_take' (i := 1) (v := ?vz1) rfl (by kernel_rfl) (by kernel_rfl) (by kernel_rfl) (fun _ _ _ h => h) (Or.inl ⟨by rfl, ?yz1⟩) ?rz1
          case yz1 => (intro w _; go_simp; first | done | with_reducible rfl)
          simp only [Act.put, List.setIfInBounds_toArray, List.set_cons_zero, List.set_cons_succ]
          refine wpAnyZ_take' (i := 2) (v := ?vz2) rfl (by kernel_rfl) (by kernel_rfl) (by kernel_rfl) (fun _ _ _ h => h) (Or.inl ⟨by rfl, ?yz2⟩) ?rz2
          case yz2 => (intro w _; go_simp; first | done | with_reducible rfl)
          simp only [Act.put, List.setIfInBounds_toArray, List.set_cons_zero, List.set_cons_succ]
          refine wpAnyZ_load' (i := 3) (y := 8) (v := .agg [.int .i64 n0, .int .i64 n1, .slice a2 d2.length p2].toArray) rfl (by kernel_rfl) (by kernel_rfl) (by kernel_rfl) (fun _ _ _ h => h) (fun j hj => .inl (by obtain rfl : j = 8 := (by simpa using hj); kernel_rfl)) rfl (by kernel_rfl) (yieldsIf_load_mid (by rfl) _ _ rfl _ _ rfl _ _ (fun W hW => hW.1) Tryd.underlying40 rfl (by kernel_rfl)) hS ?rz3
          simp only [Act.put, List.setIfInBounds_toArray, List.set_cons_zero, List.set_cons_succ]
          refine wpAnyZ_take' (i := 4) (v := ?vz4) rfl (by kernel_rfl) (by kernel_rfl) (by kernel_rfl) (fun _ _ _ h => h) (Or.inl ⟨by rfl, ?yz4⟩) ?rz4
          case yz4 => (intro w _; go_simp; first | done | with_reducible rfl)
          simp only [Act.put, List.setIfInBounds_toArray, List.set_cons_zero, List.set_cons_succ]
          refine wpAnyZ_take' (i := 5) (v := ?vz5) rfl (by kernel_rfl) (by kernel_rfl) (by kernel_rfl) (fun _ _ _ h => h) (Or.inl ⟨by rfl, ?yz5⟩) ?rz5
          case yz5 => (intro w _; go_simp; first | done | with_reducible rfl)
          simp only [Act.put, List.setIfInBounds_toArray, List.set_cons_zero, List.set_cons_succ]
          refine wpAnyZ_take' (i := 6) (v := ?vz6) rfl (by kernel_rfl) (by kernel_rfl) (by kernel_rfl) (fun _ _ _ h => h) (Or.inl ⟨by rfl, ?yz6⟩) ?rz6
          case yz6 => (intro w _; go_simp; first | done | with_reducible rfl)
          simp only [Act.put, List.setIfInBounds_toArray, List.set_cons_zero, List.set_cons_succ]
          refine wpAnyZ_load' (i := 7) (y := 8) (v := .agg [.int .i64 n0, .int .i64 n1, .slice a2' d2.length p2'].toArray) rfl (by kernel_rfl) (by kernel_rfl) (by kernel_rfl) (fun _ _ _ h => h) (fun j hj => .inl (by obtain rfl : j = 8 := (by simpa using hj); kernel_rfl)) rfl (by kernel_rfl) (yieldsIf_load_mid (by rfl) _ _ rfl _ _ rfl _ _ (fun W hW => hW.2) Tryd.underlying40 rfl (by kernel_rfl)) hS ?rz7
          simp only [Act.put, List.setIfInBounds_toArray, List.set_cons_zero, List.set_cons_succ]
          refine wpAnyZ_one' (i := 8) (by kernel_rfl) rfl (fun K hK => ?_)
          go_simp
          go_at_call 43
          refine (HE.out wr.drew ⟨rfl, rfl, rfl, rfl⟩).mono ?_
          rintro e w1 ⟨rfl, hG1⟩
          have HG2 : Hid (wr.grownBy w1 none) := grownBy_trans (grownBy_drew (grownBy_refl wr none)) hG1
          clear hG1
          go_wp2_with fail
          refine hK.out _ _ (fun h => by cases h) ?_
          clear hK K
          try simp only [Act.put, List.setIfInBounds_toArray, List.set_cons_zero, List.set_cons_succ]
          refine wpAnyZ_one' (i := 9) (by kernel_rfl) rfl (fun K hK => ?_)
          go_simp
          refine hK.out _ _ (fun _ h => h) ?_
          clear hK K
          try simp only [Act.put, List.setIfInBounds_toArray, List.set_cons_zero, List.set_cons_succ]
          refine wpAnyZ_done (by kernel_rfl) ?_ _
          go_wp2_with fail
          go_meet
          case rel => exact ⟨rfl, HG2.out⟩
      case rest =>
        obtain ⟨rfl, hG1⟩ := hcut
        have HG2 : Hid (w.grownBy wc none) := grownBy_trans HG.out hG1
        clear hG1
        go_wp2
        go_roundw
        case rel => exact ⟨k + 1, by omega, by go_num, HG2.out⟩
        case measure => simp [intOf]; omega
    · obtain rfl : k = n := by omega
      go_wp2
      go_ret
      exact ⟨rfl, HG.out⟩
set_option maxRecDepth 4000 in
set_option maxHeartbeats 4000000 in
theorem eqSession_same (n0 : Int) (n1 : Int) (n2 : Int) (d3 : List Nat) (a3 : Option Addr) (p3 : Nat) (a3' : Option Addr) (p3' : Nat) (w : World) (h3 : SlB w a3 d3.length d3) (h3' : SlB w a3' d3.length d3) (s3 : d3.length ≤ 1048576) :
    Calls Tryd.prog 71 #[.agg #[.int .i64 n0, .int .i64 n1, .int .i64 n2, .slice a3 d3.length p3], .agg #[.int .i64 n0, .int .i64 n1, .int .i64 n2, .slice a3' d3.length p3']] w fun e w' => e = .returned (.bool true) ∧ w.grownBy w' none := by
  have C0 : Hid (∀ Y : World, w.grownBy Y none → Calls Tryd.prog 8 #[.slice a3 d3.length p3, .slice a3' d3.length p3'] Y fun e w' => e = .returned (.bool true) ∧ Y.grownBy w' none) := fun Y hY => eqByteS_same a3 a3' d3.length p3 p3' d3 Y (h3.grown0 hY) (h3'.grown0 hY) (by omega)
  have HW : Hid (∀ Y : World, ((w.alloc (.cells #[.int .i64 n0, .int .i64 n1, .int .i64 n2, .slice a3 d3.length p3] 97)).alloc (.cells #[.int .i64 n0, .int .i64 n1, .int .i64 n2, .slice a3' d3.length p3'] 97)).grownBy Y none → Y.cell? ⟨w.heap.size, 0, none⟩ = some (.int .i64 n0) ∧ Y.cell? ⟨w.heap.size, 1, none⟩ = some (.int .i64 n1) ∧ Y.cell? ⟨w.heap.size, 2, none⟩ = some (.int .i64 n2) ∧ Y.cell? ⟨w.heap.size, 3, none⟩ = some (.slice a3 d3.length p3) ∧ Y.cell? ⟨w.heap.size + 1, 0, none⟩ = some (.int .i64 n0) ∧ Y.cell? ⟨w.heap.size + 1, 1, none⟩ = some (.int .i64 n1) ∧ Y.cell? ⟨w.heap.size + 1, 2, none⟩ = some (.int .i64 n2) ∧ Y.cell? ⟨w.heap.size + 1, 3, none⟩ = some (.slice a3' d3.length p3')) := fun Y hY => by
    have x0 : Y.heap[w.heap.size]? = some (.cells #[.int .i64 n0, .int .i64 n1, .int .i64 n2, .slice a3 d3.length p3] 97 (0, 0)) := (hY.block _ (by simp; omega) (by simp)).trans ((Below.heap_alloc _ _ _ (by simp)).trans (heap_alloc_new w _))
    have x1 : Y.heap[w.heap.size + 1]? = some (.cells #[.int .i64 n0, .int .i64 n1, .int .i64 n2, .slice a3' d3.length p3'] 97 (0, 0)) := (hY.block _ (by simp) (by simp)).trans (heap_two w _ _)
    simp [World.cell?, x0, x1]
  have HG : Hid (w.grownBy ((w.alloc (.cells #[.int .i64 n0, .int .i64 n1, .int .i64 n2, .slice a3 d3.length p3] 97)).alloc (.cells #[.int .i64 n0, .int .i64 n1, .int .i64 n2, .slice a3' d3.length p3'] 97)) none) := grownBy_alloc (World.grownBy_alloc _ _ _) _
  clear h3 h3' s3
  go_enter Tryd.func71, Tryd.ntmps71
  go_wp2_with fail
  refine (C0.out _ HG.out).mono ?_
  rintro e w1 ⟨rfl, hG1⟩
  have HY : Hid (((w.alloc (.cells #[.int .i64 n0, .int .i64 n1, .int .i64 n2, .slice a3 d3.length p3] 97)).alloc (.cells #[.int .i64 n0, .int .i64 n1, .int .i64 n2, .slice a3' d3.length p3'] 97)).grownBy w1 none) := hG1
  clear hG1
  have hC := HW.out w1 HY.out
  go_wp2
  go_ret
  exact ⟨rfl, grownBy_trans HG.out HY.out⟩
set_option maxRecDepth 4000 in
set_option maxHeartbeats 4000000 in
theorem eqSessionS_same (L : List (List Tr)) (a : Option Addr) (p : Nat) (L' : List (List Tr)) (a' : Option Addr) (p' : Nat) (w : World) (h : RowOk w kSession a L) (h' : RowOk w kSession a' L') (e : tellR L = tellR L') (s : SmR L) :
    Calls Tryd.prog 60 #[.slice a L.length p, .slice a' L'.length p'] w fun e w' => e = .returned (.bool true) ∧ w.grownBy w' none := by
  have hll : L'.length = L.length := by have := congrArg List.length e; simpa using this.symm
  rw [hll]
  have HR : Hid (RowOk w kSession a L ∧ RowOk w kSession a' L' ∧ tellR L = tellR L' ∧ SmR L) := ⟨h, h', e, s⟩
  have hlen := s.1
  clear h h' e s
  obtain ⟨n, hn⟩ : ∃ n, L.length = n := ⟨_, rfl⟩
  have HN : Hid (L.length = n ∧ L'.length = n) := ⟨hn, by omega⟩
  rw [hn] at hlen ⊢
  clear hll hn
  go_enter Tryd.func60, Tryd.ntmps60
  go_wp2
  go_loopw [5] (fun i wr => ∃ k : Nat, k ≤ n ∧ i = .int .i64 (k : Int) ∧ w.grownBy wr none) (fun i _ => n - (intOf i).toNat)
  case atStart => exact ⟨0, Nat.zero_le _, rfl, grownBy_refl _ _⟩
  case round =>
    obtain ⟨k, hk, rfl, hG⟩ := hrel
    have HG : Hid (w.grownBy wr none) := hG
    clear hG
    by_cases hlt : k < n
    · obtain ⟨e, he⟩ : ∃ e, L[k]? = some e := ⟨_, List.getElem?_eq_getElem (by rw [HN.out.1]; exact hlt)⟩
      obtain ⟨e', he'⟩ : ∃ e, L'[k]? = some e := ⟨_, List.getElem?_eq_getElem (by rw [HN.out.2]; exact hlt)⟩
      have htl := tellR_get HR.out.2.2.1 he he'
      obtain ⟨hf, hrd, b, off, hab, hc⟩ := HR.out.1.grown0 HG.out k e he
      obtain ⟨hf', hrd', b', off', hab', hc'⟩ := HR.out.2.1.grown0 HG.out k e' he'
      have hsm := fun j y hj => HR.out.2.2.2.2 k j e y he hj
      obtain ⟨n0, n1, n2, d3, a3, p3, rfl⟩ := fitSession hf
      obtain ⟨n0', n1', n2', d3', a3', p3', rfl⟩ := fitSession hf'
      simp only [List.map_cons, List.map_nil, List.cons.injEq, and_true, Td.int.injEq, Td.byt.injEq] at htl
      obtain ⟨rfl, rfl, rfl, rfl⟩ := htl
      subst hab hab'
      have HE : Hid (∀ w' : World, SameT wr w' → Calls Tryd.prog 71 #[.agg #[.int .i64 n0, .int .i64 n1, .int .i64 n2, .slice a3 d3.length p3], .agg #[.int .i64 n0, .int .i64 n1, .int .i64 n2, .slice a3' d3.length p3']] w' fun e w1 => e = .returned (.bool true) ∧ w'.grownBy w1 none) := fun w' hs => by
        have hh : w'.heap = wr.heap := hs.1
        have hhG : wr.grownBy w' none := hs.grown
        exact eqSession_same n0 n1 n2 d3 a3 p3 a3' p3' w' ((hrd (.byt d3 a3 p3) (by simp)).isByt.heap hh) ((hrd' (.byt d3 a3' p3') (by simp)).isByt.heap hh) (hsm 3 _ rfl).isByt
      have hkI : (k : Int) < (n : Int) := by omega
      have hS : wr.drew.rangeAt b (off + k * 4) [.int .i64 n0, .int .i64 n1, .int .i64 n2, .slice a3 d3.length p3] ∧ wr.drew.rangeAt b' (off' + k * 4) [.int .i64 n0, .int .i64 n1, .int .i64 n2, .slice a3' d3.length p3'] := ⟨range_el hc, range_el hc'⟩
      clear hc hc' hrd hrd' hsm hf hf' he he'
      go_wp2
      go_cut [26] (fun v wx => v = .bool false ∧ wr.grownBy wx none)
      case first =>
        as_aux_lemma =>
          refine wp_region_Z (fun W => W.rangeAt b (off + k * 4) [.int .i64 n0, .int .i64 n1, .int .i64 n2, .slice a3 d3.length p3] ∧ W.rangeAt b' (off' + k * 4) [.int .i64 n0, .int .i64 n1, .int .i64 n2, .slice a3' d3.length p3']) (fun j => j == 8) (by kernel_rfl) ?_
          refine wpAnyZ_take' (i := 0) (v := ?vz0) rfl (by kernel_rfl) (by kernel_rfl) (by kernel_rfl) (fun _ _ _ h => h) (Or.inl ⟨by rfl, ?yz0⟩) ?rz0
          case yz0 => (intro w _; go_simp; first | done | with_reducible rfl)
          simp only [Act.put, List.setIfInBounds_toArray, List.set_cons_zero, List.set_cons_succ]
          refine wpAnyZ_take' (i := 1) (v := ?vz1) rfl (by kernel_rfl) (by kernel_rfl) (by kernel_rfl) (fun _ _ _ h => h) (Or.inl ⟨by rfl, ?yz1⟩) ?rz1
          case yz1 => (intro w _; go_simp; first | done | with_reducible rfl)
          simp only [Act.put, List.setIfInBounds_toArray, List.set_cons_zero, List.set_cons_succ]
          refine wpAnyZ_take' (i := 2) (v := ?vz2) rfl (by kernel_rfl) (by kernel_rfl) (by kernel_rfl) (fun _ _ _ h => h) (Or.inl ⟨by rfl, ?yz2⟩) ?rz2
          case yz2 => (intro w _; go_simp; first | done | with_reducible rfl)
          simp only [Act.put, List.setIfInBounds_toArray, List.set_cons_zero, List.set_cons_succ]
          refine wpAnyZ_load' (i := 3) (y := 8) (v := .agg [.int .i64 n0, .int .i64 n1, .int .i64 n2, .slice a3 d3.length p3].toArray) rfl (by kernel_rfl) (by kernel_rfl) (by kernel_rfl) (fun _ _ _ h => h) (fun j hj => .inl (by obtain rfl : j = 8 := (by simpa using hj); kernel_rfl)) rfl (by kernel_rfl) (yieldsIf_load_mid (by rfl) _ _ rfl _ _ rfl _ _ (fun W hW => hW.1) Tryd.underlying97 rfl (by kernel_rfl)) hS ?rz3
          simp only [Act.put, List.setIfInBounds_toArray, List.set_cons_zero, List.set_cons_succ]
          refine wpAnyZ_take' (i := 4) (v := ?vz4) rfl (by kernel_rfl) (by kernel_rfl) (by kernel_rfl) (fun _ _ _ h => h) (Or.inl ⟨by rfl, ?yz4⟩) ?rz4
          case yz4 => (intro w _; go_simp; first | done | with_reducible rfl)
          simp only [Act.put, List.setIfInBounds_toArray, List.set_cons_zero, List.set_cons_succ]
          refine wpAnyZ_take' (i := 5) (v := ?vz5) rfl (by kernel_rfl) (by kernel_rfl) (by kernel_rfl) (fun _ _ _ h => h) (Or.inl ⟨by rfl, ?yz5⟩) ?rz5
          case yz5 => (intro w _; go_simp; first | done | with_reducible rfl)
          simp only [Act.put, List.setIfInBounds_toArray, List.set_cons_zero, List.set_cons_succ]
          refine wpAnyZ_take' (i := 6) (v := ?vz6) rfl (by kernel_rfl) (by kernel_rfl) (by kernel_rfl) (fun _ _ _ h => h) (Or.inl ⟨by rfl, ?yz6⟩) ?rz6
          case yz6 => (intro w _; go_simp; first | done | with_reducible rfl)
          simp only [Act.put, List.setIfInBounds_toArray, List.set_cons_zero, List.set_cons_succ]
          refine wpAnyZ_load' (i := 7) (y := 8) (v := .agg [.int .i64 n0, .int .i64 n1, .int .i64 n2, .slice a3' d3.length p3'].toArray) rfl (by kernel_rfl) (by kernel_rfl) (by kernel_rfl) (fun _ _ _ h => h) (fun j hj => .inl (by obtain rfl : j = 8 := (by simpa using hj); kernel_rfl)) rfl (by kernel_rfl) (yieldsIf_load_mid (by rfl) _ _ rfl _ _ rfl _ _ (fun W hW => hW.2) Tryd.underlying97 rfl (by kernel_rfl)) hS ?rz7
          simp only [Act.put, List.setIfInBounds_toArray, List.set_cons_zero, List.set_cons_succ]
          refine wpAnyZ_one' (i := 8) (by kernel_rfl) rfl (fun K hK => ?_)
          go_simp
          go_at_call 71
          refine (HE.out wr.drew ⟨rfl, rfl, rfl, rfl⟩).mono ?_
          rintro e w1 ⟨rfl, hG1⟩
          have HG2 : Hid (wr.grownBy w1 none) := grownBy_trans (grownBy_drew (grownBy_refl wr none)) hG1
          clear hG1
          go_wp2_with fail
          refine hK.out _ _ (fun h => by cases h) ?_
          clear hK K
          try simp only [Act.put, List.setIfInBounds_toArray, List.set_cons_zero, List.set_cons_succ]
          refine wpAnyZ_one' (i := 9) (by kernel_rfl) rfl (fun K hK => ?_)
          go_simp
          refine hK.out _ _ (fun _ h => h) ?_
          clear hK K
          try simp only [Act.put, List.setIfInBounds_toArray, List.set_cons_zero, List.set_cons_succ]
          refine wpAnyZ_done (by kernel_rfl) ?_ _
          go_wp2_with fail
          go_meet
          case rel => exact ⟨rfl, HG2.out⟩
      case rest =>
        obtain ⟨rfl, hG1⟩ := hcut
        have HG2 : Hid (w.grownBy wc none) := grownBy_trans HG.out hG1
        clear hG1
        go_wp2
        go_roundw
        case rel => exact ⟨k + 1, by omega, by go_num, HG2.out⟩
        case measure => simp [intOf]; omega
    · obtain rfl : k = n := by omega
      go_wp2
      go_ret
      exact ⟨rfl, HG.out⟩
set_option maxRecDepth 4000 in
set_option maxHeartbeats 4000000 in
theorem eqService_same (n0 : Int) (L1 : List (List Tr)) (a1 : Option Addr) (p1 : Nat) (L1' : List (List Tr)) (a1' : Option Addr) (p1' : Nat) (L2 : List (List Tr)) (a2 : Option Addr) (p2 : Nat) (L2' : List (List Tr)) (a2' : Option Addr) (p2' : Nat) (w : World) (h1 : RowOk w kItem a1 L1) (h2 : RowOk w kSession a2 L2) (h1' : RowOk w kItem a1' L1') (h2' : RowOk w kSession a2' L2') (e1 : tellR L1 = tellR L1') (s1 : SmR L1) (e2 : tellR L2 = tellR L2') (s2 : SmR L2) :
    Calls Tryd.prog 44 #[.agg #[.int .i64 n0, .slice a1 L1.length p1, .slice a2 L2.length p2], .agg #[.int .i64 n0, .slice a1' L1'.length p1', .slice a2' L2'.length p2']] w fun e w' => e = .returned (.bool true) ∧ w.grownBy w' none := by
  have C0 : Hid (∀ Y : World, w.grownBy Y none → Calls Tryd.prog 59 #[.slice a1 L1.length p1, .slice a1' L1'.length p1'] Y fun e w' => e = .returned (.bool true) ∧ Y.grownBy w' none) := fun Y hY => eqItemS_same L1 a1 p1 L1' a1' p1' Y (h1.grown0 hY) (h1'.grown0 hY) e1 s1
  have C1 : Hid (∀ Y : World, w.grownBy Y none → Calls Tryd.prog 60 #[.slice a2 L2.length p2, .slice a2' L2'.length p2'] Y fun e w' => e = .returned (.bool true) ∧ Y.grownBy w' none) := fun Y hY => eqSessionS_same L2 a2 p2 L2' a2' p2' Y (h2.grown0 hY) (h2'.grown0 hY) e2 s2
  have HW : Hid (∀ Y : World, ((w.alloc (.cells #[.int .i64 n0, .slice a1 L1.length p1, .slice a2 L2.length p2] 44)).alloc (.cells #[.int .i64 n0, .slice a1' L1'.length p1', .slice a2' L2'.length p2'] 44)).grownBy Y none → Y.cell? ⟨w.heap.size, 0, none⟩ = some (.int .i64 n0) ∧ Y.cell? ⟨w.heap.size, 1, none⟩ = some (.slice a1 L1.length p1) ∧ Y.cell? ⟨w.heap.size, 2, none⟩ = some (.slice a2 L2.length p2) ∧ Y.cell? ⟨w.heap.size + 1, 0, none⟩ = some (.int .i64 n0) ∧ Y.cell? ⟨w.heap.size + 1, 1, none⟩ = some (.slice a1' L1'.length p1') ∧ Y.cell? ⟨w.heap.size + 1, 2, none⟩ = some (.slice a2' L2'.length p2')) := fun Y hY => by
    have x0 : Y.heap[w.heap.size]? = some (.cells #[.int .i64 n0, .slice a1 L1.length p1, .slice a2 L2.length p2] 44 (0, 0)) := (hY.block _ (by simp; omega) (by simp)).trans ((Below.heap_alloc _ _ _ (by simp)).trans (heap_alloc_new w _))
    have x1 : Y.heap[w.heap.size + 1]? = some (.cells #[.int .i64 n0, .slice a1' L1'.length p1', .slice a2' L2'.length p2'] 44 (0, 0)) := (hY.block _ (by simp) (by simp)).trans (heap_two w _ _)
    simp [World.cell?, x0, x1]
  have HG : Hid (w.grownBy ((w.alloc (.cells #[.int .i64 n0, .slice a1 L1.length p1, .slice a2 L2.length p2] 44)).alloc (.cells #[.int .i64 n0, .slice a1' L1'.length p1', .slice a2' L2'.length p2'] 44)) none) := grownBy_alloc (World.grownBy_alloc _ _ _) _
  clear h1 h1' e1 s1 h2 h2' e2 s2
  go_enter Tryd.func44, Tryd.ntmps44
  go_wp2_with fail
  refine (C0.out _ HG.out).mono ?_
  rintro e w1 ⟨rfl, hG1⟩
  have HY : Hid (((w.alloc (.cells #[.int .i64 n0, .slice a1 L1.length p1, .slice a2 L2.length p2] 44)).alloc (.cells #[.int .i64 n0, .slice a1' L1'.length p1', .slice a2' L2'.length p2'] 44)).grownBy w1 none) := hG1
  clear hG1
  have hC := HW.out w1 HY.out
  go_wp2_with fail
  refine (C1.out _ (grownBy_trans HG.out HY.out)).mono ?_
  rintro e w2 ⟨rfl, hG2⟩
  have HY : Hid (((w.alloc (.cells #[.int .i64 n0, .slice a1 L1.length p1, .slice a2 L2.length p2] 44)).alloc (.cells #[.int .i64 n0, .slice a1' L1'.length p1', .slice a2' L2'.length p2'] 44)).grownBy w2 none) := grownBy_trans HY.out hG2
  clear hG2 hC
  have hC := HW.out w2 HY.out
  go_wp2
  go_ret
  exact ⟨rfl, grownBy_trans HG.out HY.out⟩
set_option maxRecDepth 4000 in
set_option maxHeartbeats 4000000 in
theorem eqView_same (n0 : Int) (n1 : Int) (n2 : Int) (n3 : Int) (n4 : Int) (n5 : Int) (n6 : Int) (n7 : Int) (w : World)  :
    Calls Tryd.prog 47 #[.agg #[.int .i64 n0, .int .i64 n1, .int .i64 n2, .int .i64 n3, .int .i64 n4, .int .i64 n5, .int .i64 n6, .int .i64 n7], .agg #[.int .i64 n0, .int .i64 n1, .int .i64 n2, .int .i64 n3, .int .i64 n4, .int .i64 n5, .int .i64 n6, .int .i64 n7]] w fun e w' => e = .returned (.bool true) ∧ w.grownBy w' none := by
  go_enter Tryd.func47, Tryd.ntmps47
  go_wp2
  go_ret
  exact ⟨rfl, grownBy_alloc (World.grownBy_alloc _ _ _) _⟩
end Go.Proofs.YtkjjglnbbahbkaaDoor
