/-
  The laws' eq.. over the types of a report, walked.
-/
import Derived.Test.YtkjjglnbbahbkaaDoorEqT2
import Derived.Test.YtkjjglnbbahbkaaDoorBytes
import Derived.Test.YtkjjglnbbahbkaaDoorTreeL
import Derived.Test.YtkjjglnbbahbkaaDoorRegZ
import Derived.Deep.DeepCutAuto
namespace Go.Proofs.YtkjjglnbbahbkaaDoor
open Go.RowKit

set_option maxRecDepth 4000 in
set_option maxHeartbeats 4000000 in
theorem eqObsS_same (L : List (List Tr)) (a : Option Addr) (p : Nat) (L' : List (List Tr)) (a' : Option Addr) (p' : Nat) (w : World) (h : RowOk w kObs a L) (h' : RowOk w kObs a' L') (e : tellR L = tellR L') (s : SmR L) :
    Calls Tryd.prog 20 #[.slice a L.length p, .slice a' L'.length p'] w fun e w' => e = .returned (.bool true) ∧ w.grownBy w' none := by
  have hll : L'.length = L.length := by have := congrArg List.length e; simpa using this.symm
  rw [hll]
  have HR : Hid (RowOk w kObs a L ∧ RowOk w kObs a' L' ∧ tellR L = tellR L' ∧ SmR L) := ⟨h, h', e, s⟩
  have hlen := s.1
  clear h h' e s
  obtain ⟨n, hn⟩ : ∃ n, L.length = n := ⟨_, rfl⟩
  have HN : Hid (L.length = n ∧ L'.length = n) := ⟨hn, by omega⟩
  rw [hn] at hlen ⊢
  clear hll hn
  go_enter Tryd.func20, Tryd.ntmps20
  go_wp2
  go_loopw [5] (fun i wr => ∃ k : Nat, k ≤ n ∧ i = .int .i64 (k : Int) ∧ w.grownBy wr none) (fun i _ => n - (intOf i).toNat)
  case atStart => exact ⟨0, Nat.zero_le _, rfl, grownBy_refl _ _⟩
  case round =>
    obtain ⟨k, hk, rfl, hG⟩ := hrel
    have HG : Hid (w.grownBy wr none) := hG
    clear hG
    by_cases hlt : k < n
    · obtain ⟨e, he⟩ : ∃ e, L[k]? = some e := ⟨_, List.getElem?_eq_getElem (by rw [HN.out.1]; exact hlt)⟩
      obtain ⟨e', he'⟩ : ∃ e, L'[k]? = some e := ⟨_, List.getElem?_eq_getElem (by rw [HN.out.2]; exact hlt)⟩
      have htl := tellR_get HR.out.2.2.1 he he'
      obtain ⟨hf, hrd, b, off, hab, hc⟩ := HR.out.1.grown0 HG.out k e he
      obtain ⟨hf', hrd', b', off', hab', hc'⟩ := HR.out.2.1.grown0 HG.out k e' he'
      have hsm := fun j y hj => HR.out.2.2.2.2 k j e y he hj
      obtain ⟨n0, n1, n2, n3, d4, a4, p4, n5, L6, a6, p6, L7, a7, p7, L8, a8, p8, L9, a9, p9, n10, n11, n12, n13, n14, n15, n16, n17, rfl⟩ := fitObs hf
      obtain ⟨n0', n1', n2', n3', d4', a4', p4', n5', L6', a6', p6', L7', a7', p7', L8', a8', p8', L9', a9', p9', n10', n11', n12', n13', n14', n15', n16', n17', rfl⟩ := fitObs hf'
      simp only [List.map_cons, List.map_nil, List.cons.injEq, and_true, Td.int.injEq, Td.byt.injEq, Td.row.injEq] at htl
      obtain ⟨rfl, rfl, rfl, rfl, rfl, rfl, e6, e7, e8, e9, rfl, rfl, rfl, rfl, rfl, rfl, rfl, rfl⟩ := htl
      subst hab hab'
      have HE : Hid (∀ w' : World, SameT wr w' → Calls Tryd.prog 27 #[.agg #[.int .i64 n0, .int .i64 n1, .int .i64 n2, .int .i64 n3, .slice a4 d4.length p4, .int .i64 n5, .slice a6 L6.length p6, .slice a7 L7.length p7, .slice a8 L8.length p8, .slice a9 L9.length p9, .int .i64 n10, .int .i64 n11, .int .i64 n12, .int .i64 n13, .int .i64 n14, .int .i64 n15, .int .i64 n16, .int .i64 n17], .agg #[.int .i64 n0, .int .i64 n1, .int .i64 n2, .int .i64 n3, .slice a4' d4.length p4', .int .i64 n5, .slice a6' L6'.length p6', .slice a7' L7'.length p7', .slice a8' L8'.length p8', .slice a9' L9'.length p9', .int .i64 n10, .int .i64 n11, .int .i64 n12, .int .i64 n13, .int .i64 n14, .int .i64 n15, .int .i64 n16, .int .i64 n17]] w' fun e w1 => e = .returned (.bool true) ∧ w'.grownBy w1 none) := fun w' hs => by
        have hh : w'.heap = wr.heap := hs.1
        have hhG : wr.grownBy w' none := hs.grown
        exact eqObs_same n0 n1 n2 n3 d4 a4 p4 a4' p4' n5 L6 a6 p6 L6' a6' p6' L7 a7 p7 L7' a7' p7' L8 a8 p8 L8' a8' p8' L9 a9 p9 L9' a9' p9' n10 n11 n12 n13 n14 n15 n16 n17 w' ((hrd (.byt d4 a4 p4) (by simp)).isByt.heap hh) (((hrd (.row kItem.length a6 p6 L6) (by simp)).rowOk ((hf.2 6 _ _ rfl rfl)) (by decide)).grown0 hhG) (((hrd (.row kSession.length a7 p7 L7) (by simp)).rowOk ((hf.2 7 _ _ rfl rfl)) (by decide)).grown0 hhG) (((hrd (.row kAck.length a8 p8 L8) (by simp)).rowOk ((hf.2 8 _ _ rfl rfl)) (by decide)).grown0 hhG) (((hrd (.row kMessage.length a9 p9 L9) (by simp)).rowOk ((hf.2 9 _ _ rfl rfl)) (by decide)).grown0 hhG) ((hrd' (.byt d4 a4' p4') (by simp)).isByt.heap hh) (((hrd' (.row kItem.length a6' p6' L6') (by simp)).rowOk ((hf'.2 6 _ _ rfl rfl)) (by decide)).grown0 hhG) (((hrd' (.row kSession.length a7' p7' L7') (by simp)).rowOk ((hf'.2 7 _ _ rfl rfl)) (by decide)).grown0 hhG) (((hrd' (.row kAck.length a8' p8' L8') (by simp)).rowOk ((hf'.2 8 _ _ rfl rfl)) (by decide)).grown0 hhG) (((hrd' (.row kMessage.length a9' p9' L9') (by simp)).rowOk ((hf'.2 9 _ _ rfl rfl)) (by decide)).grown0 hhG) (hsm 4 _ rfl).isByt e6 (hsm 6 _ rfl).isRow e7 (hsm 7 _ rfl).isRow e8 (hsm 8 _ rfl).isRow e9 (hsm 9 _ rfl).isRow
      have hkI : (k : Int) < (n : Int) := by omega
      have hS : wr.drew.rangeAt b (off + k * 18) [.int .i64 n0, .int .i64 n1, .int .i64 n2, .int .i64 n3, .slice a4 d4.length p4, .int .i64 n5, .slice a6 L6.length p6, .slice a7 L7.length p7, .slice a8 L8.length p8, .slice a9 L9.length p9, .int .i64 n10, .int .i64 n11, .int .i64 n12, .int .i64 n13, .int .i64 n14, .int .i64 n15, .int .i64 n16, .int .i64 n17] ∧ wr.drew.rangeAt b' (off' + k * 18) [.int .i64 n0, .int .i64 n1, .int .i64 n2, .int .i64 n3, .slice a4' d4.length p4', .int .i64 n5, .slice a6' L6'.length p6', .slice a7' L7'.length p7', .slice a8' L8'.length p8', .slice a9' L9'.length p9', .int .i64 n10, .int .i64 n11, .int .i64 n12, .int .i64 n13, .int .i64 n14, .int .i64 n15, .int .i64 n16, .int .i64 n17] := ⟨range_el hc, range_el hc'⟩
      clear hc hc' hrd hrd' hsm hf hf' he he'
      go_wp2
      go_cut [26] (fun v wx => v = .bool false ∧ wr.grownBy wx none)
      case first =>
        as_aux_lemma =>
          refine wp_region_Z (fun W => W.rangeAt b (off + k * 18) [.int .i64 n0, .int .i64 n1, .int .i64 n2, .int .i64 n3, .slice a4 d4.length p4, .int .i64 n5, .slice a6 L6.length p6, .slice a7 L7.length p7, .slice a8 L8.length p8, .slice a9 L9.length p9, .int .i64 n10, .int .i64 n11, .int .i64 n12, .int .i64 n13, .int .i64 n14, .int .i64 n15, .int .i64 n16, .int .i64 n17] ∧ W.rangeAt b' (off' + k * 18) [.int .i64 n0, .int .i64 n1, .int .i64 n2, .int .i64 n3, .slice a4' d4.length p4', .int .i64 n5, .slice a6' L6'.length p6', .slice a7' L7'.length p7', .slice a8' L8'.length p8', .slice a9' L9'.length p9', .int .i64 n10, .int .i64 n11, .int .i64 n12, .int .i64 n13, .int .i64 n14, .int .i64 n15, .int .i64 n16, .int .i64 n17]) (fun j => j == 8) (by kernel_rfl) ?_
          refine wpAnyZ_take' (i := 0) (v := ?vz0) rfl (by kernel_rfl) (by kernel_rfl) (by kernel_rfl) (fun _ _ _ h => h) (Or.inl ⟨by rfl, ?yz0⟩) ?rz0
          case yz0 => (intro w _; go_simp; first | done | with_reducible rfl)
          simp only [Act.put, List.setIfInBounds_toArray, List.set_cons_zero, List.set_cons_succ]
          refine wpAnyZ_take' (i := 1) (v := ?vz1) rfl (by kernel_rfl) (by kernel_rfl) (by kernel_rfl) (fun _ _ _ h => h) (Or.inl ⟨by rfl, ?yz1⟩) ?rz1
          case yz1 => (intro w _; go_simp; first | done | with_reducible rfl)
          simp only [Act.put, List.setIfInBounds_toArray, List.set_cons_zero, List.set_cons_succ]
          refine wpAnyZ_take' (i := 2) (v := ?vz2) rfl (by kernel_rfl) (by kernel_rfl) (by kernel_rfl) (fun _ _ _ h => h) (Or.inl ⟨by rfl, ?yz2⟩) ?rz2
          case yz2 => (intro w _; go_simp; first | done | with_reducible rfl)
          simp only [Act.put, List.setIfInBounds_toArray, List.set_cons_zero, List.set_cons_succ]
          refine wpAnyZ_load' (i := 3) (y := 8) (v := .agg [.int .i64 n0, .int .i64 n1, .int .i64 n2, .int .i64 n3, .slice a4 d4.length p4, .int .i64 n5, .slice a6 L6.length p6, .slice a7 L7.length p7, .slice a8 L8.length p8, .slice a9 L9.length p9, .int .i64 n10, .int .i64 n11, .int .i64 n12, .int .i64 n13, .int .i64 n14, .int .i64 n15, .int .i64 n16, .int .i64 n17].toArray) rfl (by kernel_rfl) (by kernel_rfl) (by kernel_rfl) (fun _ _ _ h => h) (fun j hj => .inl (by obtain rfl : j = 8 := (by simpa using hj); kernel_rfl)) rfl (by kernel_rfl) (yieldsIf_load_mid (by rfl) _ _ rfl _ _ rfl _ _ (fun W hW => hW.1) Tryd.underlying50 rfl (by kernel_rfl)) hS ?rz3
          simp only [Act.put, List.setIfInBounds_toArray, List.set_cons_zero, List.set_cons_succ]
          refine wpAnyZ_take' (i := 4) (v := ?vz4) rfl (by kernel_rfl) (by kernel_rfl) (by kernel_rfl) (fun _ _ _ h => h) (Or.inl ⟨by rfl, ?yz4⟩) ?rz4
          case yz4 => (intro w _; go_simp; first | done | with_reducible rfl)
          simp only [Act.put, List.setIfInBounds_toArray, List.set_cons_zero, List.set_cons_succ]
          refine wpAnyZ_take' (i := 5) (v := ?vz5) rfl (by kernel_rfl) (by kernel_rfl) (by kernel_rfl) (fun _ _ _ h => h) (Or.inl ⟨by rfl, ?yz5⟩) ?rz5
          case yz5 => (intro w _; go_simp; first | done | with_reducible rfl)
          simp only [Act.put, List.setIfInBounds_toArray, List.set_cons_zero, List.set_cons_succ]
          refine wpAnyZ_take' (i := 6) (v := ?vz6) rfl (by kernel_rfl) (by kernel_rfl) (by kernel_rfl) (fun _ _ _ h => h) (Or.inl ⟨by rfl, ?yz6⟩) ?rz6
          case yz6 => (intro w _; go_simp; first | done | with_reducible rfl)
          simp only [Act.put, List.setIfInBounds_toArray, List.set_cons_zero, List.set_cons_succ]
          refine wpAnyZ_load' (i := 7) (y := 8) (v := .agg [.int .i64 n0, .int .i64 n1, .int .i64 n2, .int .i64 n3, .slice a4' d4.length p4', .int .i64 n5, .slice a6' L6'.length p6', .slice a7' L7'.length p7', .slice a8' L8'.length p8', .slice a9' L9'.length p9', .int .i64 n10, .int .i64 n11, .int .i64 n12, .int .i64 n13, .int .i64 n14, .int .i64 n15, .int .i64 n16, .int .i64 n17].toArray) rfl (by kernel_rfl) (by kernel_rfl) (by kernel_rfl) (fun _ _ _ h => h) (fun j hj => .inl (by obtain rfl : j = 8 := (by simpa using hj); kernel_rfl)) rfl (by kernel_rfl) (yieldsIf_load_mid (by rfl) _ _ rfl _ _ rfl _ _ (fun W hW => hW.2) Tryd.underlying50 rfl (by kernel_rfl)) hS ?rz7
          simp only [Act.put, List.setIfInBounds_toArray, List.set_cons_zero, List.set_cons_succ]
          refine wpAnyZ_one' (i := 8) (by kernel_rfl) rfl (fun K hK => ?_)
          go_simp
          go_at_call 27
          refine (HE.out wr.drew ⟨rfl, rfl, rfl, rfl⟩).mono ?_
          rintro e w1 ⟨rfl, hG1⟩
          have HG2 : Hid (wr.grownBy w1 none) := grownBy_trans (grownBy_drew (grownBy_refl wr none)) hG1
          clear hG1
          go_wp2_with fail
          refine hK.out _ _ (fun h => by cases h) ?_
          clear hK K
          try simp only [Act.put, List.setIfInBounds_toArray, List.set_cons_zero, List.set_cons_succ]
          refine wpAnyZ_one' (i := 9) (by kernel_rfl) rfl (fun K hK => ?_)
          go_simp
          refine hK.out _ _ (fun _ h => h) ?_
          clear hK K
          try simp only [Act.put, List.setIfInBounds_toArray, List.set_cons_zero, List.set_cons_succ]
          refine wpAnyZ_done (by kernel_rfl) ?_ _
          go_wp2_with fail
          go_meet
          case rel => exact ⟨rfl, HG2.out⟩
      case rest =>
        obtain ⟨rfl, hG1⟩ := hcut
        have HG2 : Hid (w.grownBy wc none) := grownBy_trans HG.out hG1
        clear hG1
        go_wp2
        go_roundw
        case rel => exact ⟨k + 1, by omega, by go_num, HG2.out⟩
        case measure => simp [intOf]; omega
    · obtain rfl : k = n := by omega
      go_wp2
      go_ret
      exact ⟨rfl, HG.out⟩
set_option maxRecDepth 4000 in
set_option maxHeartbeats 4000000 in
theorem eqReport_same (n0 : Int) (L1 : List (List Tr)) (a1 : Option Addr) (p1 : Nat) (L1' : List (List Tr)) (a1' : Option Addr) (p1' : Nat) (w : World) (h1 : RowOk w kObs a1 L1) (h1' : RowOk w kObs a1' L1') (e1 : tellR L1 = tellR L1') (s1 : SmR L1) :
    Calls Tryd.prog 9 #[.agg #[.int .i64 n0, .slice a1 L1.length p1], .agg #[.int .i64 n0, .slice a1' L1'.length p1']] w fun e w' => e = .returned (.bool true) ∧ w.grownBy w' none := by
  have C0 : Hid (∀ Y : World, w.grownBy Y none → Calls Tryd.prog 20 #[.slice a1 L1.length p1, .slice a1' L1'.length p1'] Y fun e w' => e = .returned (.bool true) ∧ Y.grownBy w' none) := fun Y hY => eqObsS_same L1 a1 p1 L1' a1' p1' Y (h1.grown0 hY) (h1'.grown0 hY) e1 s1
  have HW : Hid (∀ Y : World, ((w.alloc (.cells #[.int .i64 n0, .slice a1 L1.length p1] 30)).alloc (.cells #[.int .i64 n0, .slice a1' L1'.length p1'] 30)).grownBy Y none → Y.cell? ⟨w.heap.size, 0, none⟩ = some (.int .i64 n0) ∧ Y.cell? ⟨w.heap.size, 1, none⟩ = some (.slice a1 L1.length p1) ∧ Y.cell? ⟨w.heap.size + 1, 0, none⟩ = some (.int .i64 n0) ∧ Y.cell? ⟨w.heap.size + 1, 1, none⟩ = some (.slice a1' L1'.length p1')) := fun Y hY => by
    have x0 : Y.heap[w.heap.size]? = some (.cells #[.int .i64 n0, .slice a1 L1.length p1] 30 (0, 0)) := (hY.block _ (by simp; omega) (by simp)).trans ((Below.heap_alloc _ _ _ (by simp)).trans (heap_alloc_new w _))
    have x1 : Y.heap[w.heap.size + 1]? = some (.cells #[.int .i64 n0, .slice a1' L1'.length p1'] 30 (0, 0)) := (hY.block _ (by simp) (by simp)).trans (heap_two w _ _)
    simp [World.cell?, x0, x1]
  have HG : Hid (w.grownBy ((w.alloc (.cells #[.int .i64 n0, .slice a1 L1.length p1] 30)).alloc (.cells #[.int .i64 n0, .slice a1' L1'.length p1'] 30)) none) := grownBy_alloc (World.grownBy_alloc _ _ _) _
  clear h1 h1' e1 s1
  go_enter Tryd.func9, Tryd.ntmps9
  go_wp2_with fail
  refine (C0.out _ HG.out).mono ?_
  rintro e w1 ⟨rfl, hG1⟩
  have HY : Hid (((w.alloc (.cells #[.int .i64 n0, .slice a1 L1.length p1] 30)).alloc (.cells #[.int .i64 n0, .slice a1' L1'.length p1'] 30)).grownBy w1 none) := hG1
  clear hG1
  have hC := HW.out w1 HY.out
  go_wp2
  go_ret
  exact ⟨rfl, grownBy_trans HG.out HY.out⟩
end Go.Proofs.YtkjjglnbbahbkaaDoor
