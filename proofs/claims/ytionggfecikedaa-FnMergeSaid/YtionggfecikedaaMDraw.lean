/-
  Draws that FnMerge takes: One, Wild, l5Terms, walked.
-/
import Derived.Test.YtionggfecikedaaIntS
import Derived.Test.YtionggfecikedaaAppI
import Derived.Test.YtionggfecikedaaDrawS
namespace Go.Proofs.Ytionggfecikedaa
open Go.RowKit

theorem intT : ∃ i, IntT Try.prog 23 3 i := by
  obtain ⟨i0, hi, hz0, hz1, hz2⟩ := info_parts Try.infoInt
  exact ⟨i0, Try.underlying23, hi, hz0, hz1, hz2⟩
def small (z : Int) : Prop := 0 ≤ z ∧ z ≤ 1000
theorem small.ok {z : Int} (h : small z) : i64Ok z := ⟨by have := h.1; omega, by have := h.2; omega⟩
theorem one_slI (w : World) (x : Int) (hx : i64Ok x) (e : TypeId) : SlI (w.alloc (.cells #[.int .i64 x] e)) (some ⟨w.heap.size, 0, none⟩) 1 [x] := by
  refine ⟨rfl, by simpa using hx, fun _ => ⟨w.heap.size, 0, rfl, fun i hi => ?_⟩⟩
  obtain rfl : i = 0 := by omega
  simp
set_option maxHeartbeats 400000 in
theorem one_any (s : Nat) (k : Int) (zs : List Nat) (w : World) (hs : Src w s zs) (hk : k < 9223372036854775808) (hk0 : -9223372036854775808 ≤ k) :
    Calls Try.prog 71 #[.pointer (some ⟨s, 0, none⟩), .int .i64 k] w fun e w' => ∃ b, e = .returned (.bool b) ∧ Src w' s zs ∧ w.grownBy w' (some s) := by
  have HN : Hid (Calls _ _ _ _ _) := drawN_any s k zs w hs hk hk0
  clear hs
  go_enter Try.func71, Try.ntmps71
  go_wp2_with fail
  refine HN.out.mono ?_
  clear HN
  rintro e w1 ⟨r, rfl, -, -, h1, h2⟩
  have R : Hid (_ ∧ _) := ⟨h1, h2⟩
  clear h1 h2
  go_wp2
  go_ret
  exact ⟨_, rfl, R.out.1, R.out.2⟩
set_option maxHeartbeats 1000000 in
theorem wild_any (s : Nat) (zs : List Nat) (w : World) (hs : Src w s zs) :
    Calls Try.prog 72 #[.pointer (some ⟨s, 0, none⟩)] w fun e w' => ∃ z, e = .returned (.int .i64 z) ∧ i64Ok z ∧ Src w' s zs ∧ w.grownBy w' (some s) := by
  have HN : Hid (Calls _ _ _ _ _) := drawN_any s 6 zs w hs (by decide) (by decide)
  clear hs
  go_enter Try.func72, Try.ntmps72
  go_wp2_with fail
  refine HN.out.mono ?_
  clear HN
  rintro e w1 ⟨r, rfl, -, hr, h1, h2⟩
  have hr6 : r < 6 := by have := hr (by decide); omega
  have R : Hid (Src w1 s zs ∧ w.grownBy w1 (some s)) := ⟨h1, h2⟩
  have HM : Hid (∀ k : Int, k < 9223372036854775808 → -9223372036854775808 ≤ k → _) := fun k hk hk0 => drawN_any s k zs w1 h1 hk hk0
  clear h1 h2 hr
  rcases (show r = 0 ∨ r = 1 ∨ r = 2 ∨ r = 3 ∨ r = 4 ∨ r = 5 by omega) with rfl | rfl | rfl | rfl | rfl | rfl
  · go_wp2
    go_ret
    exact ⟨_, rfl, ⟨by decide, by decide⟩, R.out.1, R.out.2⟩
  · go_wp2
    go_ret
    exact ⟨_, rfl, ⟨by decide, by decide⟩, R.out.1, R.out.2⟩
  · go_wp2
    go_ret
    exact ⟨_, rfl, ⟨by decide, by decide⟩, R.out.1, R.out.2⟩
  · go_wp2_with fail
    refine (HM.out 100000 (by decide) (by decide)).mono ?_
    rintro e w2 ⟨q, rfl, -, hq, h1, h2⟩
    have hq2 := hq (by decide)
    have R2 : Hid (_ ∧ _) := ⟨h1, grownBy_trans R.out.2 h2⟩
    clear h1 h2 hq
    go_wp2
    go_ret
    exact ⟨_, rfl, ⟨by omega, by omega⟩, R2.out.1, R2.out.2⟩
  · go_wp2_with fail
    refine (HM.out 1000 (by decide) (by decide)).mono ?_
    rintro e w2 ⟨q, rfl, -, hq, h1, h2⟩
    have hq2 := hq (by decide)
    have R2 : Hid (_ ∧ _) := ⟨h1, grownBy_trans R.out.2 h2⟩
    clear h1 h2 hq
    go_wp2
    go_ret
    exact ⟨_, rfl, ⟨by omega, by omega⟩, R2.out.1, R2.out.2⟩
  · go_wp2_with fail
    refine (HM.out 20 (by decide) (by decide)).mono ?_
    rintro e w2 ⟨q, rfl, -, hq, h1, h2⟩
    have hq2 := hq (by decide)
    have R2 : Hid (_ ∧ _) := ⟨h1, grownBy_trans R.out.2 h2⟩
    clear h1 h2 hq
    go_wp2
    go_ret
    exact ⟨_, rfl, ⟨by omega, by omega⟩, R2.out.1, R2.out.2⟩

set_option maxHeartbeats 1000000 in
theorem l5Terms_any (s n : Nat) (zs : List Nat) (w : World) (hs : Src w s zs) (hn : n ≤ 100) :
    Calls Try.prog 69 #[.pointer (some ⟨s, 0, none⟩), .int .i64 (n : Int)] w fun e w' => ∃ v, ∃ ts : List Int, e = .returned v ∧ ts.length = n ∧ (∀ z ∈ ts, small z) ∧ w'.ownsRow w.heap.size 3 1 v n (ts.map iv) ∧ Src w' s zs ∧ w.grownBy w' (some s) := by
  obtain ⟨i0, TI⟩ := intT
  have HS : Hid (Src w s zs) := hs
  have hsl := hs.lt
  clear hs
  go_enter Try.func69, Try.ntmps69
  go_wp2_with fail
  have HG0 : Hid (w.grownBy (w.alloc (.cells #[] 3)) none) := World.grownBy_alloc _ _ _
  have HR0 : Hid ((w.alloc (.cells #[] 3)).ownsRow w.heap.size 3 1 (.slice (some ⟨w.heap.size, 0, none⟩) 0 0) 0 []) := World.ownsRow_made w #[] 0 (Nat.le_refl _) (Nat.zero_le _) rfl
  refine (drawN_any s 2 zs _ (HS.out.grown0 HG0.out) (by decide) (by decide)).mono ?_
  rintro e w1 ⟨r, rfl, -, hr, h1, h2⟩
  have hr2 := hr (by decide)
  have R1 : Hid (Src w1 s zs ∧ w.grownBy w1 (some s) ∧ w1.ownsRow w.heap.size 3 1 (.slice (some ⟨w.heap.size, 0, none⟩) 0 0) 0 []) := ⟨h1, grownBy_trans (grownBy_weak HG0.out) h2, HR0.out.kept h2 (.inr (by simp [Value.ownBlock]; omega))⟩
  clear h1 h2 hr HG0 HR0
  go_wp2
  go_loopw [5, 6, 7] (fun o t i wr => ∃ (k : Nat) (ts : List Int) (tt : Nat), k ≤ n ∧ ts.length = k ∧ tt ≤ 1 + k ∧ i = .int .i64 (k : Int) ∧ t = .int .i64 (tt : Int) ∧ (∀ z ∈ ts, small z) ∧ wr.ownsRow w.heap.size 3 1 o k (ts.map iv) ∧ Src wr s zs ∧ w.grownBy wr (some s)) (fun _ _ i _ => n - (intOf i).toNat)
  case atStart => exact ⟨0, [], r, Nat.zero_le _, rfl, by omega, rfl, rfl, by simp, R1.out.2.2, R1.out.1, R1.out.2.1⟩
  case round =>
    obtain ⟨k, ts, tt, hk, htl, htt, rfl, rfl, hsm, hown, hS, hG⟩ := hrel
    by_cases hlt : k < n
    · have H0 : Hid (_ ∧ _ ∧ _ ∧ _) := And.intro hsm (And.intro hown (And.intro hS hG))
      clear hsm hown hS hG
      go_wp2_with fail
      refine (drawN_any s 5 zs _ H0.out.2.2.1 (by decide) (by decide)).mono ?_
      rintro e w2 ⟨q, rfl, -, hq, h1, h2⟩
      have hq5 : q < 5 := by have := hq (by decide); omega
      have H2 : Hid (w2.ownsRow w.heap.size 3 1 _ k (ts.map iv) ∧ Src w2 s zs ∧ w.grownBy w2 (some s)) := ⟨H0.out.2.1.kept h2 (by
        cases hob : Value.ownBlock _ with
        | none => exact .inl rfl
        | some g => right; have := (H0.out.2.1.lt g hob).1; simp; omega), h1, grownBy_trans H0.out.2.2.2 h2⟩
      clear h1 h2 hq
      have hz2 := H2.out.2.2.size
      obtain ⟨d, hd⟩ : ∃ d : Nat, q / 4 = d := ⟨_, rfl⟩
      have hd1 : d ≤ 1 := by omega
      have e1 : (q : Int) / 4 = (d : Int) := by omega
      have e2 : (q : Int).tdiv 4 = (d : Int) := by rw [Int.tdiv_eq_ediv_of_nonneg (by omega)]; exact e1
      have HSM : Hid (∀ z ∈ ts ++ [(tt : Int) + d], small z) := by
        intro z hz
        rcases List.mem_append.1 hz with h | h
        · exact H0.out.1 z h
        · simp at h; subst h; exact ⟨by omega, by omega⟩
      clear hd
      go_wp2_with (at_builtin; refine wpList_append_i (by rfl) (.tmp 21) (.tmp 23) TI (by rfl) (base := w.heap.size) (n := k) (xs := ts) (by rfl) (by exact H2.out.1.alloc _) (oa := some ⟨w2.heap.size, 0, none⟩) (m := 1) (c := 1) (zs := [(tt : Int) + d]) (by rfl) (by exact one_slI w2 _ ⟨by omega, by omega⟩ _) (by omega) (by simp; omega) ?_)
      intro v' w4 hown' hgr hat hsz
      have R : Hid (w4.ownsRow w.heap.size 3 1 v' (k + 1) ((ts ++ [(tt : Int) + d]).map iv) ∧ Src w4 s zs ∧ w.grownBy w4 (some s)) := by
        have hA := World.grownBy_alloc w2 (.cells #[.int .i64 ((tt : Int) + d)] 3) none
        refine ⟨by rw [List.map_append]; exact hown'.out, (H2.out.2.1.grown0 hA).grown hgr.out (fun r hr => by have := (H2.out.1.lt r hr).1; omega), ?_⟩
        have h5 := grownBy_trans H2.out.2.2 (grownBy_weak hA)
        refine ⟨hgr.out.os.trans h5.os, hgr.out.tape.trans h5.tape, hgr.out.output.trans h5.output, Nat.le_trans h5.size hgr.out.size, fun j hj hne => ?_⟩
        refine (hgr.out.block j (Nat.lt_of_lt_of_le hj h5.size) (fun e => ?_)).trans (h5.block j hj hne)
        have := (H2.out.1.lt j e.symm).1
        omega
      clear hown' hgr hat hsz H0 H2
      go_wp2
      go_roundw
      case rel => exact ⟨k + 1, ts ++ [(tt : Int) + d], tt + d, by omega, by simp [htl], by omega, by go_num, by go_num, HSM.out, R.out.1, R.out.2.1, R.out.2.2⟩
      case measure => simp [intOf]; omega
    · obtain rfl : k = n := by omega
      have R : Hid (_ ∧ _ ∧ _ ∧ _) := And.intro hsm (And.intro hown (And.intro hS hG))
      clear hsm hown hS hG
      go_wp2
      go_ret
      exact ⟨_, ts, rfl, htl, R.out.1, R.out.2.1, R.out.2.2.1, R.out.2.2.2⟩
end Go.Proofs.Ytionggfecikedaa
