/-
  The source of draws, walked: L1Size, Bytes; the laws' cp.
-/
import Derived.Test.YtdajcpcajdhplaaDoorDrawS
import Derived.Test.YtdajcpcajdhplaaDoorSmall
namespace Go.Proofs.YtdajcpcajdhplaaDoor
open Go.RowKit

theorem one_sl (w : World) (r : Nat) (hr : r < 256) (e : TypeId) : SlB (w.alloc (.cells #[.int .u8 (r : Int)] e)) (some ⟨w.heap.size, 0, none⟩) 1 [r] := by
  refine ⟨rfl, by simpa using hr, fun _ => ⟨w.heap.size, 0, rfl, fun i hi => ?_⟩⟩
  obtain rfl : i = 0 := by omega
  simp
set_option maxHeartbeats 1000000 in
theorem drawBytes_any (s n : Nat) (zs : List Nat) (w : World) (hs : Src w s zs) (hn : n ≤ 1000000) :
    Calls Tryd.prog 26 #[.pointer (some ⟨s, 0, none⟩), .int .i64 (n : Int)] w fun e w' => ∃ (g cap : Nat) (xs : List Nat), e = .returned (.slice (some ⟨g, 0, none⟩) n cap) ∧ (∀ z ∈ xs, z < 256) ∧ w'.ownsRow w.heap.size 5 1 (.slice (some ⟨g, 0, none⟩) n cap) n (xs.map bv) ∧ Src w' s zs ∧ w.grownBy w' (some s) := by
  obtain ⟨i0, TB⟩ := byteT
  have HSw : Hid (s < w.heap.size) := hs.lt
  have HS0 : Hid (Src w s zs) := hs
  clear hs
  go_enter Tryd.func26, Tryd.ntmps26
  go_wp2
  go_loopw [5, 6] (fun o i wr => ∃ k : Nat, k ≤ n ∧ i = .int .i64 k ∧ (∃ (g cap : Nat) (xs : List Nat), o = .slice (some ⟨g, 0, none⟩) k cap ∧ (∀ z ∈ xs, z < 256) ∧ wr.ownsRow w.heap.size 5 1 (.slice (some ⟨g, 0, none⟩) k cap) k (xs.map bv)) ∧ Src wr s zs ∧ w.grownBy wr (some s)) (fun _ i _ => n - (intOf i).toNat)
  case atStart => exact ⟨0, Nat.zero_le _, rfl, ⟨w.heap.size, 0, [], rfl, by simp, World.ownsRow_made w #[] 0 (Nat.le_refl _) (Nat.zero_le _) rfl⟩, HS0.out.grown0 (World.grownBy_alloc _ _ _), World.grownBy_alloc _ _ _⟩
  case round =>
    obtain ⟨k, hk, rfl, ⟨g, cap, xs, rfl, hxs, hown⟩, hsrc, hG⟩ := hrel
    by_cases hlt : k < n
    · have HX : Hid (∀ z ∈ xs, z < 256) := hxs
      have HG : Hid (w.grownBy wr (some s)) := hG
      have hsz := hG.size
      have HR : Hid (w.heap.size ≤ g ∧ g < wr.heap.size) := hown.lt g rfl
      have HO : Hid (wr.ownsRow w.heap.size 5 1 (.slice (some ⟨g, 0, none⟩) k cap) k (xs.map bv)) := hown
      have HN : Hid (∀ k : Int, k < 9223372036854775808 → -9223372036854775808 ≤ k → _) := fun k h h' => drawN_any s k zs wr hsrc h h'
      clear hxs hG hown hsrc
      go_wp2_with fail
      refine (HN.out 256 (by decide) (by decide)).mono ?_
      rintro e w1 ⟨r, rfl, -, hr, hs1, hg1⟩
      have hr' : r < 256 := by have := hr (by decide); omega
      clear hr HN
      have hz1 := hg1.size
      have HO1 : Hid (w1.ownsRow w.heap.size 5 1 (.slice (some ⟨g, 0, none⟩) k cap) k (xs.map bv)) := World.ownsRow.kept HO.out hg1 (.inr <| by have := HR.out; have := HSw.out; simp only [Value.ownBlock, ne_eq, Option.some.injEq]; omega)
      have HS1 : Hid (Src w1 s zs) := hs1
      have HG1 : Hid (w.grownBy w1 (some s)) := grownBy_trans HG.out hg1
      clear hs1 hg1 HO HG
      go_wp2_with (at_builtin; refine wpList_append_b (by rfl) (.tmp 13) (.tmp 17) TB (by rfl) (base := w.heap.size) (g := g) (n := k) (cap := cap) (xs := xs) (by rfl) (by exact World.ownsRow.alloc HO1.out _) (oa := some ⟨w1.heap.size, 0, none⟩) (m := 1) (c := 1) (zs := [r]) (by rfl) (by exact one_sl w1 r hr' _) (by omega) (by simp; omega) ?_; intro g' cap' w2 hown' hgr hat hsz2)
      have R : Hid (w2.ownsRow w.heap.size 5 1 (.slice (some ⟨g', 0, none⟩) (k + 1) cap') (k + 1) ((xs ++ [r]).map bv) ∧ Src w2 s zs ∧ w.grownBy w2 (some s)) := by
        have hB := HR.out
        have hS := HSw.out
        refine ⟨hown'.out, (HS1.out.grown0 (World.grownBy_alloc _ _ _)).grown hgr.out (fun r' e => by cases e; omega), ?_⟩
        refine ⟨hgr.out.os.trans HG1.out.os, hgr.out.tape.trans HG1.out.tape, hgr.out.output.trans HG1.out.output, ?_, fun j hj hne => ?_⟩
        · have := hgr.out.size; have := HG1.out.size; simp at *; omega
        · have h1 := hgr.out.block j (by simp; omega) (by simp only [ne_eq, Option.some.injEq]; omega)
          rw [h1, (World.grownBy_alloc w1 _ none).block j (by omega) (by simp)]
          exact HG1.out.block j hj hne
      have HX2 : Hid (∀ z ∈ xs ++ [r], z < 256) := by
        intro z hz
        rcases List.mem_append.1 hz with h | h
        · exact HX.out z h
        · obtain rfl : z = r := by simpa using h
          exact hr'
      clear hown' hgr hat HO1 HS1 HG1 HX
      go_wp2
      go_roundw
      case rel => exact ⟨k + 1, by omega, by go_num, ⟨g', cap', xs ++ [r], rfl, HX2.out, R.out.1⟩, R.out.2.1, R.out.2.2⟩
      case measure => simp [intOf]; omega
    · obtain rfl : k = n := by omega
      have R : Hid (_ ∧ _ ∧ _ ∧ _) := ⟨hxs, hown, hsrc, hG⟩
      clear hxs hown hsrc hG
      go_wp2
      go_ret
      exact ⟨g, cap, xs, rfl, R.out⟩
set_option maxHeartbeats 1000000 in
/-- the laws' copy of bytes: new memory, never nil -/
theorem cp_any (oa : Option Addr) (len cap : Nat) (zs : List Nat) (w : World) (hsl : SlB w oa len zs) (hm : len ≤ 1073741824) :
    Calls Tryd.prog 10 #[.slice oa len cap] w fun e w' => ∃ g cp, e = .returned (.slice (some ⟨g, 0, none⟩) len cp) ∧ w'.ownsRow w.heap.size 5 1 (.slice (some ⟨g, 0, none⟩) len cp) len (zs.map bv) ∧ w.grownBy w' none := by
  obtain ⟨i0, TB⟩ := byteT
  have HS : Hid (SlB w oa len zs) := hsl
  clear hsl
  go_enter Tryd.func10, Tryd.ntmps10
  go_wp2_with (at_builtin; refine wpList_append_b (by rfl) (.tmp 3) (.tmp 4) TB (by rfl) (base := w.heap.size) (g := w.heap.size) (n := 0) (cap := 0) (xs := []) (by rfl) (by exact World.ownsRow_made w #[] 0 (Nat.le_refl _) (Nat.zero_le _) rfl) (oa := oa) (m := len) (c := cap) (zs := zs) (by rfl) (by exact HS.out.grown0 (World.grownBy_alloc _ _ _)) (by omega) (by simp) ?_; intro g' cap' w1 hown' hgr hat hsz1)
  go_ret
  have C1 : w.grownBy w1 none := grown_next hgr.out (World.grownBy_alloc w _ _) ⟨rfl, rfl, rfl, rfl⟩ (Nat.le_refl _)
  have h1 := hown'.out
  rw [Nat.zero_add, List.nil_append] at h1
  exact ⟨g', cap', rfl, h1, C1⟩
end Go.Proofs.YtdajcpcajdhplaaDoor
