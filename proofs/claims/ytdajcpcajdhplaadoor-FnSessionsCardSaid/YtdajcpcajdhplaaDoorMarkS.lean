/-
  A slice of bytes of the call's own, or nil: OwnS; the laws' helpers on it.
-/
import Derived.Test.YtdajcpcajdhplaaDoorBytes2
namespace Go.Proofs.YtdajcpcajdhplaaDoor
open Go.RowKit

def OwnS (w : World) (e : TypeId) (og : Option Addr) (n : Nat) (zs : List Nat) : Prop :=
  zs.length = n ∧ ((og = none ∧ n = 0) ∨ ∃ g, og = some ⟨g, 0, none⟩ ∧ Own w e g zs)
/-- its block -/
def blk (og : Option Addr) : Option Nat := og.map (·.block)
theorem OwnS.sl {w : World} {e : TypeId} {og : Option Addr} {n : Nat} {zs : List Nat} (h : OwnS w e og n zs) : SlB w og n zs := by
  obtain ⟨h1, ⟨rfl, rfl⟩ | ⟨g, rfl, hO⟩⟩ := h
  · obtain rfl : zs = [] := List.eq_nil_of_length_eq_zero h1
    exact ⟨rfl, by simp, fun h => absurd rfl h⟩
  · exact hO.sl n h1
theorem OwnS.grown {w w' : World} {row : Option Nat} {e : TypeId} {og : Option Addr} {n : Nat} {zs : List Nat} (h : OwnS w e og n zs) (hg : w.grownBy w' row) (hne : ∀ g, blk og = some g → some g ≠ row) : OwnS w' e og n zs := by
  obtain ⟨h1, ⟨rfl, rfl⟩ | ⟨g, rfl, hO⟩⟩ := h
  · exact ⟨h1, .inl ⟨rfl, rfl⟩⟩
  · exact ⟨h1, .inr ⟨g, rfl, hO.grown hg (hne g rfl)⟩⟩
theorem OwnS.grown0 {w w' : World} {e : TypeId} {og : Option Addr} {n : Nat} {zs : List Nat} (h : OwnS w e og n zs) (hg : w.grownBy w' none) : OwnS w' e og n zs := h.grown hg (by simp)
theorem OwnS.heap {w w' : World} {e : TypeId} {og : Option Addr} {n : Nat} {zs : List Nat} (h : OwnS w e og n zs) (hh : w'.heap = w.heap) : OwnS w' e og n zs := by
  obtain ⟨h1, h2 | ⟨g, rfl, hO⟩⟩ := h
  · exact ⟨h1, .inl h2⟩
  · exact ⟨h1, .inr ⟨g, rfl, hO.heap hh⟩⟩
theorem OwnS.lt {w : World} {e : TypeId} {og : Option Addr} {n : Nat} {zs : List Nat} (h : OwnS w e og n zs) : ∀ g, blk og = some g → g < w.heap.size := by
  obtain ⟨_, ⟨rfl, rfl⟩ | ⟨g', rfl, hO⟩⟩ := h
  · intro g hg; cases hg
  · intro g hg; obtain rfl : g' = g := by simpa [blk] using hg
    exact hO.lt
theorem Own.s {w : World} {e : TypeId} {g n : Nat} {zs : List Nat} (h : Own w e g zs) (hn : zs.length = n) : OwnS w e (some ⟨g, 0, none⟩) n zs := ⟨hn, .inr ⟨g, rfl, h⟩⟩
theorem OwnS.none (w : World) (e : TypeId) : OwnS w e none 0 [] := ⟨rfl, .inl ⟨rfl, rfl⟩⟩

set_option maxHeartbeats 400000 in
theorem markByteS_nil (m : Nat) (w : World) :
    Calls Tryd.prog 24 #[.slice none 0 0, .int .i64 (m : Int)] w fun e w' => e = .returned (.int .i64 (m : Int)) ∧ w' = w := by
  go_enter Tryd.func24, Tryd.ntmps24
  go_wp2
  go_loop [1, 5] (fun v i => i = .int .i64 0 ∧ v = .int .i64 (m : Int)) (fun _ _ => 0)
  case atStart => exact ⟨rfl, rfl⟩
  case round =>
    obtain ⟨rfl, rfl⟩ := hrel
    go_wp2
    go_ret
    exact ⟨rfl, rfl⟩
set_option maxHeartbeats 400000 in
theorem heldByteS_nil (m : Nat) (w : World) :
    Calls Tryd.prog 75 #[.slice none 0 0, .int .i64 (m : Int)] w fun e w' => e = .returned (.int .i64 (m : Int)) ∧ w' = w := by
  go_enter Tryd.func75, Tryd.ntmps75
  go_wp2
  go_loop [1, 5] (fun v i => i = .int .i64 0 ∧ v = .int .i64 (m : Int)) (fun _ _ => 0)
  case atStart => exact ⟨rfl, rfl⟩
  case round =>
    obtain ⟨rfl, rfl⟩ := hrel
    go_wp2
    go_ret
    exact ⟨rfl, rfl⟩
theorem marked_lt (zs : List Nat) (m k : Nat) (h : ∀ z ∈ zs, z < 256) : ∀ z ∈ marked zs m k, z < 256 := by
  induction k with
  | zero => exact h
  | succ k ih =>
    intro z hz
    rcases List.mem_or_eq_of_mem_set hz with h1 | h1
    · exact ih z h1
    · omega
theorem markByteS_s (og : Option Addr) (n cap m : Nat) (zs : List Nat) (w : World) (h : OwnS w 5 og n zs) (hn : og = none → cap = 0) (hm : n ≤ 1073741824) (hm2 : m ≤ 1073741824) :
    Calls Tryd.prog 24 #[.slice og n cap, .int .i64 (m : Int)] w fun e w' => e = .returned (.int .i64 ((m : Int) + n)) ∧ OwnS w' 5 og n (marked zs m n) ∧ w.grownBy w' (blk og) := by
  obtain ⟨h1, ⟨rfl, rfl⟩ | ⟨g, rfl, hO⟩⟩ := h
  · obtain rfl := hn rfl
    refine (markByteS_nil m w).mono ?_
    rintro e w' ⟨rfl, rfl⟩
    refine ⟨by simp, ⟨by rw [marked_len]; exact h1, .inl ⟨rfl, rfl⟩⟩, grownBy_refl _ _⟩
  · refine (markByteS_own g n cap m zs w hO h1 hm hm2).mono ?_
    rintro e w' ⟨rfl, hO', hG⟩
    exact ⟨rfl, hO'.s (by rw [marked_len]; exact h1), hG⟩
theorem heldByteS_s (og : Option Addr) (n cap m : Nat) (zs : List Nat) (w : World) (h : OwnS w 5 og n zs) (hn : og = none → cap = 0) (hz : ∀ i, i < n → zs.getD i 0 = (m + i) % 256) (hm : n ≤ 1073741824) (hm2 : m ≤ 1073741824) :
    Calls Tryd.prog 75 #[.slice og n cap, .int .i64 (m : Int)] w fun e w' => e = .returned (.int .i64 ((m : Int) + n)) ∧ w' = w := by
  obtain ⟨h1, ⟨rfl, rfl⟩ | ⟨g, rfl, hO⟩⟩ := h
  · obtain rfl := hn rfl
    refine (heldByteS_nil m w).mono ?_
    rintro e w' ⟨rfl, rfl⟩
    exact ⟨by simp, rfl⟩
  · exact heldByteS_own g n cap m zs w hO h1 hz hm hm2

end Go.Proofs.YtdajcpcajdhplaaDoor
