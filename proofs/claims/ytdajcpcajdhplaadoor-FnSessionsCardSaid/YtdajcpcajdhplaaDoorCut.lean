/-
  A piece of bytes that came in, as the machine points at it; a call's arguments, held against what a contract asks, fast.
-/
import Derived.Test.YtdajcpcajdhplaaDoorBase
namespace Go.Proofs.YtdajcpcajdhplaaDoor
open Go.RowKit

/-- the arguments are held against each other ahead of all else: where they differ it fails at once -/
theorem calls_args {P : Program} {f : FuncId} {args args' : Array Value} {w : World} {Q : Ending → World → Prop} (h : args' = args) (k : Calls P f args w Q) : Calls P f args' w Q := by
  rw [h]; exact k
theorem slb_cut {w : World} {b off : Nat} {len : Nat} {zs : List Nat} (h : SlB w (some ⟨b, off, none⟩) len zs) (i n : Nat) (hi : i + n ≤ len) : SlB w (some ⟨b, off + i, none⟩) n ((zs.drop i).take n) := by
  obtain ⟨h1, h2, h3⟩ := h
  refine ⟨by simp; omega, fun z hz => h2 z (List.mem_of_mem_drop (List.mem_of_mem_take hz)), fun hn => ?_⟩
  obtain ⟨b', off', he, hc⟩ := h3 (by omega)
  simp only [Option.some.injEq, Addr.mk.injEq, and_true] at he
  obtain ⟨rfl, rfl⟩ := he
  refine ⟨b, off + i, rfl, fun j hj => ?_⟩
  have := hc (i + j) (by omega)
  rw [← Nat.add_assoc] at this
  rw [this]
  simp [List.getD, hj]
theorem slb_cutIf {w : World} {b off : Nat} {len : Nat} {zs : List Nat} (h : SlB w (some ⟨b, off, none⟩) len zs) (i n cap : Nat) (hi : i + n ≤ len) (hc : len ≤ cap) : SlB w (if cap = i then some ⟨b, off, none⟩ else some ⟨b, off + i, none⟩) n ((zs.drop i).take n) := by
  by_cases hci : cap = i
  · rw [if_pos hci]
    obtain rfl : n = 0 := by omega
    exact ⟨by simp, by simp, fun h => absurd rfl h⟩
  · rw [if_neg hci]
    exact slb_cut h i n hi
theorem drop_take_all (zs : List Nat) (i n : Nat) (h : i + n = zs.length) : (zs.drop i).take n = zs.drop i := List.take_of_length_le (by simp; omega)
end Go.Proofs.YtdajcpcajdhplaaDoor
