/-
  A state's bytes, as they are laid down piece by piece.
-/
import Derived.Test.YtionggfecikedaaStMath
import Derived.Test.YtionggfecikedaaSes
namespace Go.Proofs.Ytionggfecikedaa
open Go.RowKit

theorem Hid.mkS {p : Prop} (h : p) : Hid p := h
/-- the bytes of the first k sessions behind the head -/
def stTo (b : Nat) (L : List Se) (k : Nat) : List Nat := leN b 8 ++ (leN L.length 8 ++ encL ((L.take k).map Se.tell))
/-- .. and of the first j numbers of one more -/
def numTo (x : Se) (j : Nat) : List Nat := ([x.c, x.q, x.i, x.d.length].take j).flatMap (fun v => leN v 8)
theorem stTo_zero (b : Nat) (L : List Se) : stTo b L 0 = leN b 8 ++ leN L.length 8 := by simp [stTo, encL]
theorem stTo_all (b : Nat) (L : List Se) : stTo b L L.length = encSt b (L.map Se.tell) := by simp [stTo, encSt]
theorem stTo_succ (b : Nat) (L : List Se) (k : Nat) (x : Se) (hx : L[k]? = some x) : stTo b L (k + 1) = stTo b L k ++ numTo x 4 ++ x.d := by
  have hk : k < L.length := (List.getElem?_eq_some_iff.1 hx).1
  have e : L.take (k + 1) = L.take k ++ [x] := by
    rw [List.getElem?_eq_getElem hk] at hx
    rw [List.take_succ_eq_append_getElem hk, Option.some.inj hx]
  unfold stTo
  rw [e, List.map_append, List.map_cons, List.map_nil, encL_snoc]
  simp [encS, numTo, Se.tell]
theorem numTo_succ (x : Se) (j : Nat) (hj : j < 4) : numTo x (j + 1) = numTo x j ++ leN ([x.c, x.q, x.i, x.d.length].getD j 0) 8 := by
  rcases (show j = 0 ∨ j = 1 ∨ j = 2 ∨ j = 3 by omega) with rfl | rfl | rfl | rfl <;> simp [numTo]
theorem numTo_len (x : Se) (j : Nat) (hj : j ≤ 4) : (numTo x j).length = 8 * j := by
  rcases (show j = 0 ∨ j = 1 ∨ j = 2 ∨ j = 3 ∨ j = 4 by omega) with rfl | rfl | rfl | rfl | rfl <;> simp [numTo, leN_len]
theorem stTo_lt (b : Nat) (L : List Se) (k : Nat) (h : ∀ x ∈ L, ∀ z ∈ x.d, z < 256) : ∀ z ∈ stTo b L k, z < 256 := by
  intro z hz
  unfold stTo at hz
  rcases List.mem_append.1 hz with h1 | h1
  · exact leN_lt _ _ z h1
  · rcases List.mem_append.1 h1 with h1 | h1
    · exact leN_lt _ _ z h1
    · unfold encL at h1
      obtain ⟨y, hy, hz'⟩ := List.mem_flatMap.1 h1
      obtain ⟨x, hx, rfl⟩ := List.mem_map.1 hy
      unfold encS at hz'
      simp only [List.mem_append] at hz'
      rcases hz' with h2 | h2 | h2 | h2 | h2
      · exact leN_lt _ _ z h2
      · exact leN_lt _ _ z h2
      · exact leN_lt _ _ z h2
      · exact leN_lt _ _ z h2
      · exact h x (List.mem_of_mem_take hx) z h2
theorem numTo_lt (x : Se) (j : Nat) : ∀ z ∈ numTo x j, z < 256 := by
  intro z hz
  unfold numTo at hz
  obtain ⟨v, _, hv⟩ := List.mem_flatMap.1 hz
  exact leN_lt _ _ z hv
theorem row_ne {w : World} {base e g n c k : Nat} {xs : List Value} {cur : Array Value} {e' : TypeId} {f : Nat × Nat} (h : w.ownsRow base e 1 (.slice (some ⟨g, 0, none⟩) n c) n xs) (h' : w.heap[k]? = some (.cells cur e' f)) (hne : e ≠ e') : k ≠ g := by
  rintro rfl
  rcases h.2 with ⟨h0, _⟩ | ⟨g', cap', cur', h0, _, hg, _⟩
  · simp at h0
  · simp only [Value.slice.injEq, Option.some.injEq, Addr.mk.injEq, and_true, true_and] at h0
    obtain ⟨rfl, _⟩ := h0
    rw [hg] at h'
    simp only [Option.some.injEq, Obj.cells.injEq] at h'
    exact hne h'.2.1
/-- as ValidS, where the count may be above the bound of a base -/
def ValidW (b : Nat) (l : List Sn) : Prop := b ≤ 2000000 ∧ (∀ x ∈ l, okS x ∧ x.i < b) ∧ rises 0 l
theorem ValidW.len {b : Nat} {l : List Sn} (h : ValidW b l) : l.length ≤ 50 := by
  have := rises_len l 0 h.2.2 (fun x hx => (h.2.1 x hx).1.2.1) (by decide)
  omega
end Go.Proofs.Ytionggfecikedaa
