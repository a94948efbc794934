/-
  Nested data: how much of it there is.
-/
import Derived.Test.YtkjjglnbbahbkaaDoorTree2
namespace Go.Proofs.YtkjjglnbbahbkaaDoor
open Go.RowKit

theorem tdRows_append (A B : List (List Td)) : tdRows (A ++ B) = tdRows A + tdRows B := by
  induction A with
  | nil => simp [tdRows]
  | cons e A ih => simp [tdRows, ih]; omega
theorem tdEl_get {e : List Td} {j : Nat} {y : Td} (h : e[j]? = some y) : y.tot ≤ tdEl e := by
  induction e generalizing j with
  | nil => simp at h
  | cons z e ih =>
    cases j with
    | zero => simp at h; subst h; simp [tdEl]
    | succ j => have := ih (j := j) (by simpa using h); simp [tdEl]; omega
theorem tdRows_get {L : List (List Td)} {i : Nat} {e : List Td} (h : L[i]? = some e) : tdEl e ≤ tdRows L := by
  induction L generalizing i with
  | nil => simp at h
  | cons z L ih =>
    cases i with
    | zero => simp at h; subst h; simp [tdRows]
    | succ i => have := ih (i := i) (by simpa using h); simp [tdRows]; omega
/-- of a row; of its first k elements -/
def totR (L : List (List Tr)) : Nat := L.length + tdRows (tellR L)
def totTo (L : List (List Tr)) (k : Nat) : Nat := L.length + tdRows (tellR (L.take k))
theorem totTo_zero (L : List (List Tr)) : totTo L 0 = L.length := by simp [totTo, tdRows]
theorem totTo_all (L : List (List Tr)) : totTo L L.length = totR L := by simp [totTo, totR]
theorem totTo_succ {L : List (List Tr)} {k : Nat} {e : List Tr} (h : L[k]? = some e) : totTo L (k + 1) = totTo L k + tdEl (e.map Tr.tell) := by
  unfold totTo
  rw [List.take_add_one, h]
  simp only [tellR, List.map_append, tdRows_append, Option.toList, List.map_cons, List.map_nil, tdRows]
  omega
theorem totTo_le (L : List (List Tr)) (k : Nat) : totTo L k ≤ totR L := by
  unfold totTo totR
  have h : tellR L = tellR (L.take k) ++ tellR (L.drop k) := by simp only [tellR]; rw [← List.map_append, List.take_append_drop]
  rw [h, tdRows_append]
  omega
theorem totR_len (L : List (List Tr)) : L.length ≤ totR L := by unfold totR; omega
theorem tot_row (m : Nat) (a : Option Addr) (cp : Nat) (L : List (List Tr)) : (Tr.row m a cp L).tell.tot = totR L := by
  show (tellR L).length + tdRows (tellR L) = totR L
  simp [totR]
theorem tot_byt (d : List Nat) (a : Option Addr) (cp : Nat) : (Tr.byt d a cp).tell.tot = d.length := rfl
theorem tot_str (s : ByteArray) : (Tr.str s).tell.tot = s.size := rfl
theorem tot_sub {L : List (List Tr)} {i j : Nat} {e : List Tr} {y : Tr} (hi : L[i]? = some e) (hj : e[j]? = some y) : y.tell.tot ≤ totR L := by
  have h1 : (tellR L)[i]? = some (e.map Tr.tell) := by simp [hi]
  have h2 : (e.map Tr.tell)[j]? = some y.tell := by simp [hj]
  have := tdRows_get h1
  have := tdEl_get h2
  unfold totR
  omega
theorem Rd.sm {w : World} {x : Tr} (h : Rd w x) (hb : x.tell.tot ≤ 1048576) : Sm x := by
  induction h using Rd.elim with
  | int h => exact .int _
  | bool b => exact .bool b
  | str _ => exact .str _
  | byt _ h => rw [tot_byt] at hb; exact .byt hb
  | @row m a cp L _ hl hc _ ih =>
    rw [tot_row] at hb
    have := totR_len L
    exact .row (by omega) (fun i j e y hi hj => ih i j e y hi hj (by have := tot_sub hi hj; omega))
theorem RowOk.smR {w : World} {ks : List Ki} {a : Option Addr} {L : List (List Tr)} (h : RowOk w ks a L) (hb : totR L ≤ 1048576) : SmR L := by
  have := totR_len L
  exact ⟨by omega, fun i j e y hi hj => ((h i e hi).2.1 y (List.mem_of_getElem? hj)).sm (by have := tot_sub hi hj; omega)⟩
/-- the same but for the places: as much -/
theorem totR_tell {L L' : List (List Tr)} (h : tellR L = tellR L') : totR L = totR L' := by
  have h1 : L.length = L'.length := by have := congrArg List.length h; simpa using this
  unfold totR
  rw [h, h1]
end Go.Proofs.YtkjjglnbbahbkaaDoor
