/-
  string(b) of bytes that lie somewhere: the conversion's run. Nothing here reaches the dump.
-/
import Derived.Test.YtdajcpcajdhplaaDoorApp
import Derived.Laws.BytesString
import Derived.Laws.Cells
namespace Go.Proofs.YtdajcpcajdhplaaDoor
open Go.RowKit

/-- bytes as a string -/
def strB (zs : List Nat) : ByteArray := ⟨(zs.map UInt8.ofNat).toArray⟩
theorem strB_toList (zs : List Nat) : (strB zs).toList = zs.map UInt8.ofNat := by simp [strB]
theorem strB_size (zs : List Nat) : (strB zs).size = zs.length := by simp [strB, ByteArray.size]
theorem foldl_push (l : List Nat) : ∀ s : ByteArray, (l.map (fun n : Nat => (n : Int))).foldl (fun r n => r.push (UInt8.ofNat n.toNat)) s = ⟨s.data ++ (l.map UInt8.ofNat).toArray⟩ := by
  induction l with
  | nil => intro s; simp
  | cons x l ih =>
    intro s
    simp only [List.map_cons, List.foldl_cons]
    rw [ih]
    congr 1
    apply Array.ext'
    simp [ByteArray.push]
theorem run_str_b {P : Program} (w : World) {src dst e : TypeId} (hs : P.underlying src = some (.slice e)) (he : P.underlying e = some (.int .u8)) (hd : P.underlying dst = some .string)
    {oa : Option Addr} {n : Nat} {zs : List Nat} (h : SlB w oa n zs) (c : Nat) : (convert src dst (.slice oa n c)).run P w = .ok (.string (strB zs)) w := by
  rw [run_convert_bytes_string w src dst e oa n c hs he hd]
  by_cases hn : n = 0
  · subst hn
    obtain rfl : zs = [] := List.eq_nil_of_length_eq_zero h.1
    cases oa with
    | none => rfl
    | some a =>
      rw [run_bytesToString w a 0 c [] (by rfl)]
      rfl
  · obtain ⟨ad, rfl, hc⟩ := h.src (by omega)
    have hl : (loadCells ad n).run P w = .ok ((zs.map (fun n : Nat => (n : Int))).map (Value.int .u8)).toArray w := by
      have h1 := run_loadCells_list (P := P) (w := w) ad (zs.map bv) hc
      have h2 : (zs.map bv).length = n := by simpa using h.1
      rw [h2] at h1
      rw [h1]
      simp [bv, Function.comp_def]
    rw [run_bytesToString w ad n c _ hl, foldl_push]
    simp [strB]
/-- two strings of bytes are one where the bytes are -/
theorem strB_eq (xs ys : List Nat) (hx : ∀ z ∈ xs, z < 256) (hy : ∀ z ∈ ys, z < 256) : ((strB xs).toList == (strB ys).toList) = decide (xs = ys) := by
  have hinj : ∀ (a b : List Nat), (∀ z ∈ a, z < 256) → (∀ z ∈ b, z < 256) → a.map UInt8.ofNat = b.map UInt8.ofNat → a = b := by
    intro a
    induction a with
    | nil => intro b _ _ h; cases b with
      | nil => rfl
      | cons => simp at h
    | cons x a ih =>
      intro b ha hb h
      cases b with
      | nil => simp at h
      | cons y b =>
        simp only [List.map_cons, List.cons.injEq] at h
        have e1 : x = y := by
          have := congrArg UInt8.toNat h.1
          have h3 := ha x (by simp)
          have h4 := hb y (by simp)
          simpa [Nat.mod_eq_of_lt h3, Nat.mod_eq_of_lt h4] using this
        rw [e1, ih b (fun z hz => ha z (by simp [hz])) (fun z hz => hb z (by simp [hz])) h.2]
  rw [strB_toList, strB_toList]
  by_cases he : xs = ys
  · subst he; simp
  · rw [decide_eq_false he]
    simpa using fun h => he (hinj xs ys hx hy h)
end Go.Proofs.YtdajcpcajdhplaaDoor
