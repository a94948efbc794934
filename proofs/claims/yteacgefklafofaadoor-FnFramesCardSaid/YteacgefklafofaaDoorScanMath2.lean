/-
  A record is right just where its encoding stands there: the plain mathematics.
-/
import Derived.Test.YteacgefklafofaaDoorScanMath
namespace Go.Proofs.YteacgefklafofaaDoor
open Go.RowKit

/-- the record's payload -/
def recData (zs : List Nat) : List Nat := (zs.drop 12).take (recN zs)
theorem getD_split (zs : List Nat) (k : Nat) (h : k < zs.length) : zs.drop k = zs.getD k 0 :: zs.drop (k + 1) := by
  rw [List.drop_eq_getElem_cons h, List.getD_eq_getElem?_getD, List.getElem?_eq_getElem h]; rfl
theorem take_split (zs : List Nat) (a b : Nat) : zs.take (a + b) = zs.take a ++ (zs.drop a).take b := by rw [List.take_add]
theorem recData_len (zs : List Nat) (h : 12 + recN zs ≤ zs.length) : (recData zs).length = recN zs := by simp [recData]; omega
theorem head_eq (zs : List Nat) (hb : ∀ z ∈ zs, z < 256) (h12 : 12 ≤ zs.length) (hok : ¬ headBad zs) (hl : 12 + recN zs ≤ zs.length) : zs.take 8 = encHead (zs.getD 4 0) (recData zs) := by
  obtain ⟨g5, g6, g7⟩ : zs.getD 5 0 = 0 ∧ zs.getD 6 0 = 0 ∧ zs.getD 7 0 = 0 := by
    unfold headBad at hok
    refine ⟨?_, ?_, ?_⟩
    · exact Classical.byContradiction fun h => hok (.inr (.inr (.inl h)))
    · exact Classical.byContradiction fun h => hok (.inr (.inr (.inr (.inl h))))
    · exact Classical.byContradiction fun h => hok (.inr (.inr (.inr (.inr h))))
  unfold encHead
  rw [recData_len zs hl]
  have h4 : le4 (recN zs) = zs.take 4 := le4_of_val (zs.take 4) (fun z hz => hb z (List.mem_of_mem_take hz)) (by simp; omega)
  rw [h4, show (8 : Nat) = 4 + 4 from rfl, take_split zs 4 4, getD_split zs 4 (by omega), getD_split zs 5 (by omega), getD_split zs 6 (by omega), getD_split zs 7 (by omega), g5, g6, g7]
  simp
theorem sum_eq (zs : List Nat) (hb : ∀ z ∈ zs, z < 256) (h12 : 12 ≤ zs.length) : ¬ sumBad zs ↔ (zs.drop 8).take 4 = le4 (Crc.crc (zs.take 8 ++ recData zs)) := by
  have hb4 : ∀ z ∈ (zs.drop 8).take 4, z < 256 := fun z hz => hb z (List.mem_of_mem_drop (List.mem_of_mem_take hz))
  have hl4 : ((zs.drop 8).take 4).length = 4 := by simp; omega
  unfold sumBad recData
  constructor
  · intro h
    have h1 := Classical.byContradiction (fun h' => h h')
    rw [← h1, le4_of_val _ hb4 hl4]
  · intro h h'
    apply h'
    have := congrArg leVal h
    rw [le4_val _ (crc_lt _)] at this
    exact this
theorem enc_twelve (ty : Nat) (d : List Nat) : (enc ty d).take 12 = encHead ty d ++ le4 (Crc.crc (encHead ty d ++ d)) := by
  have h : (encHead ty d ++ le4 (Crc.crc (encHead ty d ++ d))).length = 12 := by simp [encHead, le4]
  unfold enc
  rw [List.append_assoc, List.take_append_of_le_length (by omega), List.take_of_length_le (by omega)]
/-- the first twelve bytes tell the sum -/
theorem twelve_eq (zs : List Nat) (hb : ∀ z ∈ zs, z < 256) (h12 : 12 ≤ zs.length) (hok : ¬ headBad zs) (hl : 12 + recN zs ≤ zs.length) :
    (enc (zs.getD 4 0) (recData zs)).take 12 = zs.take 12 ↔ ¬ sumBad zs := by
  have h8 := head_eq zs hb h12 hok hl
  rw [enc_twelve, ← h8, show (12 : Nat) = 8 + 4 from rfl, take_split zs 8 4, sum_eq zs hb h12]
  constructor
  · intro h; exact (List.append_cancel_left h).symm
  · intro h; rw [h]
theorem enc_rest (ty : Nat) (d : List Nat) : enc ty d = (enc ty d).take 12 ++ (d ++ List.replicate (pad d.length) 0) := by
  have h : (encHead ty d ++ le4 (Crc.crc (encHead ty d ++ d))).length = 12 := by simp [encHead, le4]
  rw [enc_twelve]
  unfold enc
  simp [List.append_assoc]
theorem pad_eq (zs : List Nat) (hl : recSize zs ≤ zs.length) : ¬ padBad zs ↔ padBytes zs = List.replicate (pad (recN zs)) 0 := by
  have hlp : (padBytes zs).length = pad (recN zs) := by unfold recSize at hl; simp [padBytes]; omega
  unfold padBad
  rw [Classical.not_not]
  constructor
  · intro h
    exact List.eq_replicate_iff.2 ⟨hlp, h⟩
  · intro h z hz
    rw [h] at hz
    exact List.eq_of_mem_replicate hz
theorem whole_eq (zs : List Nat) (hb : ∀ z ∈ zs, z < 256) (h12 : 12 ≤ zs.length) (hok : ¬ headBad zs) (hl : recSize zs ≤ zs.length) :
    enc (zs.getD 4 0) (recData zs) = zs.take (recSize zs) ↔ ¬ sumBad zs ∧ ¬ padBad zs := by
  have hl' : 12 + recN zs ≤ zs.length := by unfold recSize at hl; omega
  have e : zs.take (recSize zs) = zs.take 12 ++ (recData zs ++ padBytes zs) := by
    unfold recSize recData padBytes
    rw [take_split zs (12 + recN zs) (pad (recN zs)), take_split zs 12 (recN zs), List.append_assoc]
  have hd := recData_len zs hl'
  rw [e, enc_rest, hd, ← twelve_eq zs hb h12 hok hl', pad_eq zs hl]
  have h1 : ((enc (zs.getD 4 0) (recData zs)).take 12).length = (zs.take 12).length := by
    rw [enc_twelve]; simp [encHead, le4]; omega
  constructor
  · intro h
    obtain ⟨h2, h3⟩ := List.append_inj h h1
    exact ⟨h2, (List.append_cancel_left h3).symm⟩
  · rintro ⟨h2, h3⟩
    rw [h2, h3]
end Go.Proofs.YteacgefklafofaaDoor
