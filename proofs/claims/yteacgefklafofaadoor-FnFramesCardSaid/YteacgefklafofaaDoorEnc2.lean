/-
  impl.recordSum and impl.FrameEncode, walked.
-/
import Derived.Test.YteacgefklafofaaDoorEnc
import Derived.Deep.RegionHeld3
import Derived.Laws.CopyOwn
namespace Go.Proofs.YteacgefklafofaaDoor
open Go.RowKit

theorem SlB.take {w : World} {oa : Option Addr} {len : Nat} {zs : List Nat} (h : SlB w oa len zs) (n : Nat) (hn : n ≤ len) : SlB w oa n (zs.take n) := by
  obtain ⟨h1, h2, h3⟩ := h
  refine ⟨by simp; omega, fun z hz => h2 z (List.mem_of_mem_take hz), fun hn0 => ?_⟩
  obtain ⟨b, off, rfl, hc⟩ := h3 (by omega)
  refine ⟨b, off, rfl, fun i hi => ?_⟩
  rw [hc i (by omega)]
  simp [List.getD, hi]
theorem crc_lt (zs : List Nat) : Crc.crc zs < 4294967296 := by unfold Crc.crc; omega

set_option maxHeartbeats 400000 in
theorem recordSum_any (oh : Option Addr) (hlen hcap : Nat) (hz : List Nat) (oa : Option Addr) (len cap : Nat) (zs : List Nat) (w : World) (hh : SlB w oh hlen hz) (h8 : 8 ≤ hlen) (hcp : hlen ≤ hcap) (hx : hcap ≤ maxLen) (hsl : SlB w oa len zs) (ht : Tab w) (hm : len ≤ 1073741824) :
    Calls Tryd.prog 39 #[.slice oh hlen hcap, .slice oa len cap] w fun e w' => e = .returned (.int .u32 ((Crc.crc (hz.take 8 ++ zs) : Nat) : Int)) ∧ w' = w := by
  unfold maxLen at hx
  have h1 := hh.take 8 h8
  have l1 : Crc.crcL 4294967295 (hz.take 8) < 4294967296 := Crc.crcL_lt _ h1.2.1 _ (by decide)
  have l2 : Crc.crcL (Crc.crcL 4294967295 (hz.take 8)) zs < 4294967296 := Crc.crcL_lt _ hsl.2.1 _ l1
  have HC : Hid (Crc.crc (hz.take 8 ++ zs) = 4294967295 - Crc.crcL (Crc.crcL 4294967295 (hz.take 8)) zs) := by show _ = _; unfold Crc.crc; rw [Crc.crcL_append]
  have H1 : Hid (∀ s : Nat, s < 4294967296 → _) := fun s hs => sumOver_any s hs oh 8 hcap (hz.take 8) w h1 ht (by omega)
  have H2 : Hid (∀ s : Nat, s < 4294967296 → _) := fun s hs => sumOver_any s hs oa len cap zs w hsl ht hm
  obtain ⟨b, off, rfl, -⟩ := hh.2.2 (by omega)
  clear hsl ht h1 hh
  go_enter Tryd.func39, Tryd.ntmps39
  go_wp2_with fail
  refine (H1.out 4294967295 (by decide)).mono ?_
  rintro e w1 ⟨rfl, rfl⟩
  generalize Crc.crcL 4294967295 (hz.take 8) = x1 at *
  go_wp2_with fail
  refine (H2.out x1 l1).mono ?_
  rintro e w2 ⟨rfl, rfl⟩
  generalize Crc.crcL x1 zs = x at *
  have e2 := not32' x l2
  go_wp2
  go_ret
  exact ⟨ret_int (by rw [HC.out]; exact e2), rfl⟩

/-- a record's bytes -/
def encHead (ty : Nat) (zs : List Nat) : List Nat := le4 zs.length ++ [ty, 0, 0, 0]
def enc (ty : Nat) (zs : List Nat) : List Nat := encHead ty zs ++ le4 (Crc.crc (encHead ty zs ++ zs)) ++ zs ++ List.replicate (pad zs.length) 0
theorem enc_len (ty : Nat) (zs : List Nat) : (enc ty zs).length = 12 + zs.length + pad zs.length := by simp [enc, encHead, le4]; omega

/-- the row's contents, step by step -/
def st0 (zs : List Nat) : List Nat := List.replicate (12 + zs.length + pad zs.length) 0
def st1 (zs : List Nat) : List Nat := putN (st0 zs) 0 zs.length 4
def st2 (ty : Nat) (zs : List Nat) : List Nat := (st1 zs).set 4 ty
def st3 (ty : Nat) (zs : List Nat) : List Nat := putN (st2 ty zs) 8 (Crc.crc ((st2 ty zs).take 8 ++ zs)) 4
theorem st1_eq (zs : List Nat) : st1 zs = le4 zs.length ++ List.replicate (8 + zs.length + pad zs.length) 0 := by
  have h := putN_four [] [0, 0, 0, 0] (List.replicate (8 + zs.length + pad zs.length) 0) zs.length rfl
  have e : st0 zs = [] ++ [0, 0, 0, 0] ++ List.replicate (8 + zs.length + pad zs.length) 0 := by
    unfold st0
    rw [show 12 + zs.length + pad zs.length = (8 + zs.length + pad zs.length) + 4 by omega]
    simp [List.replicate_succ]
  unfold st1
  rw [e]
  simpa using h
theorem st2_eq (ty : Nat) (zs : List Nat) : st2 ty zs = encHead ty zs ++ List.replicate (4 + zs.length + pad zs.length) 0 := by
  unfold st2 encHead
  rw [st1_eq, show 8 + zs.length + pad zs.length = (4 + zs.length + pad zs.length) + 4 by omega]
  simp [le4, List.replicate_succ]
theorem st2_head (ty : Nat) (zs : List Nat) : (st2 ty zs).take 8 = encHead ty zs := by
  rw [st2_eq]; simp [encHead, le4]
theorem st3_eq (ty : Nat) (zs : List Nat) : st3 ty zs = encHead ty zs ++ le4 (Crc.crc (encHead ty zs ++ zs)) ++ List.replicate (zs.length + pad zs.length) 0 := by
  unfold st3
  rw [st2_head, st2_eq]
  have h := putN_four (encHead ty zs) [0, 0, 0, 0] (List.replicate (zs.length + pad zs.length) 0) (Crc.crc (encHead ty zs ++ zs)) rfl
  have e : encHead ty zs ++ List.replicate (4 + zs.length + pad zs.length) 0 = encHead ty zs ++ [0, 0, 0, 0] ++ List.replicate (zs.length + pad zs.length) 0 := by
    rw [show 4 + zs.length + pad zs.length = (zs.length + pad zs.length) + 4 by omega]
    simp [List.replicate_succ]
  have e8 : (encHead ty zs).length = 8 := by simp [encHead, le4]
  rw [e8] at h
  rw [e, h]
theorem st4_eq (ty : Nat) (zs : List Nat) : splice (st3 ty zs) 12 zs = enc ty zs := by
  rw [st3_eq]
  unfold splice enc
  have e12 : (encHead ty zs ++ le4 (Crc.crc (encHead ty zs ++ zs))).length = 12 := by simp [encHead, le4]
  generalize encHead ty zs ++ le4 (Crc.crc (encHead ty zs ++ zs)) = h12 at *
  rw [List.take_append_of_le_length (by omega), List.take_of_length_le (by omega), List.drop_append, List.drop_of_length_le (by omega), e12]
  simp
theorem st2_len (ty : Nat) (zs : List Nat) : (st2 ty zs).length = 12 + zs.length + pad zs.length := by simp [st2, st1, putN_len, st0]
theorem st3_len (ty : Nat) (zs : List Nat) : (st3 ty zs).length = 12 + zs.length + pad zs.length := by simp [st3, putN_len, st2_len]
theorem pad_lt (n : Nat) : pad n < 4 := by unfold pad; omega

theorem splice_get {α : Type} (L : List α) (off : Nat) (cs : List α) (h : off + cs.length ≤ L.length) (i : Nat) : (Go.splice L off cs)[i]? = if i < off then L[i]? else if i < off + cs.length then cs[i - off]? else L[i]? := by
  have e1 : (List.take off L).length = off := by simp; omega
  unfold Go.splice
  by_cases h1 : i < off
  · rw [if_pos h1, List.getElem?_append_left (by omega), List.getElem?_take, if_pos h1]
  · rw [if_neg h1, List.getElem?_append_right (by omega), e1]
    by_cases h2 : i < off + cs.length
    · rw [if_pos h2, List.getElem?_append_left (by omega)]
    · rw [if_neg h2, List.getElem?_append_right (by omega), List.getElem?_drop]
      congr 1
      omega
theorem Own.splice {w' : World} {e : TypeId} {g off : Nat} {zs cs : List Nat} {cur : Array Value} (hz : ∀ z ∈ zs, z < 256) (hcs : ∀ z ∈ cs, z < 256) (hc : ∀ i, i < zs.length → cur[i]? = some (.int .u8 ((zs.getD i 0 : Nat) : Int)))
    (hfit : off + cs.length ≤ zs.length) (h : w'.heap[g]? = some (.cells (Go.splice cur.toList off (cs.map bv)).toArray e (0, 0))) : Own w' e g (Go.splice zs off cs) := by
  have hcur : zs.length ≤ cur.size := by
    by_cases h0 : zs.length = 0
    · omega
    · have := hc (zs.length - 1) (by omega)
      have := (Array.getElem?_eq_some_iff.1 this).1
      omega
  refine ⟨?_, _, h, fun i hi => ?_⟩
  · intro z hz'
    unfold Go.splice at hz'
    rcases List.mem_append.1 hz' with h1 | h1
    · exact hz z (List.mem_of_mem_take h1)
    · rcases List.mem_append.1 h1 with h2 | h2
      · exact hcs z h2
      · exact hz z (List.mem_of_mem_drop h2)
  · rw [length_splice _ _ _ hfit] at hi
    have hi2 := hc i hi
    rw [← Array.getElem?_toList] at hi2
    simp only [List.getElem?_toArray, List.getD]
    rw [splice_get _ _ _ (by simp; omega), splice_get _ _ _ hfit]
    by_cases h1 : i < off
    · rw [if_pos h1, if_pos h1, hi2]
      simp [List.getD]
    · rw [if_neg h1, if_neg h1]
      by_cases h2 : i < off + cs.length
      · rw [if_pos (by simpa using h2), if_pos h2]
        have h3 : i - off < cs.length := by omega
        simp [h3, bv]
      · rw [if_neg (by simpa using h2), if_neg h2, hi2]
        simp [List.getD]
end Go.Proofs.YteacgefklafofaaDoor
