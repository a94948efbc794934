/-
  One changed byte is seen: the plain mathematics of chapter 3's promise. No Go in it.
-/
import Derived.Test.YteacgefklafofaaDoorScanMath2
namespace Go.Proofs.YteacgefklafofaaDoor
open Go.RowKit
namespace Crc

theorem P_top : P.testBit 31 = true := by decide
theorem step_top (x : Nat) (h : x < 4294967296) : (step x).testBit 31 = x.testBit 0 := by
  rw [step_bit, P_top, Nat.testBit_lt_two_pow (i := 32) (by simpa using h)]
  simp
theorem step_inj (x y : Nat) (hx : x < 4294967296) (hy : y < 4294967296) (h : step x = step y) : x = y := by
  have h0 : x.testBit 0 = y.testBit 0 := by rw [← step_top x hx, ← step_top y hy, h]
  apply Nat.eq_of_testBit_eq
  intro i
  cases i with
  | zero => exact h0
  | succ i =>
    have hb := congrArg (fun z => z.testBit i) h
    simp only [step_bit, h0] at hb
    revert hb
    cases x.testBit (i + 1) <;> cases y.testBit (i + 1) <;> cases (y.testBit 0 && P.testBit i) <;> simp
theorem step4_inj (x y : Nat) (hx : x < 4294967296) (hy : y < 4294967296) (h : step4 x = step4 y) : x = y := by
  unfold step4 at h
  have l1 := step_lt x hx
  have l2 := step_lt _ l1
  have l3 := step_lt _ l2
  have m1 := step_lt y hy
  have m2 := step_lt _ m1
  have m3 := step_lt _ m2
  exact step_inj _ _ hx hy (step_inj _ _ l1 m1 (step_inj _ _ l2 m2 (step_inj _ _ l3 m3 h)))
theorem crcB_inj (s s' c c' : Nat) (hs : s < 4294967296) (hs' : s' < 4294967296) (hc : c < 256) (hc' : c' < 256) (h : crcB s c = crcB s' c') : s ^^^ c = s' ^^^ c' := by
  have h1 : s ^^^ c < 4294967296 := Nat.xor_lt_two_pow (n := 32) hs (by omega)
  have h2 : s' ^^^ c' < 4294967296 := Nat.xor_lt_two_pow (n := 32) hs' (by omega)
  exact step4_inj _ _ h1 h2 (step4_inj _ _ (step4_lt _ h1) (step4_lt _ h2) h)
theorem xor_left (s c c' : Nat) (h : s ^^^ c = s ^^^ c') : c = c' := by
  have := congrArg (fun z => s ^^^ z) h
  simpa [← Nat.xor_assoc] using this
theorem crcL_inj (zs : List Nat) (hz : ∀ z ∈ zs, z < 256) : ∀ s s', s < 4294967296 → s' < 4294967296 → crcL s zs = crcL s' zs → s = s' := by
  induction zs with
  | nil => intro s s' _ _ h; exact h
  | cons c zs ih =>
    intro s s' hs hs' h
    have hc := hz c (by simp)
    have h1 := ih (fun z hz' => hz z (by simp [hz'])) (crcB s c) (crcB s' c) (crcB_lt _ _ hs hc) (crcB_lt _ _ hs' hc) h
    have h2 := crcB_inj s s' c c hs hs' hc hc h1
    rw [Nat.xor_comm s, Nat.xor_comm s'] at h2
    exact xor_left c s s' h2
/-- a sum tells one changed byte -/
theorem crcL_one (a b : List Nat) (c c' : Nat) (ha : ∀ z ∈ a, z < 256) (hb : ∀ z ∈ b, z < 256) (hc : c < 256) (hc' : c' < 256) (s : Nat) (hs : s < 4294967296) (h : crcL s (a ++ c :: b) = crcL s (a ++ c' :: b)) : c = c' := by
  rw [crcL_append, crcL_append] at h
  have hl := crcL_lt a ha s hs
  have h1 := crcL_inj b hb (crcB (crcL s a) c) (crcB (crcL s a) c') (crcB_lt _ _ hl hc) (crcB_lt _ _ hl hc') h
  exact xor_left _ _ _ (crcB_inj _ _ _ _ hl hl hc hc' h1)
theorem crc_one (a b : List Nat) (c c' : Nat) (ha : ∀ z ∈ a, z < 256) (hb : ∀ z ∈ b, z < 256) (hc : c < 256) (hc' : c' < 256) (h : crc (a ++ c :: b) = crc (a ++ c' :: b)) : c = c' := by
  have hab : ∀ x, x < 256 → ∀ z ∈ a ++ x :: b, z < 256 := by
    intro x hx z hz
    rcases List.mem_append.1 hz with h | h
    · exact ha z h
    · rcases List.mem_cons.1 h with rfl | h
      · exact hx
      · exact hb z h
  have h1 := crcL_lt _ (hab c hc) 4294967295 (by decide)
  have h2 := crcL_lt _ (hab c' hc') 4294967295 (by decide)
  unfold crc at h
  exact crcL_one a b c c' ha hb hc hc' 4294967295 (by decide) (by omega)
end Crc

theorem le4_inj (a b : Nat) (ha : a < 4294967296) (hb : b < 4294967296) (h : le4 a = le4 b) : a = b := by
  rw [← le4_val a ha, ← le4_val b hb, h]
/-- two records' bytes that are of one length and part in one byte alone don't part -/
theorem enc_apart (ty ty' : Nat) (d d' : List Nat) (ht : ty < 256) (ht' : ty' < 256) (hd : ∀ z ∈ d, z < 256) (hd' : ∀ z ∈ d', z < 256) (hl : d.length = d'.length)
    (p : Nat) (h : ∀ i, i ≠ p → (enc ty d)[i]? = (enc ty' d')[i]?) : enc ty d = enc ty' d' := by
  have hc := crc_lt (encHead ty d ++ d)
  have hc' := crc_lt (encHead ty' d' ++ d')
  -- the parts
  have hty : p ≠ 4 → ty = ty' := fun hp => by
    have := h 4 (Ne.symm hp)
    simpa [enc, encHead, le4] using this
  have hcr : ∀ i, i < 4 → p ≠ 8 + i → (le4 (Crc.crc (encHead ty d ++ d)))[i]? = (le4 (Crc.crc (encHead ty' d' ++ d')))[i]? := fun i hi hp => by
    have h1 := h (8 + i) (Ne.symm hp)
    have e : ∀ t (x : List Nat), (enc t x)[8 + i]? = (le4 (Crc.crc (encHead t x ++ x)))[i]? := fun t x => by
      unfold enc
      have hh : (encHead t x).length = 8 := by simp [encHead, le4]
      rw [List.append_assoc, List.append_assoc, List.getElem?_append_right (by omega), List.getElem?_append_left (by rw [le4_len, hh]; omega), hh]
      congr 1
      omega
    rw [e, e] at h1
    exact h1
  have hda : ∀ i, i < d.length → p ≠ 12 + i → d[i]? = d'[i]? := fun i hi hp => by
    have h1 := h (12 + i) (Ne.symm hp)
    have e : ∀ t (x : List Nat), i < x.length → (enc t x)[12 + i]? = x[i]? := fun t x hx => by
      unfold enc
      have hh : (encHead t x ++ le4 (Crc.crc (encHead t x ++ x))).length = 12 := by simp [encHead, le4]
      rw [List.append_assoc, List.getElem?_append_right (by omega), hh, List.getElem?_append_left (by omega)]
      congr 1
      omega
    rw [e ty d hi, e ty' d' (by omega)] at h1
    exact h1
  by_cases hdd : d = d'
  · subst hdd
    by_cases htt : ty = ty'
    · subst htt; rfl
    · -- the types part: so p = 4, and the sums are one
      have hp4 : p = 4 := Classical.byContradiction fun hp => htt (hty hp)
      have hs : le4 (Crc.crc (encHead ty d ++ d)) = le4 (Crc.crc (encHead ty' d ++ d)) := by
        apply List.ext_getElem?
        intro i
        by_cases hi : i < 4
        · exact hcr i hi (by omega)
        · rw [List.getElem?_eq_none (by rw [le4_len]; omega), List.getElem?_eq_none (by rw [le4_len]; omega)]
      have he := le4_inj _ _ hc hc' hs
      exfalso
      apply htt
      have hd3 : ∀ z ∈ [0, 0, 0] ++ d, z < 256 := by
        intro z hz
        rcases List.mem_append.1 hz with h | h
        · simp at h; omega
        · exact hd z h
      refine Crc.crc_one (le4 d.length) ([0, 0, 0] ++ d) ty ty' (le4_lt _) hd3 ht ht' ?_
      simpa [encHead] using he
  · -- the payloads part: at one place, p lies in them: type and sum are one
    have hex : ∃ i, i < d.length ∧ d[i]? ≠ d'[i]? := Classical.byContradiction fun hn => hdd (by
      apply List.ext_getElem?
      intro i
      by_cases hi : i < d.length
      · exact Classical.byContradiction fun hne => hn ⟨i, hi, hne⟩
      · rw [List.getElem?_eq_none (by omega), List.getElem?_eq_none (by omega)])
    obtain ⟨i, hi, hne⟩ := hex
    have hp : p = 12 + i := Classical.byContradiction fun hp => hne (hda i hi hp)
    have htt : ty = ty' := hty (by omega)
    subst htt
    have hs : le4 (Crc.crc (encHead ty d ++ d)) = le4 (Crc.crc (encHead ty d' ++ d')) := by
      apply List.ext_getElem?
      intro j
      by_cases hj : j < 4
      · exact hcr j hj (by omega)
      · rw [List.getElem?_eq_none (by rw [le4_len]; omega), List.getElem?_eq_none (by rw [le4_len]; omega)]
    have he := le4_inj _ _ hc hc' hs
    have hrest : d' = d.take i ++ (d'[i]'(by omega)) :: d.drop (i + 1) := by
      apply List.ext_getElem?
      intro j
      by_cases hj : j < i
      · rw [List.getElem?_append_left (by simp; omega), List.getElem?_take, if_pos hj, ← hda j (by omega) (by omega)]
      · rw [List.getElem?_append_right (by simp; omega)]
        have hti : (d.take i).length = i := by simp; omega
        rw [hti]
        by_cases e : j = i
        · subst e; simp [List.getElem?_eq_getElem (show j < d'.length by omega)]
        · obtain ⟨q, rfl⟩ : ∃ q, j = i + 1 + q := ⟨j - i - 1, by omega⟩
          rw [show i + 1 + q - i = q + 1 by omega, List.getElem?_cons_succ, List.getElem?_drop]
          by_cases hq : i + 1 + q < d.length
          · rw [← hda (i + 1 + q) hq (by omega)]
          · rw [List.getElem?_eq_none (by omega), List.getElem?_eq_none (by omega)]
    have hself : d = d.take i ++ (d[i]'hi) :: d.drop (i + 1) := by
      rw [← List.drop_eq_getElem_cons hi, List.take_append_drop]
    exfalso
    apply hne
    rw [List.getElem?_eq_getElem hi, List.getElem?_eq_getElem (show i < d'.length by omega)]
    congr 1
    have hH : encHead ty d' = encHead ty d := by unfold encHead; rw [hl]
    rw [hH] at he
    have hzh : ∀ z ∈ encHead ty d ++ d.take i, z < 256 := by
      intro z hz
      rcases List.mem_append.1 hz with h | h
      · unfold encHead at h
        rcases List.mem_append.1 h with h | h
        · exact le4_lt _ z h
        · simp at h; omega
      · exact hd z (List.mem_of_mem_take h)
    refine Crc.crc_one (encHead ty d ++ d.take i) (d.drop (i + 1)) (d[i]'hi) (d'[i]'(by omega)) hzh (fun z hz => hd z (List.mem_of_mem_drop hz)) (hd _ (List.getElem_mem hi)) (hd' _ (List.getElem_mem _)) ?_
    rw [List.append_assoc, List.append_assoc, ← hself, ← hrest]
    exact he

/-- a record that may be laid down -/
def Good (p : Nat × List Nat) : Prop := 1 ≤ p.1 ∧ p.1 ≤ 255 ∧ p.2.length ≤ 8192 ∧ ∀ z ∈ p.2, z < 256
theorem enc_bytes (ty : Nat) (d : List Nat) (ht : ty < 256) (hd : ∀ z ∈ d, z < 256) : ∀ z ∈ enc ty d, z < 256 := by
  intro z hz
  unfold enc at hz
  rcases List.mem_append.1 hz with h | h
  · rcases List.mem_append.1 h with h | h
    · rcases List.mem_append.1 h with h | h
      · unfold encHead at h
        rcases List.mem_append.1 h with h | h
        · exact le4_lt _ z h
        · simp at h; omega
      · exact le4_lt _ z h
    · exact hd z h
  · have := List.eq_of_mem_replicate h; omega
theorem enc_take4 (ty : Nat) (d rest : List Nat) : (enc ty d ++ rest).take 4 = le4 d.length := by
  unfold enc encHead
  simp [le4]
theorem enc_recN (ty : Nat) (d rest : List Nat) (h : d.length < 4294967296) : recN (enc ty d ++ rest) = d.length := by
  unfold recN
  rw [enc_take4, le4_val _ h]
theorem enc_at4 (ty : Nat) (d rest : List Nat) : (enc ty d ++ rest).getD 4 0 = ty ∧ (enc ty d ++ rest).getD 5 0 = 0 ∧ (enc ty d ++ rest).getD 6 0 = 0 ∧ (enc ty d ++ rest).getD 7 0 = 0 := by
  unfold enc encHead
  simp [le4]
theorem enc_recSize (ty : Nat) (d rest : List Nat) (h : d.length < 4294967296) : recSize (enc ty d ++ rest) = (enc ty d).length := by
  unfold recSize
  rw [enc_recN ty d rest h, enc_len]
theorem enc_data (ty : Nat) (d rest : List Nat) (h : d.length < 4294967296) : recData (enc ty d ++ rest) = d := by
  unfold recData
  rw [enc_recN ty d rest h]
  unfold enc
  have hh : (encHead ty d ++ le4 (Crc.crc (encHead ty d ++ d))).length = 12 := by simp [encHead, le4]
  rw [List.append_assoc, List.append_assoc, List.drop_append, hh, List.drop_of_length_le (by omega)]
  simp
/-- laid down, and read -/
theorem fault_enc (p : Nat × List Nat) (hp : Good p) (rest : List Nat) (hr : ∀ z ∈ rest, z < 256) : ¬ (fault (enc p.1 p.2 ++ rest) ≠ 0 ∨ (enc p.1 p.2 ++ rest).length = 0) := by
  obtain ⟨h1, h2, h3, h4⟩ := hp
  have hl := enc_len p.1 p.2
  have hlen : 12 ≤ (enc p.1 p.2 ++ rest).length := by rw [List.length_append]; omega
  have hN := enc_recN p.1 p.2 rest (by omega)
  have hS := enc_recSize p.1 p.2 rest (by omega)
  have hD := enc_data p.1 p.2 rest (by omega)
  obtain ⟨b4, b5, b6, b7⟩ := enc_at4 p.1 p.2 rest
  have hb : ∀ z ∈ enc p.1 p.2 ++ rest, z < 256 := by
    intro z hz
    rcases List.mem_append.1 hz with h | h
    · exact enc_bytes _ _ (by omega) h4 z h
    · exact hr z h
  have hok : ¬ headBad (enc p.1 p.2 ++ rest) := by
    unfold headBad
    rw [hN, b4, b5, b6, b7]
    omega
  have hle : recSize (enc p.1 p.2 ++ rest) ≤ (enc p.1 p.2 ++ rest).length := by rw [hS, List.length_append]; omega
  have hw := (whole_eq _ hb hlen hok hle).1 (by rw [b4, hD, hS, List.take_append_of_le_length (Nat.le_refl _), List.take_of_length_le (Nat.le_refl _)])
  have hf : fault (enc p.1 p.2 ++ rest) = 0 := by
    unfold fault
    rw [if_neg (by omega), if_neg (by omega), if_neg hok, if_neg (by omega), if_neg hw.1, if_neg hw.2]
  rw [hf]
  omega
theorem scan_enc (p : Nat × List Nat) (hp : Good p) (rest : List Nat) (hr : ∀ z ∈ rest, z < 256) : scan (enc p.1 p.2 ++ rest) = (p :: (scan rest).1, (enc p.1 p.2).length + (scan rest).2.1, (scan rest).2.2) := by
  have hl := hp.2.2.1
  rw [scan_next _ (fault_enc p hp rest hr), enc_recSize _ _ _ (by omega), (enc_at4 p.1 p.2 rest).1]
  have hD := enc_data p.1 p.2 rest (by omega)
  unfold recData at hD
  rw [hD, List.drop_append, List.drop_of_length_le (Nat.le_refl _)]
  simp
def encAll (l : List (Nat × List Nat)) : List Nat := l.flatMap (fun p => enc p.1 p.2)
theorem encAll_bytes (l : List (Nat × List Nat)) (h : ∀ p ∈ l, Good p) : ∀ z ∈ encAll l, z < 256 := by
  intro z hz
  unfold encAll at hz
  obtain ⟨p, hp, hz'⟩ := List.mem_flatMap.1 hz
  have := h p hp
  exact enc_bytes _ _ (by have := this.2.1; omega) this.2.2.2 z hz'
/-- many, one behind the other, with whatever behind them -/
theorem scan_all (l : List (Nat × List Nat)) (h : ∀ p ∈ l, Good p) (rest : List Nat) (hr : ∀ z ∈ rest, z < 256) : scan (encAll l ++ rest) = (l ++ (scan rest).1, (encAll l).length + (scan rest).2.1, (scan rest).2.2) := by
  induction l with
  | nil => simp [encAll]
  | cons p l ih =>
    have hl := ih (fun q hq => h q (by simp [hq]))
    have e : encAll (p :: l) ++ rest = enc p.1 p.2 ++ (encAll l ++ rest) := by simp [encAll]
    rw [e, scan_enc p (h p (by simp)) (encAll l ++ rest) (by
      intro z hz
      rcases List.mem_append.1 hz with h' | h'
      · exact encAll_bytes l (fun q hq => h q (by simp [hq])) z h'
      · exact hr z h'), hl]
    simp [encAll, Nat.add_assoc]
theorem scan_nil : scan [] = ([], 0, 0) := by rw [scan_end _ (.inr rfl)]; rfl
/-- one byte of a record is changed, not in its length: it isn't a record any more -/
theorem fault_changed (p : Nat × List Nat) (hp : Good p) (rest : List Nat) (hr : ∀ z ∈ rest, z < 256) (i v : Nat) (h4 : 4 ≤ i) (hi : i < (enc p.1 p.2).length) (hv : v < 256) (hne : v ≠ (enc p.1 p.2).getD i 0) :
    fault ((enc p.1 p.2).set i v ++ rest) ≠ 0 := by
  intro hf
  have hl := hp.2.2.1
  have hbe := enc_bytes p.1 p.2 (by have := hp.2.1; omega) hp.2.2.2
  have hlen : ((enc p.1 p.2).set i v).length = (enc p.1 p.2).length := by simp
  have hL := enc_len p.1 p.2
  have hn : ¬ (fault ((enc p.1 p.2).set i v ++ rest) ≠ 0 ∨ ((enc p.1 p.2).set i v ++ rest).length = 0) := by
    rw [hf, List.length_append, hlen]
    omega
  obtain ⟨h12, hok, hle, hsum, hpad⟩ := fault_ok _ hn
  have hb : ∀ z ∈ (enc p.1 p.2).set i v ++ rest, z < 256 := by
    intro z hz
    rcases List.mem_append.1 hz with h | h
    · rcases List.mem_or_eq_of_mem_set h with h | h
      · exact hbe z h
      · omega
    · exact hr z h
  have hw := (whole_eq _ hb h12 hok hle).2 ⟨hsum, hpad⟩
  have hN : recN ((enc p.1 p.2).set i v ++ rest) = p.2.length := by
    have e : ((enc p.1 p.2).set i v ++ rest).take 4 = (enc p.1 p.2 ++ rest).take 4 := by
      rw [List.take_append_of_le_length (by rw [hlen]; omega), List.take_append_of_le_length (by omega)]
      apply List.ext_getElem?
      intro j
      rw [List.getElem?_take, List.getElem?_take]
      by_cases hj : j < 4
      · rw [if_pos hj, if_pos hj, List.getElem?_set_ne (by omega)]
      · rw [if_neg hj, if_neg hj]
    have h1 := enc_recN p.1 p.2 rest (by omega)
    unfold recN at h1 ⊢
    rw [e, h1]
  have hS : recSize ((enc p.1 p.2).set i v ++ rest) = (enc p.1 p.2).length := by unfold recSize; rw [hN, hL]
  have hdl : (recData ((enc p.1 p.2).set i v ++ rest)).length = p.2.length := by rw [recData_len _ (by rw [hN, List.length_append, hlen]; omega), hN]
  rw [hS, List.take_append_of_le_length (by omega), List.take_of_length_le (by omega)] at hw
  have hap := enc_apart p.1 (((enc p.1 p.2).set i v ++ rest).getD 4 0) p.2 (recData ((enc p.1 p.2).set i v ++ rest)) (by have := hp.2.1; omega) (hb _ (Crc.getD_mem _ 4 (by omega))) hp.2.2.2 (fun z hz => hb z (List.mem_of_mem_drop (List.mem_of_mem_take hz))) hdl.symm i (fun j hj => by
    rw [hw, List.getElem?_set_ne (Ne.symm hj)])
  rw [hw] at hap
  apply hne
  have h5 := congrArg (fun l => l.getD i 0) hap
  simp only [List.getD_eq_getElem?_getD] at h5 ⊢
  rw [List.getElem?_set_self hi] at h5
  simpa using h5.symm
theorem scan_changed (l : List (Nat × List Nat)) (h : ∀ q ∈ l, Good q) (p : Nat × List Nat) (hp : Good p) (rest : List Nat) (hr : ∀ z ∈ rest, z < 256) (i v : Nat) (h4 : 4 ≤ i) (hi : i < (enc p.1 p.2).length) (hv : v < 256) (hne : v ≠ (enc p.1 p.2).getD i 0) :
    (scan (encAll l ++ ((enc p.1 p.2).set i v ++ rest))).1 = l ∧ (scan (encAll l ++ ((enc p.1 p.2).set i v ++ rest))).2.1 = (encAll l).length ∧ (scan (encAll l ++ ((enc p.1 p.2).set i v ++ rest))).2.2 ≠ 0 := by
  have hf := fault_changed p hp rest hr i v h4 hi hv hne
  rw [scan_all l h _ (by
    intro z hz
    rcases List.mem_append.1 hz with h' | h'
    · rcases List.mem_or_eq_of_mem_set h' with h' | h'
      · exact enc_bytes _ _ (by have := hp.2.1; omega) hp.2.2.2 z h'
      · omega
    · exact hr z h'), scan_end _ (.inl hf)]
  exact ⟨by simp, by simp, hf⟩
end Go.Proofs.YteacgefklafofaaDoor
