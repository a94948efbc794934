/-
  Fault, Fault2, LogW3, LogW4, LogW5, CarW, CarW2
-/
import Derived.Test.YtjnegjgpkboocaaGreatDoorWal5
import Derived.Deep.QuietTactic
import Derived.BigQuiet
import Derived.Test.YtjnegjgpkboocaaGreatDoorWal4
import Derived.RangeFuncBox
import Derived.Shelf.Abstract
import Derived.Laws.EntriesVeiled
/-
  Why bytes don't begin with a record: the program's frameFault, walked.
-/
namespace Go.Proofs.YtjnegjgpkboocaaGreatDoor
open Go.RowKit

/-- the payload's length, as a record's head tells it -/
def recN (zs : List Nat) : Nat := leVal (zs.take 4)
abbrev headBad (zs : List Nat) : Prop := 8192 < recN zs ∨ zs.getD 4 0 = 0 ∨ zs.getD 5 0 ≠ 0 ∨ zs.getD 6 0 ≠ 0 ∨ zs.getD 7 0 ≠ 0
abbrev sumBad (zs : List Nat) : Prop := leVal ((zs.drop 8).take 4) ≠ Crc.crc (zs.take 8 ++ (zs.drop 12).take (recN zs))
def padBytes (zs : List Nat) : List Nat := (zs.drop (12 + recN zs)).take (pad (recN zs))
abbrev padBad (zs : List Nat) : Prop := ¬ ∀ z ∈ padBytes zs, z = 0
def recSize (zs : List Nat) : Nat := 12 + recN zs + pad (recN zs)
def fault (zs : List Nat) : Nat :=
  if zs.length = 0 then 0 else if zs.length < 12 then 1 else if headBad zs then 2 else if zs.length < recSize zs then 1
  else if sumBad zs then 3 else if padBad zs then 4 else 0
theorem recN_lt (zs : List Nat) (hb : ∀ z ∈ zs, z < 256) : recN zs < 4294967296 := by
  have h1 := leVal_lt (zs.take 4) (fun z hz => hb z (List.mem_of_mem_take hz))
  have h2 : (zs.take 4).length ≤ 4 := by simp; omega
  exact Nat.lt_of_lt_of_le h1 (Nat.le_trans (Nat.pow_le_pow_right (by decide) h2) (by decide))
theorem SlB.drop {w : World} {b off : Nat} {len : Nat} {zs : List Nat} (h : SlB w (some ⟨b, off, none⟩) len zs) (n : Nat) : SlB w (some ⟨b, off + n, none⟩) (len - n) (zs.drop n) := by
  obtain ⟨h1, h2, h3⟩ := h; refine ⟨by simp; omega, fun z hz => h2 z (List.mem_of_mem_drop hz), fun hn0 => ?_⟩; obtain ⟨b', off', he, hc⟩ := h3 (by omega)
  obtain ⟨rfl, rfl⟩ : b = b' ∧ off = off' := by simpa using he
  refine ⟨b, off + n, rfl, fun i hi => ?_⟩; rw [Nat.add_assoc, hc (n + i) (by omega)]
  simp [List.getD]
theorem SlB.cellAt {w : World} {b off : Nat} {len : Nat} {zs : List Nat} (h : SlB w (some ⟨b, off, none⟩) len zs) (i : Nat) (hi : i < len) : w.cell? ⟨b, off + i, none⟩ = some (.int .u8 ((zs.getD i 0 : Nat) : Int)) := by
  obtain ⟨b', off', he, hc⟩ := h.2.2 (by omega)
  obtain ⟨rfl, rfl⟩ : b = b' ∧ off = off' := by simpa using he
  exact hc i hi

set_option maxHeartbeats 1000000 in
theorem frameFault_short (oa : Option Addr) (len cap : Nat) (w : World) (h : len < 12) :
    Calls Tryz.prog 75 #[.slice oa len cap] w fun e w' => e = .returned (.int .i64 (if len = 0 then 0 else 1)) ∧ w' = w := by
  by_cases h0 : len = 0
  · subst h0; rw [if_pos rfl]
    go_enter Tryz.func75, Tryz.ntmps75
    go_wp2; go_ret; exact ⟨rfl, rfl⟩
  · rw [if_neg h0]
    go_enter Tryz.func75, Tryz.ntmps75
    go_wp2; go_ret; exact ⟨rfl, rfl⟩

set_option maxHeartbeats 2000000 in
theorem frameFault_head (b off : Nat) (len cap : Nat) (zs : List Nat) (w : World) (hsl : SlB w (some ⟨b, off, none⟩) len zs) (h12 : 12 ≤ len) (hm : len ≤ 1073741824) (hbad : headBad zs) :
    Calls Tryz.prog 75 #[.slice (some ⟨b, off, none⟩) len cap] w fun e w' => e = .returned (.int .i64 2) ∧ w' = w := by
  have HT : Hid (Calls _ _ _ _ _) := takeNumber_any _ len cap zs w hsl (by omega) hm; have hn := recN_lt zs hsl.2.1; have c4 := hsl.cellAt 4 (by omega); have c5 := hsl.cellAt 5 (by omega); have c6 := hsl.cellAt 6 (by omega); have c7 := hsl.cellAt 7 (by omega); have l4 : zs.getD 4 0 < 256 := hsl.2.1 _ (Crc.getD_mem _ _ (by have := hsl.1; omega)); have l5 : zs.getD 5 0 < 256 := hsl.2.1 _ (Crc.getD_mem _ _ (by have := hsl.1; omega)); have l6 : zs.getD 6 0 < 256 := hsl.2.1 _ (Crc.getD_mem _ _ (by have := hsl.1; omega)); have l7 : zs.getD 7 0 < 256 := hsl.2.1 _ (Crc.getD_mem _ _ (by have := hsl.1; omega))
  unfold headBad at hbad
  rw [show leVal (zs.take 4) = recN zs from rfl] at HT; generalize recN zs = n at *; generalize zs.getD 4 0 = z4 at *; generalize zs.getD 5 0 = z5 at *; generalize zs.getD 6 0 = z6 at *; generalize zs.getD 7 0 = z7 at *; clear hsl
  have hlI : (12 : Int) ≤ (len : Int) := by omega
  by_cases g0 : 8192 < n
  · clear hbad
    go_enter Tryz.func75, Tryz.ntmps75
    go_wp2_with fail; refine HT.out.mono ?_; clear HT; rintro e w1 ⟨rfl, rfl⟩; go_wp2; go_ret; exact ⟨rfl, rfl⟩
  · by_cases g4 : z4 = 0
    · clear hbad; subst g4
      go_enter Tryz.func75, Tryz.ntmps75
      go_wp2_with fail; refine HT.out.mono ?_; clear HT; rintro e w1 ⟨rfl, rfl⟩; go_wp2; go_ret; exact ⟨rfl, rfl⟩
    · by_cases g5 : z5 = 0
      · subst g5
        by_cases g6 : z6 = 0
        · subst g6
          have g7 : z7 ≠ 0 := by
            rcases hbad with h | h | h | h | h
            · exact absurd h g0
            · exact absurd h g4
            · exact absurd rfl h
            · exact absurd rfl h
            · exact h
          clear hbad
          have d7 : ((z7 : Int) != 0) = true := by rw [bne_iff_ne]; omega
          have d4 : ((z4 : Int) == 0) = false := by rw [beq_eq_false_iff_ne]; omega
          go_enter Tryz.func75, Tryz.ntmps75
          go_wp2_with fail; refine HT.out.mono ?_; clear HT; rintro e w1 ⟨rfl, rfl⟩; go_wp2; go_ret; exact ⟨rfl, rfl⟩
        · clear hbad
          go_enter Tryz.func75, Tryz.ntmps75
          go_wp2_with fail; refine HT.out.mono ?_; clear HT; rintro e w1 ⟨rfl, rfl⟩; go_wp2; go_ret; exact ⟨rfl, rfl⟩
      · clear hbad
        go_enter Tryz.func75, Tryz.ntmps75
        go_wp2_with fail; refine HT.out.mono ?_; clear HT; rintro e w1 ⟨rfl, rfl⟩; go_wp2; go_ret; exact ⟨rfl, rfl⟩
set_option maxHeartbeats 4000000
/-- a piece of bytes that came in, as the machine points at it -/
theorem SlB.cut {w : World} {b off : Nat} {len : Nat} {zs : List Nat} (h : SlB w (some ⟨b, off, none⟩) len zs) (i n cap : Nat) (hi : i + n ≤ len) (hc : len ≤ cap) : SlB w (if cap = i then some ⟨b, off, none⟩ else some ⟨b, off + i, none⟩) n ((zs.drop i).take n) := by
  by_cases hci : cap = i
  · rw [if_pos hci]
    obtain rfl : n = 0 := by omega
    exact ⟨by simp, by simp, fun h => absurd rfl h⟩
  · rw [if_neg hci]; exact (h.drop i).take n (by omega)
theorem grownBy_drewN (w : World) (n : Nat) : w.grownBy (w.drewN n) none := ⟨rfl, rfl, rfl, Nat.le_refl _, fun _ _ _ => rfl⟩
/-- what is right ahead of the sum's look -/
theorem frameFault_long (b off : Nat) (len cap : Nat) (zs : List Nat) (w : World) (hsl : SlB w (some ⟨b, off, none⟩) len zs) (ht : Tab w) (h12 : 12 ≤ len) (hlc : len ≤ cap) (hm : cap ≤ maxLen) (hm2 : len ≤ 1073741824) (hok : ¬ headBad zs) :
    Calls Tryz.prog 75 #[.slice (some ⟨b, off, none⟩) len cap] w fun e w' => e = .returned (.int .i64 ((fault zs : Nat) : Int)) ∧ w.grownBy w' none := by
  unfold maxLen at hm
  have HF : Hid (fault zs = if len < recSize zs then 1 else if sumBad zs then 3 else if padBad zs then 4 else 0) := by
    show _ = _
    have hl := hsl.1
    unfold fault
    rw [hl, if_neg (by omega), if_neg (by omega), if_neg hok]
  have HT : Hid (Calls _ _ _ _ _) := takeNumber_any _ len cap zs w hsl (by omega) hm2; have c4 := hsl.cellAt 4 (by omega); have c5 := hsl.cellAt 5 (by omega); have c6 := hsl.cellAt 6 (by omega); have c7 := hsl.cellAt 7 (by omega)
  obtain ⟨g0, g4, g5, g6, g7⟩ : recN zs ≤ 8192 ∧ zs.getD 4 0 ≠ 0 ∧ zs.getD 5 0 = 0 ∧ zs.getD 6 0 = 0 ∧ zs.getD 7 0 = 0 := by
    unfold headBad at hok
    refine ⟨?_, ?_, ?_, ?_, ?_⟩
    · exact Nat.le_of_not_lt fun h => hok (.inl h)
    · exact fun h => hok (.inr (.inl h))
    · exact Classical.byContradiction fun h => hok (.inr (.inr (.inl h)))
    · exact Classical.byContradiction fun h => hok (.inr (.inr (.inr (.inl h))))
    · exact Classical.byContradiction fun h => hok (.inr (.inr (.inr (.inr h))))
  have l4 : zs.getD 4 0 < 256 := hsl.2.1 _ (Crc.getD_mem _ _ (by have := hsl.1; omega)); rw [g5] at c5; rw [g6] at c6; rw [g7] at c7; have HS : Hid (SlB w _ len zs) := hsl; have HTab : Hid (Tab w) := ht; rw [show leVal (zs.take 4) = recN zs from rfl] at HT; obtain ⟨n, hn⟩ : ∃ n, recN zs = n := ⟨_, rfl⟩; have HN : Hid (recN zs = n) := hn; rw [hn] at HT g0; obtain ⟨z4, hz4⟩ : ∃ z, zs.getD 4 0 = z := ⟨_, rfl⟩; rw [hz4] at c4 l4 g4
  have hlI : (12 : Int) ≤ (len : Int) := by omega
  have d4 : ((z4 : Int) == 0) = false := by rw [beq_eq_false_iff_ne]; omega
  have d0 : decide ((8192 : Int) < (n : Int)) = false := by rw [decide_eq_false_iff_not]; omega
  have hp4 := pad_lt n
  have HP : Hid (∀ w', Calls _ _ _ w' _) := fun w' => padding_any n w' (by omega)
  obtain ⟨p, hp⟩ : ∃ p, pad n = p := ⟨_, rfl⟩; rw [hp] at HP hp4
  have HSZ : Hid (recSize zs = 12 + n + p) := by show _ = _; unfold recSize; rw [hn, hp]
  have HPE : Hid (pad n = p) := hp; clear hsl ht hok hn hz4 g5 g6 g7 hp
  by_cases hsh : len < 12 + n + p
  · rw [if_pos (by rw [HSZ.out]; exact hsh)] at HF
    go_enter Tryz.func75, Tryz.ntmps75
    go_wp2_with fail; refine HT.out.mono ?_; clear HT; rintro e w1 ⟨rfl, rfl⟩; go_wp2_with fail; refine (HP.out w1).mono ?_; clear HP; rintro e w2 ⟨rfl, rfl⟩; go_wp2; go_ret; exact ⟨by rw [HF.out]; rfl, grownBy_refl _ _⟩
  · have HT8 : Hid (∀ w', w'.heap = w.heap → Calls _ _ _ w' _) := fun w' hh => takeNumber_any _ (len - 8) (cap - 8) (zs.drop 8) w' ((HS.out.drop 8).heap hh) (by omega) (by omega)
    have HR : Hid (∀ w', w'.heap = w.heap → Calls _ _ _ w' _) := fun w' hh => recordSum_any _ len cap zs (if cap = 12 then some ⟨b, off, none⟩ else some ⟨b, off + 12, none⟩) n (cap - 12) ((zs.drop 12).take n) w' (HS.out.heap hh) (by omega) hlc (by unfold maxLen; omega) ((HS.out.cut 12 n cap (by omega) hlc).heap hh) (HTab.out.heap hh) (by omega)
    have hs1 : leVal ((zs.drop 8).take 4) < 4294967296 := by
      have h1 := leVal_lt ((zs.drop 8).take 4) (fun z hz => HS.out.2.1 z (List.mem_of_mem_drop (List.mem_of_mem_take hz)))
      have h2 : ((zs.drop 8).take 4).length ≤ 4 := by simp; omega
      exact Nat.lt_of_lt_of_le h1 (Nat.le_trans (Nat.pow_le_pow_right (by decide) h2) (by decide))
    have hs2 := crc_lt (zs.take 8 ++ (zs.drop 12).take n)
    have HSB : Hid (sumBad zs ↔ leVal ((zs.drop 8).take 4) ≠ Crc.crc (zs.take 8 ++ (zs.drop 12).take n)) := by show _ ↔ _; unfold sumBad; rw [HN.out]
    generalize leVal ((zs.drop 8).take 4) = S1 at HT8 hs1 HSB; generalize Crc.crc (zs.take 8 ++ (zs.drop 12).take n) = S2 at HR hs2 HSB; rw [if_neg (by rw [HSZ.out]; exact hsh)] at HF
    have hzI : (12 : Int) + n + p ≤ (len : Int) := by omega
    have hcI : (len : Int) ≤ (cap : Int) := by omega
    have hq0 : (0 : Int) ≤ (12 : Int) + n := by omega
    have hq1 : (12 : Int) + n ≤ (cap : Int) := by omega
    have hq2 : (12 : Int) ≤ (12 : Int) + n := by omega
    have hq3 : (8 : Int) ≤ (len : Int) := by omega
    have hq4 : ¬ cap = 8 := by omega
    obtain ⟨ad, had⟩ : ∃ ad : Option Addr, (if cap = 12 then some (⟨b, off, none⟩ : Addr) else some ⟨b, off + 12, none⟩) = ad := ⟨_, rfl⟩; rw [had] at HR
    by_cases hsum : S1 = S2
    · rw [if_neg (fun h => HSB.out.1 h hsum)] at HF; subst hsum
      have HPB : Hid (padBytes zs = (zs.drop (12 + n)).take p) := by show _ = _; unfold padBytes; rw [HN.out, HPE.out]
      obtain ⟨ad2, had2⟩ : ∃ ad : Option Addr, (if cap = 12 + n then some (⟨b, off, none⟩ : Addr) else some ⟨b, off + (12 + n), none⟩) = ad := ⟨_, rfl⟩; have HQ := HS.out.cut (12 + n) p cap (by omega) hlc; rw [had2, ← HPB.out] at HQ; have HQ2 : Hid (SlB w ad2 p (padBytes zs)) := HQ
      have hq5 : (12 : Int) + n ≤ (12 : Int) + n + p := by omega
      have hq6 : (12 : Int) + n + p ≤ (cap : Int) := by omega
      clear HQ
      go_enter Tryz.func75, Tryz.ntmps75
      go_wp2_with fail; refine HT.out.mono ?_; clear HT; rintro e w1 ⟨rfl, rfl⟩; go_wp2_with fail; refine (HP.out w1).mono ?_; rintro e w2 ⟨rfl, rfl⟩; go_wp2
      go_quiet (first | (go_at_call 76; refine Calls.quiet_of_same (HT8.out _ rfl)) | (go_at_call 85; refine Calls.quiet_of_same (HR.out _ rfl)) | fail)
      go_wp2_with fail; refine (HP.out _).mono ?_; rintro e w2' ⟨rfl, rfl⟩; clear HT8 HR HP c4 c5 c6 c7 had; have hl : (padBytes zs).length = p := HQ2.out.1
      have HQC : Hid (∀ k, k < p → w2.cell? ⟨b, off + (12 + n) + k, none⟩ = some (.int .u8 (((padBytes zs).getD k 0 : Nat) : Int))) := by
        intro k hk
        have hcn : ¬ cap = 12 + n := by omega
        have h1 := HQ2.out; rw [← had2, if_neg hcn] at h1; exact h1.cellAt k hk
      have HQ0 : Hid (cap = 12 + n → p = 0) := fun h => by omega
      have HQB : Hid (∀ z ∈ padBytes zs, z < 256) := HQ2.out.2.1; clear had2 HQ2 HSB; go_wp2
      all_goals
        go_loop [70] (fun i => ∃ k : Nat, k ≤ p ∧ i = .int .i64 (k : Int) ∧ ∀ j, j < k → (padBytes zs).getD j 0 = 0) (fun i => p - (intOf i).toNat)
        case atStart => exact ⟨0, Nat.zero_le _, rfl, fun j hj => by omega⟩
        case round =>
          obtain ⟨k, hk, rfl, hz⟩ := hrel; have HZ : Hid (∀ j, j < k → _) := hz; clear hz
          by_cases hlt : k < p
          · first
              | (exfalso; have := HQ0.out (by assumption); omega)
              | have hck := HQC.out k hlt
                obtain ⟨c, hce⟩ : ∃ c, (padBytes zs).getD k 0 = c := ⟨_, rfl⟩
                have hcm : c ∈ padBytes zs := by rw [← hce]; exact Crc.getD_mem _ _ (by omega)
                have hc256 := HQB.out c hcm; rw [hce] at hck; have HCE : Hid ((padBytes zs).getD k 0 = c ∧ c ∈ padBytes zs) := ⟨hce, hcm⟩; clear hce hcm
                by_cases hc0 : c = 0
                · subst hc0; go_wp2
                  go_round
                  case rel =>
                    refine ⟨k + 1, by omega, by go_num, fun j hj => ?_⟩
                    by_cases hjk : j = k
                    · rw [hjk]; exact HCE.out.1
                    · exact HZ.out j (by omega)
                  case measure => simp [intOf]; omega
                · have hcn : ((c : Int) != 0) = true := by rw [bne_iff_ne]; omega
                  go_wp2; go_ret; refine ⟨?_, grownBy_drewN _ _⟩; rw [HF.out, if_pos (show padBad zs from fun h => hc0 (h c HCE.out.2))]
                  rfl
          · obtain rfl : k = p := by omega
            have HG : Hid (¬ padBad zs) := by
              intro hb
              refine hb fun z hzm => ?_
              obtain ⟨j, hj, rfl⟩ := List.getElem_of_mem hzm; have := HZ.out j (by omega)
              simpa [List.getD_eq_getElem?_getD, List.getElem?_eq_getElem hj] using this
            go_wp2; go_ret; refine ⟨?_, grownBy_drewN _ _⟩; rw [HF.out, if_neg HG.out]
            rfl
    · rw [if_pos (HSB.out.2 hsum)] at HF
      have hne : ((S1 : Int) != (S2 : Int)) = true := by rw [bne_iff_ne]; omega
      have hne2 : ((S1 : Int) == (S2 : Int)) = false := by rw [beq_eq_false_iff_ne]; omega
      have hne3 : ¬ (S1 : Int) = (S2 : Int) := by omega
      go_enter Tryz.func75, Tryz.ntmps75
      go_wp2_with fail; refine HT.out.mono ?_; clear HT; rintro e w1 ⟨rfl, rfl⟩; go_wp2_with fail; refine (HP.out w1).mono ?_; clear HP; rintro e w2 ⟨rfl, rfl⟩; go_wp2
      go_quiet (first | (go_at_call 76; refine Calls.quiet_of_same (HT8.out _ rfl)) | (go_at_call 85; refine Calls.quiet_of_same (HR.out _ rfl)) | fail)
      go_wp2; go_ret; exact ⟨by rw [HF.out]; rfl, grownBy_drewN _ _⟩

/-- frameFault, at any bytes -/
theorem frameFault_any (oa : Option Addr) (len cap : Nat) (zs : List Nat) (w : World) (hsl : SlB w oa len zs) (ht : Tab w) (hlc : len ≤ cap) (hm : cap ≤ maxLen) (hm2 : len ≤ 1073741824) :
    Calls Tryz.prog 75 #[.slice oa len cap] w fun e w' => e = .returned (.int .i64 ((fault zs : Nat) : Int)) ∧ w.grownBy w' none := by
  have hl := hsl.1
  by_cases h12 : len < 12
  · refine (frameFault_short oa len cap w h12).mono ?_; rintro e w' ⟨rfl, rfl⟩; refine ⟨?_, grownBy_refl _ _⟩
    unfold fault
    rw [hl]
    by_cases h0 : len = 0
    · rw [if_pos h0, if_pos h0]; rfl
    · rw [if_neg h0, if_neg h0, if_pos h12]; rfl
  · obtain ⟨b, off, rfl, -⟩ := hsl.2.2 (by omega)
    by_cases hb : headBad zs
    · refine (frameFault_head b off len cap zs w hsl (by omega) hm2 hb).mono ?_; rintro e w' ⟨rfl, rfl⟩; refine ⟨?_, grownBy_refl _ _⟩
      unfold fault
      rw [hl, if_neg (by omega), if_neg h12, if_pos hb]
      rfl
    · exact frameFault_long b off len cap zs w hsl ht (by omega) hlc hm hm2 hb
/-- a log told -/
structure Pl where
  base : Nat
  bt : Nat
  es : List (Nat × List Nat)
def Pl.last (p : Pl) : Nat := p.base + p.es.length
def Pl.term (p : Pl) (i : Nat) : Nat := ltm p.base p.bt (p.es.map Prod.fst) i
def Lg.pl (L : Lg) : Pl := ⟨L.base, L.bt, L.E.map En.tell⟩
theorem Lg.pl_last (L : Lg) : L.pl.last = L.last := by simp [Lg.pl, Pl.last, Lg.last]
theorem Lg.pl_term (L : Lg) (i : Nat) : L.pl.term i = L.term i := by simp [Lg.pl, Pl.term, Lg.term, En.tell, Function.comp_def]
def headStep (p : Pl) (num : Nat) (fst hd : Bool) (n0 n1 n2 : Nat) : Option Pl :=
  if hd = true ∧ num = n0 then (if fst = true then some ⟨n1 - 1, n2, []⟩ else if n1 = p.last + 1 ∧ n2 = p.term p.last then some p else none) else none
def putStep (p : Pl) (n0 n1 : Nat) (d : List Nat) : Option Pl := if n0 = p.last + 1 ∧ p.term p.last ≤ n1 then some { p with es := p.es ++ [(n1, d)] } else none
def cutStep (p : Pl) (n0 n1 : Nat) : Option Pl :=
  if n0 - 1 < p.base then some ⟨n0 - 1, n1, []⟩ else if n0 - 1 ≤ p.last ∧ p.term (n0 - 1) = n1 then some { p with es := p.es.take (n0 - 1 - p.base) } else none
/-- what carrying a record out leaves -/
def Outc (w : World) (R B : Nat) (tl : List Value) (pre : List (Nat × Nat)) (num : Nat) (o : Option Pl) (e : Ending) (w' : World) : Prop :=
  RowsW w R B w' ∧ ((∃ (L' : Lg) (f' : Nat), o = some L'.pl ∧ e = .returned (.bool true) ∧ LogIn w' R B tl L' ∧ L'.S = pre ++ [(num, f')] ∧ f' ≠ 0) ∨ (o = none ∧ e = .returned (.bool false)))
theorem owns_put {w : World} {B e n g cap i : Nat} {u : Value} {xs : List Value} (h : w.ownsRow B e 2 (.slice (some ⟨g, 0, none⟩) n cap) n xs) : (w.setCell ⟨g, i, none⟩ u).ownsRow B e 2 (.slice (some ⟨g, 0, none⟩) n cap) n (xs.set i u) := by
  obtain ⟨hl, ⟨h1, -⟩ | ⟨g', cap', cur, h1, hb, hg', h2, h3, h4, h5⟩⟩ := h
  · simp at h1
  · simp only [Value.slice.injEq, Option.some.injEq, Addr.mk.injEq, and_true, true_and] at h1; obtain ⟨rfl, rfl⟩ := h1; exact ⟨by simpa using hl, .inr ⟨g, cap, _, rfl, hb, heap_setCell_same w g i _ _ _ hg', h2, h3, by simpa using h4, by rw [← h5]; simp [List.take_set]⟩⟩
theorem owns_type {w : World} {B e n g : Nat} {v : Value} {xs : List Value} (h : w.ownsRow B e 2 v n xs) (hg : v.ownBlock = some g) : ∃ cur, w.heap[g]? = some (.cells cur e (0, 0)) := by
  obtain ⟨hl, ⟨h1, -⟩ | ⟨g', cap', cur, h1, hb, hg', h2⟩⟩ := h
  · rw [h1] at hg; simp [Value.ownBlock] at hg
  · rw [h1] at hg; simp only [Value.ownBlock, Option.some.injEq] at hg; subst hg; exact ⟨cur, hg'⟩
theorem owns_ne {w w' : World} {B e n g : Nat} {v : Value} {xs : List Value} (h : w.ownsRow B e 2 v n xs) {cur : Array Value} {e' : TypeId} {f : Nat × Nat} (hg : w.heap[g]? = some (.cells cur e' f)) (hne : e ≠ e') (hk : ∀ k, k ≠ g → k < w.heap.size → w'.heap[k]? = w.heap[k]?) : w'.ownsRow B e 2 v n xs := by
  obtain ⟨hl, h1 | ⟨g', cap', cur', h1, hb, hg', h2⟩⟩ := h
  · exact ⟨hl, .inl h1⟩
  · refine ⟨hl, .inr ⟨g', cap', cur', h1, hb, (hk g' ?_ (Array.getElem?_eq_some_iff.1 hg').1).trans hg', h2⟩⟩; rintro rfl; rw [hg] at hg'; have := Option.some.inj hg'
    injection this with _ h9 _
    exact hne h9.symm
theorem own_ne {w w' : World} {g k : Nat} {zs : List Nat} (h : Own w 5 k zs) {cur : Array Value} {e' : TypeId} {f : Nat × Nat} (hg : w.heap[g]? = some (.cells cur e' f)) (hne : 5 ≠ e') (hk : ∀ k, k ≠ g → k < w.heap.size → w'.heap[k]? = w.heap[k]?) : Own w' 5 k zs := by
  refine h.of_block (hk k ?_ h.lt); rintro rfl; exact hne (own_type h hg)
theorem flat_last (pre : List (Nat × Nat)) (a b : Nat) : (pre ++ [(a, b)]).flatMap sgCells = pre.flatMap sgCells ++ [.int .i64 (a : Int), .int .i64 (b : Int)] := by simp [sgCells]
theorem flat_len (pre : List (Nat × Nat)) : (pre.flatMap sgCells).length = pre.length * 2 := by
  induction pre with
  | nil => rfl
  | cons a l ih => simp only [List.flatMap_cons, List.length_append, ih]; simp [sgCells]; omega
theorem LogIn.svAt {w : World} {R B : Nat} {tl : List Value} {L : Lg} (h : LogIn w R B tl L) {pre : List (Nat × Nat)} {num f : Nat} (hS : L.S = pre ++ [(num, f)]) : ∃ g cap, L.sv = .slice (some ⟨g, 0, none⟩) (pre.length + 1) cap ∧ B ≤ g ∧ w.cell? ⟨g, pre.length * 2, none⟩ = some (.int .i64 (num : Int)) ∧ w.cell? ⟨g, pre.length * 2 + 1, none⟩ = some (.int .i64 (f : Int)) ∧ (∀ o, w.frozen? ⟨g, o, none⟩ = false) ∧ g < w.heap.size := by
  have hs := h.seg; rw [hS, flat_last] at hs; have l0 := flat_len pre; obtain ⟨g, cap, h1, h2, -, -, h3, h4, h5⟩ := own_at hs (i := pre.length * 2) (u := .int .i64 (num : Int)) (by rw [← l0]; simp); obtain ⟨g', cap', h1', -, -, -, h3', -⟩ := own_at hs (i := pre.length * 2 + 1) (u := .int .i64 (f : Int)) (by rw [← l0]; simp); rw [h1] at h1'; simp only [Value.slice.injEq, Option.some.injEq, Addr.mk.injEq, and_true, true_and] at h1'; obtain ⟨rfl, rfl⟩ := h1'; exact ⟨g, cap, by rw [h1]; simp, h2, h3, h3', h4, h5⟩
theorem LogIn.setFirst {w : World} {R B : Nat} {tl : List Value} {L : Lg} (h : LogIn w R B tl L) {pre : List (Nat × Nat)} {num f g cap : Nat} (hS : L.S = pre ++ [(num, f)]) (hsv : L.sv = .slice (some ⟨g, 0, none⟩) (pre.length + 1) cap) (x : Nat) : LogIn (w.setCell ⟨g, pre.length * 2 + 1, none⟩ (.int .i64 (x : Int))) R B tl { L with S := pre ++ [(num, x)] } := by
  have hs := h.seg; rw [hsv, hS] at hs
  have hl : (pre ++ [(num, f)]).length = pre.length + 1 := by simp
  rw [hl] at hs; obtain ⟨cur, hg⟩ := owns_type hs (g := g) rfl; have hgB : B ≤ g := (hs.lt g rfl).1
  have hk : ∀ k, k ≠ g → k < w.heap.size → (w.setCell ⟨g, pre.length * 2 + 1, none⟩ (.int .i64 (x : Int))).heap[k]? = w.heap[k]? := fun k hk _ => heap_setCell_other w ⟨g, _, none⟩ k _ hk
  have hlow := h.low; refine ⟨(hk R (by omega) (Array.getElem?_eq_some_iff.1 h.box).1).trans h.box, owns_ne h.ent hg (by decide) hk, fun e he => ⟨(h.own e he).1, own_ne (h.own e he).2.1 hg (by decide) hk, (h.own e he).2.2⟩, h.apart, ?_, h.low, ⟨h.sm.1, h.sm.2.1, by have := h.sm.2.2.1; rw [hS] at this; simpa using this, h.sm.2.2.2⟩⟩; have h9 := owns_put (i := pre.length * 2 + 1) (u := .int .i64 (x : Int)) hs
  show World.ownsRow _ _ _ _ L.sv (pre ++ [(num, x)]).length ((pre ++ [(num, x)]).flatMap sgCells)
  rw [hsv]
  have e1 : (pre ++ [(num, x)]).length = pre.length + 1 := by simp
  have e2 : ((pre ++ [(num, f)]).flatMap sgCells).set (pre.length * 2 + 1) (.int .i64 (x : Int)) = (pre ++ [(num, x)]).flatMap sgCells := by
    rw [flat_last, flat_last, List.set_append_right _ _ (by rw [flat_len]; omega), flat_len]
    simp
  rw [e1, ← e2]; exact h9
theorem RowsW.drewN {w w' : World} {R B m : Nat} (h : RowsW w R B w') : RowsW w R B (w'.drewN m) := ⟨h.os, h.tape, h.output, h.size, h.block⟩
set_option maxRecDepth 8000 in
set_option maxHeartbeats 4000000 in
theorem begin_any (n0 n1 n2 : Nat) (dv : Value) (R B : Nat) (tl : List Value) (L : Lg) (pre : List (Nat × Nat)) (num f : Nat) (w : World) (h : LogIn w R B tl L) (hS : L.S = pre ++ [(num, f)]) (h0 : n0 ≤ 1073741824) (h1 : 1 ≤ n1) (h1' : n1 ≤ 1000000) (h2 : n2 ≤ 1000000000) :
    Calls Tryz.prog 53 #[.pointer (some ⟨R, 0, none⟩), .agg #[.int .i64 (n0 : Int), .int .i64 (n1 : Int), .int .i64 (n2 : Int)], dv] w
      (Outc w R B tl pre num (headStep L.pl num (decide (pre = [])) (decide (f = 0)) n0 n1 n2)) := by
  have hsm := h.sm; obtain ⟨g, cap, hsv, hgB, q0, q1, qf, hgl⟩ := h.svAt hS
  have hpl : pre.length ≤ 1000 := by have := hsm.2.2.1; rw [hS] at this; simp at this; omega
  have HL : Hid (LogIn w R B tl L ∧ L.S = pre ++ [(num, f)] ∧ L.sv = .slice (some ⟨g, 0, none⟩) (pre.length + 1) cap) := ⟨h, hS, hsv⟩; clear hS hsv; have hA := World.grownBy_alloc w (.cells #[.int .i64 (n0 : Int), .int .i64 (n1 : Int), .int .i64 (n2 : Int)] 123) none; have hLA := h.grown0 hA; have hnew : (w.alloc (.cells #[.int .i64 (n0 : Int), .int .i64 (n1 : Int), .int .i64 (n2 : Int)] 123)).heap[w.heap.size]? = some (.cells #[.int .i64 (n0 : Int), .int .i64 (n1 : Int), .int .i64 (n2 : Int)] 123 (0, 0)) := heap_alloc_new w _
  go_enter Tryz.func53, Tryz.ntmps53
  go_wp2; obtain ⟨W, hW⟩ : ∃ W, w.alloc (.cells #[.int .i64 (n0 : Int), .int .i64 (n1 : Int), .int .i64 (n2 : Int)] 123) = W := ⟨_, rfl⟩; rw [hW] at hA hLA hnew ⊢
  have c0 : W.cell? ⟨w.heap.size, 0, none⟩ = some (.int .i64 (n0 : Int)) := by simp [World.cell?, hnew]
  have c1 : W.cell? ⟨w.heap.size, 1, none⟩ = some (.int .i64 (n1 : Int)) := by simp [World.cell?, hnew]
  have c2 : W.cell? ⟨w.heap.size, 2, none⟩ = some (.int .i64 (n2 : Int)) := by simp [World.cell?, hnew]
  have HC : Hid (∀ w', w'.heap = W.heap → Calls _ _ _ w' _) := fun w' hh => current_any R B tl L w' (hLA.heap hh) g pre.length cap HL.out.2.2 hpl
  have HA : Hid (w.grownBy W none ∧ LogIn W R B tl L) := ⟨hA, hLA⟩; clear hnew hW h; go_quiet (fail); go_wp2_with fail; refine (HC.out (W.drewN nq) rfl).mono ?_; rintro e w1 ⟨rfl, m, rfl⟩; have r0 : ((W.drewN nq).drewN m).cell? ⟨g, pre.length * 2, none⟩ = some (.int .i64 (num : Int)) := ((bcell hA).1 _ _ hgl).trans q0; have r1 : ((W.drewN nq).drewN m).cell? ⟨g, pre.length * 2 + 1, none⟩ = some (.int .i64 (f : Int)) := ((bcell hA).1 _ _ hgl).trans q1; have r2 : ((W.drewN nq).drewN m).frozen? ⟨g, pre.length * 2 + 1, none⟩ = false := ((bcell hA).2 _ _ hgl).trans (qf _); have HW1 : Hid (w.grownBy ((W.drewN nq).drewN m) none ∧ LogIn ((W.drewN nq).drewN m) R B tl L) := ⟨grownBy_trans (grownBy_trans HA.out.1 (grownBy_drewN _ _)) (grownBy_drewN _ _), HA.out.2.heap rfl⟩; generalize (W.drewN nq).drewN m = W1 at r0 r1 r2 HW1 ⊢; clear HC hA hLA c0 c1 c2 q0 q1 qf HA
  by_cases hf : f = 0
  · subst hf
    by_cases hn : num = n0
    · subst hn
      have d1 : ((num : Int) != (num : Int)) = false := by simp
      have hL2 := HW1.out.2.setFirst HL.out.2.1 HL.out.2.2 n1
      have hR2 : RowsW w R B (W1.setCell ⟨g, pre.length * 2 + 1, none⟩ (.int .i64 (n1 : Int))) := by
        refine RowsW.trans (RowsW.of_grown0 HW1.out.1) ?_; refine RowsW.of_row (v := L.sv) ?_ HW1.out.2.seg (.inr rfl); rw [HL.out.2.2]; exact grownBy_setCell (grownBy_refl _ _)
      obtain ⟨-, -, -, c3, -⟩ := hL2.cells
      have c3' : (W1.setCell ⟨g, pre.length * 2 + 1, none⟩ (.int .i64 (n1 : Int))).cell? ⟨R, 3, none⟩ = some (.slice (some ⟨g, 0, none⟩) (pre.length + 1) cap) := by rw [c3]; exact congrArg some HL.out.2.2
      clear c3; have HW2 : Hid (_ ∧ _) := And.intro hL2 hR2; clear hL2 hR2; obtain ⟨W2, hW2⟩ : ∃ W2, W1.setCell ⟨g, pre.length * 2 + 1, none⟩ (.int .i64 (n1 : Int)) = W2 := ⟨_, rfl⟩; rw [hW2] at HW2 c3'; have HX2 : Hid (W1.setCell ⟨g, pre.length * 2 + 1, none⟩ (.int .i64 (n1 : Int)) = W2) := hW2; clear hW2
      rcases Classical.em (pre = []) with hp | hp
      · have d2 : (((pre.length + 1 : Nat) : Int) == 1) = true := by rw [hp]; rfl
        have HP : Hid (pre = []) := hp; clear hp; obtain ⟨b1, hb1⟩ : ∃ b1, n1 - 1 = b1 := ⟨_, rfl⟩; have HST : Hid (Calls _ _ _ W2 _) := startAt_any b1 n2 R B tl { L with S := pre ++ [(num, n1)] } W2 HW2.out.1 (by omega) h2
        have v1 : IntKind.i64.wrap ((n1 : Int) - 1) = (b1 : Int) := by rw [IntWalk.i64_in _ (by omega)]; omega
        have HB1 : Hid (n1 - 1 = b1) := hb1; clear hb1; have c4 := c3'; rw [← HX2.out] at c4; go_wp2_with fail; rw [HX2.out]; clear c4 r0 r1 r2 HX2; refine HST.out.mono ?_; rintro e w3 ⟨⟨v, rfl⟩, h3, h4⟩; have H5 : Hid (_ ∧ _) := And.intro h3 h4; clear h3 h4 HST; go_wp2; go_ret; refine ⟨HW2.out.2.trans (RowsW.of_box H5.out.2), .inl ⟨_, n1, ?_, rfl, H5.out.1, rfl, by omega⟩⟩; rw [headStep, if_pos ⟨by simp, rfl⟩, if_pos (by simpa using HP.out), HB1.out]
        rfl
      · have hpos : 0 < pre.length := by cases pre with | nil => exact absurd rfl hp | cons a l => simp
        have d2 : (((pre.length + 1 : Nat) : Int) == 1) = false := by rw [beq_eq_false_iff_ne]; omega
        have HLA : Hid (∀ w', w'.heap = W2.heap → Calls _ _ _ w' _) := fun w' hh => last_any R B tl { L with S := pre ++ [(num, n1)] } w' (HW2.out.1.heap hh)
        have HLT : Hid (∀ w', w'.heap = W2.heap → Calls _ _ _ w' _) := fun w' hh => lastTerm_any R B tl { L with S := pre ++ [(num, n1)] } w' (HW2.out.1.heap hh)
        have e1 : ({ L with S := pre ++ [(num, n1)] } : Lg).last = L.last := rfl; have e2 : ({ L with S := pre ++ [(num, n1)] } : Lg).term = L.term := rfl; rw [e1] at HLA; rw [e1, e2] at HLT; clear e1 e2; have hlb : L.last ≤ 1000000 := hsm.1; obtain ⟨la, hla⟩ : ∃ x, L.last = x := ⟨_, rfl⟩; obtain ⟨lt, hlt⟩ : ∃ x, L.term L.last = x := ⟨_, rfl⟩; rw [hlt] at HLT; rw [hla] at HLA hlb; have HE : Hid (L.pl.last = la ∧ L.pl.term L.pl.last = lt) := ⟨by rw [Lg.pl_last, hla], by rw [Lg.pl_last, Lg.pl_term, hlt]⟩; clear hla hlt; have v1 : IntKind.i64.wrap ((la : Int) + 1) = la + 1 := IntWalk.i64_in _ (by omega)
        rcases Classical.em (n1 = la + 1) with hc | hc
        · have d3 : ((n1 : Int) == (la : Int) + 1) = true := by rw [beq_iff_eq]; omega
          have HCC : Hid (n1 = la + 1) := hc; clear hc; have c4 := c3'; rw [← HX2.out] at c4; go_wp2_with fail; rw [HX2.out]; clear c4 r0 r1 r2 HX2; refine (HLA.out W2 rfl).mono ?_; rintro e w3 ⟨rfl, m1, rfl⟩; go_wp2_with fail; refine (HLT.out (W2.drewN m1) rfl).mono ?_; rintro e w3 ⟨rfl, m2, rfl⟩; go_wp2; go_ret; refine ⟨HW2.out.2.drewN, ?_⟩
          by_cases hd : n2 = lt
          · refine .inl ⟨{ L with S := pre ++ [(num, n1)] }, n1, ?_, by rw [hd]; simp, HW2.out.1.heap rfl, rfl, by omega⟩; rw [headStep, if_pos ⟨by simp, rfl⟩, if_neg (by simpa using hp), if_pos ⟨by rw [HE.out.1]; exact HCC.out, by rw [HE.out.2]; exact hd⟩]
            rfl
          · refine .inr ⟨?_, ?_⟩
            · rw [headStep, if_pos ⟨by simp, rfl⟩, if_neg (by simpa using hp), if_neg (fun hcc => hd (by rw [HE.out.2] at hcc; exact hcc.2))]
            · exact ret_bool (by first | (simp; omega) | (simp; exact hd))
        · have d3 : ((n1 : Int) == (la : Int) + 1) = false := by rw [beq_eq_false_iff_ne]; omega
          have c4 := c3'; rw [← HX2.out] at c4; go_wp2_with fail; rw [HX2.out]; clear c4 r0 r1 r2 HX2; refine (HLA.out W2 rfl).mono ?_; rintro e w3 ⟨rfl, m1, rfl⟩; go_wp2; go_ret; refine ⟨HW2.out.2.drewN, .inr ⟨?_, rfl⟩⟩; rw [headStep, if_pos ⟨by simp, rfl⟩, if_neg (by simpa using hp), if_neg (fun hcc => hc (by rw [HE.out.1] at hcc; exact hcc.1))]
    · have d1 : ((num : Int) != (n0 : Int)) = true := by rw [bne_iff_ne]; omega
      go_wp2; go_ret; refine ⟨RowsW.of_grown0 HW1.out.1, .inr ⟨?_, rfl⟩⟩; rw [headStep, if_neg (fun hc => hn hc.2)]
  · have d1 : ((f : Int) != 0) = true := by rw [bne_iff_ne]; omega
    go_wp2; go_ret; refine ⟨RowsW.of_grown0 HW1.out.1, .inr ⟨?_, rfl⟩⟩; rw [headStep, if_neg (fun hc => hf (by simpa using hc.1))]
theorem Tryz.infoEnt : (Tryz.prog.info? 47).map (fun i => (i.zero, i.size, i.bytes)) = some (some (.agg #[.int .i64 0, .slice none 0 0]), 2, 32) := by kernel_rfl
theorem ltm_le {base bt : Nat} {ts : List Nat} {i M : Nat} (hb : bt ≤ M) (ht : ∀ t ∈ ts, t ≤ M) : ltm base bt ts i ≤ M := by
  unfold ltm
  split
  · exact hb
  · split
    · exact Nat.zero_le _
    · rw [List.getD_eq_getElem?_getD]
      cases h : ts[i - base - 1]? with
      | none => exact Nat.zero_le _
      | some t => exact ht t (List.mem_of_getElem? h)
theorem LogIn.term_le {w : World} {R B : Nat} {tl : List Value} {L : Lg} (h : LogIn w R B tl L) (i : Nat) : L.term i ≤ 1000000000 :=
  ltm_le h.sm.2.1 (fun t ht => by
    obtain ⟨e, he, rfl⟩ := List.mem_map.1 ht
    exact (h.sm.2.2.2 e he).1)
theorem LogIn.put {w w' w'' : World} {R B : Nat} {tl : List Value} {L : Lg} {v' : Value} {e : En} (h : LogIn w R B tl L) (hO : Own w 5 e.g e.D) (hl : e.off + e.n ≤ e.D.length) (hb : B ≤ e.g) (hn : e.g ∉ L.E.map En.g) (hlast : L.last + 1 ≤ 1000000) (ht : e.t ≤ 1000000000) (hen : e.n ≤ 8192)
    (hown : w'.ownsRow B 47 2 v' (L.E.length + 1) (L.E.flatMap En.cells ++ e.cells)) (hg : w.grownBy w' L.ev.ownBlock) (hw'' : w'' = w'.setCell ⟨R, 2, none⟩ v') : LogIn w'' R B tl { L with E := L.E ++ [e], ev := v' } ∧ RowsW w R B w'' := by
  subst hw''; have hlow := h.low
  have hbk : ∀ (k : Nat) (cur : Array Value) (t : TypeId) (f : Nat × Nat), w.heap[k]? = some (Obj.cells cur t f) → t ≠ 47 → w'.heap[k]? = w.heap[k]? := by
    intro k cur t f hk ht'; refine hg.block k (Array.getElem?_eq_some_iff.1 hk).1 (fun hc => ?_); obtain ⟨cur', hk'⟩ := owns_type h.ent hc.symm; rw [hk'] at hk; have := Option.some.inj hk
    injection this with _ h9 _
    exact ht' h9.symm
  have hR' : w'.heap[R]? = w.heap[R]? := hbk R _ _ _ h.box (by decide)
  have hoth : ∀ k, k ≠ R → (w'.setCell ⟨R, 2, none⟩ v').heap[k]? = w'.heap[k]? := fun k hk => heap_setCell_other w' ⟨R, 2, none⟩ k _ hk
  have hbo : ∀ (g : Nat) (zs : List Nat), B ≤ g → Own w 5 g zs → Own (w'.setCell ⟨R, 2, none⟩ v') 5 g zs := fun g zs hgB ho => by
    have ho' := ho; obtain ⟨-, cur, hgc, -⟩ := ho; exact ho'.of_block ((hoth g (by omega)).trans (hbk g _ _ _ hgc (by decide)))
  refine ⟨⟨?_, ?_, ?_, ?_, ?_, h.low, ?_⟩, ?_⟩
  · exact box_set (j := 2) (v := v') (hR'.trans h.box)
  · have : (L.E ++ [e]).length = L.E.length + 1 := by simp
    show World.ownsRow _ B _ 2 v' (L.E ++ [e]).length ((L.E ++ [e]).flatMap En.cells)
    rw [this, List.flatMap_append]; refine owns_set ?_ h.low
    simpa using hown
  · intro x hx
    rcases List.mem_append.1 hx with hx | hx
    · exact ⟨(h.own x hx).1, hbo _ _ (h.own x hx).1 (h.own x hx).2.1, (h.own x hx).2.2⟩
    · obtain rfl : x = e := by simpa using hx
      exact ⟨hb, hbo _ _ hb hO, hl⟩
  · show ((L.E ++ [e]).map En.g).Nodup
    rw [List.map_append, List.nodup_append]; refine ⟨h.apart, by simp, fun a ha b hb' => ?_⟩
    obtain rfl : b = e.g := by simpa using hb'
    rintro rfl; exact hn ha
  · obtain ⟨hl', h1 | ⟨g', cap, cur, h1, hb', hg', h2⟩⟩ := h.seg
    · exact ⟨hl', .inl h1⟩
    · exact ⟨hl', .inr ⟨g', cap, cur, h1, hb', ((hoth g' (by omega)).trans (hbk g' _ _ _ hg' (by decide))).trans hg', h2⟩⟩
  · refine ⟨?_, h.sm.2.1, h.sm.2.2.1, fun x hx => ?_⟩
    · show L.base + (L.E ++ [e]).length ≤ _
      simp only [List.length_append, List.length_cons, List.length_nil]
      unfold Lg.last at hlast
      omega
    · rcases List.mem_append.1 hx with hx | hx
      · exact h.sm.2.2.2 x hx
      · obtain rfl : x = e := by simpa using hx
        exact ⟨ht, hen⟩
  · exact (RowsW.of_row hg h.ent (.inl rfl)).trans (RowsW.of_box (grownBy_setCell (grownBy_refl _ _)))
set_option maxRecDepth 8000 in
set_option maxHeartbeats 4000000 in
theorem put_any (n0 n1 n2 : Nat) (dg doff dn dc : Nat) (D : List Nat) (R B : Nat) (tl : List Value) (L : Lg) (pre : List (Nat × Nat)) (num f : Nat) (w : World) (h : LogIn w R B tl L) (hS : L.S = pre ++ [(num, f)]) (hf : f ≠ 0) (h0' : 1 ≤ n0) (h0 : n0 ≤ 1000000) (h1 : n1 ≤ 1000000000)
    (hO : Own w 5 dg D) (hl : doff + dn ≤ D.length) (hdB : B ≤ dg) (hdn : dg ∉ L.E.map En.g) (hd8 : dn ≤ 8192) :
    Calls Tryz.prog 54 #[.pointer (some ⟨R, 0, none⟩), .agg #[.int .i64 (n0 : Int), .int .i64 (n1 : Int), .int .i64 (n2 : Int)], .slice (some ⟨dg, doff, none⟩) dn dc] w
      (Outc w R B tl pre num (putStep L.pl n0 n1 ((D.drop doff).take dn))) := by
  have hsm := h.sm.1; have htl := h.term_le L.last; have HL : Hid (LogIn w R B tl L ∧ L.S = pre ++ [(num, f)] ∧ Own w 5 dg D ∧ dg ∉ L.E.map En.g ∧ doff + dn ≤ D.length) := ⟨h, hS, hO, hdn, hl⟩; clear hS hO hdn hl; have hA := World.grownBy_alloc w (.cells #[.int .i64 (n0 : Int), .int .i64 (n1 : Int), .int .i64 (n2 : Int)] 123) none; have hLA := h.grown0 hA; have hnew : (w.alloc (.cells #[.int .i64 (n0 : Int), .int .i64 (n1 : Int), .int .i64 (n2 : Int)] 123)).heap[w.heap.size]? = some (.cells #[.int .i64 (n0 : Int), .int .i64 (n1 : Int), .int .i64 (n2 : Int)] 123 (0, 0)) := heap_alloc_new w _
  go_enter Tryz.func54, Tryz.ntmps54
  go_wp2; obtain ⟨W, hW⟩ : ∃ W, w.alloc (.cells #[.int .i64 (n0 : Int), .int .i64 (n1 : Int), .int .i64 (n2 : Int)] 123) = W := ⟨_, rfl⟩; rw [hW] at hA hLA hnew ⊢
  have c0 : W.cell? ⟨w.heap.size, 0, none⟩ = some (.int .i64 (n0 : Int)) := by simp [World.cell?, hnew]
  have c1 : W.cell? ⟨w.heap.size, 1, none⟩ = some (.int .i64 (n1 : Int)) := by simp [World.cell?, hnew]
  have HLA : Hid (∀ w', w'.heap = W.heap → Calls _ _ _ w' _) := fun w' hh => last_any R B tl L w' (hLA.heap hh)
  have HLT : Hid (∀ w', w'.heap = W.heap → Calls _ _ _ w' _) := fun w' hh => lastTerm_any R B tl L w' (hLA.heap hh)
  have HA : Hid (w.grownBy W none ∧ LogIn W R B tl L) := ⟨hA, hLA⟩; have hlb : L.last ≤ 1000000 := hsm; obtain ⟨la, hla⟩ : ∃ x, L.last = x := ⟨_, rfl⟩; obtain ⟨lt, hlt⟩ : ∃ x, L.term L.last = x := ⟨_, rfl⟩; rw [hlt] at HLT htl; rw [hla] at HLA hlb; have HE : Hid (L.pl.last = la ∧ L.pl.term L.pl.last = lt ∧ L.last = la) := ⟨by rw [Lg.pl_last, hla], by rw [Lg.pl_last, Lg.pl_term, hlt], hla⟩; clear hla hlt hnew hW h hLA hA hsm; have v1 : IntKind.i64.wrap ((la : Int) + 1) = la + 1 := IntWalk.i64_in _ (by omega); go_quiet (fail); go_wp2_with fail; refine (HLA.out (W.drewN nq) rfl).mono ?_; rintro e w1 ⟨rfl, m, rfl⟩; have HW1 : Hid (w.grownBy ((W.drewN nq).drewN m) none ∧ LogIn ((W.drewN nq).drewN m) R B tl L) := ⟨grownBy_trans (grownBy_trans HA.out.1 (grownBy_drewN _ _)) (grownBy_drewN _ _), HA.out.2.heap rfl⟩; have HT1 : Hid (Calls _ _ _ ((W.drewN nq).drewN m) _) := HLT.out ((W.drewN nq).drewN m) rfl; generalize (W.drewN nq).drewN m = W1 at HW1 HT1 ⊢; clear HLT HLA c0 c1 HA
  rcases Classical.em (n0 = la + 1) with hc | hc
  · have d3 : ((n0 : Int) != (la : Int) + 1) = false := by simp; omega
    have HCC : Hid (n0 = la + 1) := hc; clear hc; go_wp2_with fail; refine HT1.out.mono ?_; rintro e w1 ⟨rfl, m2, rfl⟩; have HW2 : Hid (w.grownBy (W1.drewN m2) none ∧ LogIn (W1.drewN m2) R B tl L) := ⟨grownBy_trans HW1.out.1 (grownBy_drewN _ _), HW1.out.2.heap rfl⟩; generalize W1.drewN m2 = W2 at HW2 ⊢; clear HT1 HW1
    by_cases hd : n1 < lt
    · have d4 : (n1 : Int) < (lt : Int) := by omega
      go_wp2; go_ret; refine ⟨RowsW.of_grown0 HW2.out.1, .inr ⟨?_, rfl⟩⟩; rw [putStep, if_neg (fun hcc => by rw [HE.out.2.1] at hcc; omega)]
    · have d4 : ¬ (n1 : Int) < (lt : Int) := by omega
      obtain ⟨-, -, p2, -, pf, hRl⟩ := HW2.out.2.cells; have pf2 := pf 2; obtain ⟨i0, hi, hz0, hz1, hz2'⟩ := info_parts Tryz.infoEnt; clear pf
      go_wp2_with (at_builtin; refine wpList_append_own _ rfl _ _ 24 rfl B 47 i0 (.agg #[.int .i64 0, .slice none 0 0]) 2 32 Tryz.underlying24 hi hz0 hz1 hz2' rfl (by decide) L.ev L.E.length (L.E.flatMap En.cells) rfl (by exact HW2.out.2.ent.alloc _) ⟨W2.heap.size, 0, none⟩ 1 1 [.int .i64 (n1 : Int), .slice (some ⟨dg, doff, none⟩) dn dc] rfl rfl ?c1 ?c2 ?c3 ?c4 ?c5 ?_)
      case c1 =>
        intro j u hj; have hX : (W2.alloc (.cells #[.int .i64 (n1 : Int), .slice (some ⟨dg, doff, none⟩) dn dc] 47)).heap[W2.heap.size]? = some (.cells #[.int .i64 (n1 : Int), .slice (some ⟨dg, doff, none⟩) dn dc] 47 (0, 0)) := heap_alloc_new W2 _
        match j, hj with
        | 0, hj => simp at hj; subst hj; exact (cell_of_row _ _ _ _ _ _ hX).trans rfl
        | 1, hj => simp at hj; subst hj; exact (cell_of_row _ _ _ _ _ _ hX).trans rfl
      case c2 => intro u hu; simp at hu; rcases hu with rfl | rfl <;> rfl
      case c3 => have := HW2.out.2.sm.1; unfold maxLen; omega
      case c4 => have := HW2.out.2.sm.1; omega
      case c5 => have h1 := HW2.out.1.size; have h2 := HL.out.1.low; have h3 := HL.out.2.2.1.lt; simp; omega
      intro v' w4 hown' hgrow _; obtain ⟨g', cap', rfl⟩ := ownsRow_succ hown'; have hG2 : w.grownBy (W2.alloc (.cells #[.int .i64 (n1 : Int), .slice (some ⟨dg, doff, none⟩) dn dc] 47)) none := grownBy_alloc HW2.out.1 _; have hL2 := HW2.out.2.grown0 (World.grownBy_alloc W2 (.cells #[.int .i64 (n1 : Int), .slice (some ⟨dg, doff, none⟩) dn dc] 47) none); have hput := hL2.put (e := ⟨n1, D, doff, dn, dg, dc⟩) (w' := w4) (HL.out.2.2.1.grown hG2 (by simp)) HL.out.2.2.2.2 hdB HL.out.2.2.2.1 (by rw [HE.out.2.2]; have := HCC.out; omega) h1 hd8 hown' hgrow rfl; have HF : Hid (_ ∧ _) := And.intro hput (RowsW.of_grown0 (R := R) (B := B) hG2)
      have pf4 : w4.frozen? ⟨R, 2, none⟩ = false := by
        have hb := hL2.box
        have : w4.heap[R]? = _ := (hgrow.block R (Array.getElem?_eq_some_iff.1 hb).1 (fun hc => by
          obtain ⟨cur', hk'⟩ := owns_type hL2.ent hc.symm; rw [hk'] at hb; have := Option.some.inj hb
          injection this with _ h9 _
          exact absurd h9 (by decide))).trans hb
        simp [World.frozen?, this]
      have pc4 : ∃ u, w4.cell? ⟨R, 2, none⟩ = some u := by
        have hb := hL2.box
        have : w4.heap[R]? = _ := (hgrow.block R (Array.getElem?_eq_some_iff.1 hb).1 (fun hc => by
          obtain ⟨cur', hk'⟩ := owns_type hL2.ent hc.symm; rw [hk'] at hb; have := Option.some.inj hb
          injection this with _ h9 _
          exact absurd h9 (by decide))).trans hb
        exact ⟨L.ev, by rw [cell_of_row w4 R _ _ _ _ this]; simp⟩
      obtain ⟨u4, pc4⟩ := pc4; clear hput hL2 hown' hgrow hG2 p2 pf2; go_wp2; go_ret; refine ⟨HF.out.2.trans HF.out.1.2, .inl ⟨_, f, ?_, rfl, HF.out.1.1, HL.out.2.1, hf⟩⟩; rw [putStep, if_pos ⟨by rw [HE.out.1]; exact HCC.out, by rw [HE.out.2.1]; omega⟩]
      simp [Lg.pl, En.tell, En.data]
  · have d3 : ((n0 : Int) != (la : Int) + 1) = true := by simp; omega
    go_wp2; go_ret; refine ⟨RowsW.of_grown0 HW1.out.1, .inr ⟨?_, rfl⟩⟩; rw [putStep, if_neg (fun hcc => hc (by rw [HE.out.1] at hcc; exact hcc.1))]
theorem flatE_len (E : List En) : (E.flatMap En.cells).length = E.length * 2 := by
  induction E with
  | nil => rfl
  | cons a l ih => simp only [List.flatMap_cons, List.length_append, ih]; simp [En.cells]; omega
theorem flatE_take (E : List En) (k : Nat) : (E.flatMap En.cells).take (k * 2) = (E.take k).flatMap En.cells := by
  induction E generalizing k with
  | nil => simp
  | cons a l ih =>
    cases k with
    | zero => simp
    | succ k =>
      rw [List.flatMap_cons, List.take_succ_cons, List.flatMap_cons, show (k + 1) * 2 = (En.cells a).length + k * 2 by simp [En.cells]; omega, List.take_length_add_append, ih]
/-- the entries' slice cut short -/
def cutV (v : Value) (k : Nat) : Value := match v with | .slice oa _ cap => .slice oa k cap | v => v
theorem LogIn.cutTo {w w' : World} {R B : Nat} {tl : List Value} {L : Lg} (h : LogIn w R B tl L) (k : Nat) (hk : k ≤ L.E.length) (hw' : w'.heap = (w.setCell ⟨R, 2, none⟩ (cutV L.ev k)).heap) : LogIn w' R B tl { L with E := L.E.take k, ev := cutV L.ev k } := by
  have hl := h.low
  suffices LogIn (w.setCell ⟨R, 2, none⟩ (cutV L.ev k)) R B tl { L with E := L.E.take k, ev := cutV L.ev k } from this.heap hw'
  have hoth : ∀ j, j ≠ R → (w.setCell ⟨R, 2, none⟩ (cutV L.ev k)).heap[j]? = w.heap[j]? := fun j hj => heap_setCell_other w ⟨R, 2, none⟩ j _ hj
  refine ⟨box_set (j := 2) h.box, ?_, fun e he => ⟨(h.own e (List.mem_of_mem_take he)).1, (h.own e (List.mem_of_mem_take he)).2.1.of_block (hoth _ (by have := (h.own e (List.mem_of_mem_take he)).1; omega)), (h.own e (List.mem_of_mem_take he)).2.2⟩, ?_, owns_set h.seg h.low, h.low, ⟨?_, h.sm.2.1, h.sm.2.2.1, fun e he => h.sm.2.2.2 e (List.mem_of_mem_take he)⟩⟩
  · have hlt : (L.E.take k).length = k := by rw [List.length_take, Nat.min_eq_left hk]
    show World.ownsRow _ B _ 2 (cutV L.ev k) (L.E.take k).length ((L.E.take k).flatMap En.cells)
    rw [hlt]; refine ⟨by rw [flatE_len, hlt], ?_⟩; obtain ⟨hl', ⟨h1, h2⟩ | ⟨g', cap, cur, h1, hb', hg', h2, h3, h4, h5⟩⟩ := h.ent
    · refine .inl ⟨?_, by omega⟩; rw [h1]
      have : k = 0 := by omega
      subst this
      rfl
    · refine .inr ⟨g', cap, cur, by rw [h1]; rfl, hb', (hoth g' (by omega)).trans hg', by omega, h3, h4, ?_⟩; rw [← flatE_take, ← h5, List.take_take, Nat.min_eq_left (by omega)]
  · show ((L.E.take k).map En.g).Nodup
    rw [List.map_take]; exact h.apart.sublist (List.take_sublist _ _)
  · show L.base + (L.E.take k).length ≤ _
    rw [List.length_take]; have := h.sm.1
    omega
set_option maxRecDepth 8000 in
set_option maxHeartbeats 4000000 in
theorem cut_any (n0 n1 n2 : Nat) (dv : Value) (R B : Nat) (tl : List Value) (L : Lg) (pre : List (Nat × Nat)) (num f : Nat) (w : World) (h : LogIn w R B tl L) (hS : L.S = pre ++ [(num, f)]) (hf : f ≠ 0) (h0' : 1 ≤ n0) (h0 : n0 ≤ 1000000) (h1 : n1 ≤ 1000000000) :
    Calls Tryz.prog 55 #[.pointer (some ⟨R, 0, none⟩), .agg #[.int .i64 (n0 : Int), .int .i64 (n1 : Int), .int .i64 (n2 : Int)], dv] w
      (Outc w R B tl pre num (cutStep L.pl n0 n1)) := by
  have hsm := h.sm.1; obtain ⟨st, hst⟩ : ∃ st, n0 - 1 = st := ⟨_, rfl⟩; have htl := h.term_le st; have HL : Hid (LogIn w R B tl L ∧ L.S = pre ++ [(num, f)] ∧ n0 - 1 = st) := ⟨h, hS, hst⟩; clear hS; have hA := World.grownBy_alloc w (.cells #[.int .i64 (n0 : Int), .int .i64 (n1 : Int), .int .i64 (n2 : Int)] 123) none; have hLA := h.grown0 hA; have hnew : (w.alloc (.cells #[.int .i64 (n0 : Int), .int .i64 (n1 : Int), .int .i64 (n2 : Int)] 123)).heap[w.heap.size]? = some (.cells #[.int .i64 (n0 : Int), .int .i64 (n1 : Int), .int .i64 (n2 : Int)] 123 (0, 0)) := heap_alloc_new w _
  go_enter Tryz.func55, Tryz.ntmps55
  go_wp2; obtain ⟨W, hW⟩ : ∃ W, w.alloc (.cells #[.int .i64 (n0 : Int), .int .i64 (n1 : Int), .int .i64 (n2 : Int)] 123) = W := ⟨_, rfl⟩; rw [hW] at hA hLA hnew ⊢
  have c0 : W.cell? ⟨w.heap.size, 0, none⟩ = some (.int .i64 (n0 : Int)) := by simp [World.cell?, hnew]
  have c1 : W.cell? ⟨w.heap.size, 1, none⟩ = some (.int .i64 (n1 : Int)) := by simp [World.cell?, hnew]
  have v1 : IntKind.i64.wrap ((n0 : Int) - 1) = (st : Int) := by rw [IntWalk.i64_in _ (by omega)]; omega
  have HA : Hid (w.grownBy W none ∧ LogIn W R B tl L) := ⟨hA, hLA⟩
  have hst' : st + 1 ≤ 1000000 := by omega
  clear hnew hW h hLA hA hst; go_quiet (fail); have HW1 : Hid (w.grownBy (W.drewN nq) none ∧ LogIn (W.drewN nq) R B tl L) := ⟨grownBy_trans HA.out.1 (grownBy_drewN _ _), HA.out.2.heap rfl⟩; generalize W.drewN nq = W1 at HW1 ⊢; clear c0 c1 HA v1; have HB : Hid (L.pl.base = L.base ∧ L.pl.last = L.last ∧ L.pl.term st = L.term st) := ⟨rfl, L.pl_last, L.pl_term _⟩; obtain ⟨p0, -, -, -, -⟩ := HW1.out.2.cells
  by_cases hc : st < L.base
  · have d1 : (st : Int) < (L.base : Int) := by omega
    have HST : Hid (Calls _ _ _ W1 _) := startAt_any st n1 R B tl L W1 HW1.out.2 (by omega) h1; go_wp2_with fail; refine HST.out.mono ?_; rintro e w3 ⟨⟨v, rfl⟩, h3, h4⟩; have H5 : Hid (_ ∧ _) := And.intro h3 h4; clear h3 h4 HST p0; go_wp2; go_ret; refine ⟨(RowsW.of_grown0 HW1.out.1).trans (RowsW.of_box H5.out.2), .inl ⟨_, f, ?_, rfl, H5.out.1, HL.out.2.1, hf⟩⟩; rw [cutStep, HL.out.2.2, if_pos (by rw [HB.out.1]; exact hc)]
    rfl
  · have d1 : ¬ (st : Int) < (L.base : Int) := by omega
    have HLA : Hid (Calls _ _ _ W1 _) := last_any R B tl L W1 HW1.out.2
    have HLT : Hid (∀ w', w'.heap = W1.heap → Calls _ _ _ w' _) := fun w' hh => termAt_any st R B tl L w' (HW1.out.2.heap hh) (by omega)
    obtain ⟨la, hla⟩ : ∃ x, L.last = x := ⟨_, rfl⟩; obtain ⟨lt, hlt⟩ : ∃ x, L.term st = x := ⟨_, rfl⟩; rw [hlt] at HLT htl HB; rw [hla] at HLA HB; have HLAe : Hid (L.last = la) := hla; clear hla hlt
    by_cases hd : la < st
    · have d2 : (la : Int) < (st : Int) := by omega
      go_wp2_with fail; refine HLA.out.mono ?_; rintro e w1 ⟨rfl, m, rfl⟩; go_wp2; go_ret; refine ⟨RowsW.of_grown0 (grownBy_trans HW1.out.1 (grownBy_drewN _ _)), .inr ⟨?_, rfl⟩⟩; rw [cutStep, HL.out.2.2, if_neg (by rw [HB.out.1]; exact hc), if_neg (fun hcc => by rw [HB.out.2.1] at hcc; omega)]
    · have d2 : ¬ (la : Int) < (st : Int) := by omega
      go_wp2_with fail; refine HLA.out.mono ?_; rintro e w1 ⟨rfl, m, rfl⟩; have HT1 : Hid (Calls _ _ _ (W1.drewN m) _) := HLT.out (W1.drewN m) rfl; have HW2 : Hid (w.grownBy (W1.drewN m) none ∧ LogIn (W1.drewN m) R B tl L) := ⟨grownBy_trans HW1.out.1 (grownBy_drewN _ _), HW1.out.2.heap rfl⟩; generalize W1.drewN m = W2 at HT1 HW2 ⊢; clear HLT HLA HW1 p0
      rcases Classical.em (lt = n1) with he | he
      · have d3 : ((lt : Int) != (n1 : Int)) = false := by simp; omega
        have HEE : Hid (lt = n1) := he; clear he; go_wp2_with fail; refine HT1.out.mono ?_; rintro e w1 ⟨rfl, m, rfl⟩; have HW3 : Hid (w.grownBy (W2.drewN m) none ∧ LogIn (W2.drewN m) R B tl L) := ⟨grownBy_trans HW2.out.1 (grownBy_drewN _ _), HW2.out.2.heap rfl⟩; generalize W2.drewN m = W3 at HW3 ⊢; clear HT1 HW2; obtain ⟨p0, -, p2, -, pf, -⟩ := HW3.out.2.cells; have pf2 := pf 2; obtain ⟨oa, cap, hev, hec, hem⟩ := HW3.out.2.evIs; obtain ⟨k, hk⟩ : ∃ k, st - L.base = k := ⟨_, rfl⟩
        have hkn : k ≤ L.E.length := by have := HLAe.out; unfold Lg.last at this; omega
        unfold maxLen at hem
        have v2 : IntKind.i64.wrap ((st : Int) - L.base) = (k : Int) := by rw [IntWalk.i64_in _ (by omega)]; omega
        have hF := HW3.out.2.cutTo (w' := W3.setCell ⟨R, 2, none⟩ (cutV L.ev k)) k hkn rfl
        have hcv : cutV L.ev k = .slice oa k cap := by rw [hev]; rfl
        have HCV : Hid (cutV L.ev k = .slice oa k cap) := hcv
        have HF : Hid (LogIn (W3.setCell ⟨R, 2, none⟩ (.slice oa k cap)) R B tl { L with E := L.E.take k, ev := cutV L.ev k }) := by rw [hcv] at hF; rw [hcv]; exact hF
        rw [hev] at p2
        have hkc : (k : Int) ≤ (cap : Int) := by omega
        have HK : Hid (st - L.base = k) := hk; clear hev hk hF hcv pf hsm; obtain ⟨n, hn⟩ : ∃ n, L.E.length = n := ⟨_, rfl⟩; rw [hn] at p2; clear hkn hec hn; go_wp2
        go_region
        all_goals
          go_wp2; go_ret; refine ⟨(RowsW.of_grown0 HW3.out.1).trans (RowsW.trans (RowsW.of_box (grownBy_setCell (grownBy_refl _ _))) (RowsW.of_grown0 (grownBy_drew (grownBy_refl _ _)))), .inl ⟨_, f, ?_, rfl, HF.out.heap rfl, HL.out.2.1, hf⟩⟩; rw [cutStep, HL.out.2.2, if_neg (by rw [HB.out.1]; exact hc), if_pos ⟨by rw [HB.out.2.1]; omega, by rw [HB.out.2.2]; exact HEE.out⟩, HB.out.1, HK.out]
          simp [Lg.pl, List.map_take]
      · have d3 : ((lt : Int) != (n1 : Int)) = true := by simp; omega
        go_wp2_with fail; refine HT1.out.mono ?_; rintro e w1 ⟨rfl, m, rfl⟩; go_wp2; go_ret; refine ⟨RowsW.of_grown0 (grownBy_trans HW2.out.1 (grownBy_drewN _ _)), .inr ⟨?_, rfl⟩⟩; rw [cutStep, HL.out.2.2, if_neg (by rw [HB.out.1]; exact hc), if_neg (fun hcc => by rw [HB.out.2.2] at hcc; exact he hcc.2)]
def wfn : Nat → FuncId
  | 1 => 53
  | 2 => 54
  | 3 => 55
  | 7 => 57
  | _ => 56
def wact (p : Pl) (num : Nat) (fst hd : Bool) (n0 n1 n2 : Nat) (d : List Nat) : Nat → Option Pl
  | 1 => headStep p num fst hd n0 n1 n2
  | 2 => putStep p n0 n1 d
  | 3 => cutStep p n0 n1
  | 7 => some ⟨n0, n1, []⟩
  | _ => none
def wn (ty : Nat) (d : List Nat) (i : Nat) : Nat := fld (wb ty) d (wb ty).length i
def decWOk (bs : List (Nat × Nat)) (room : Nat) (zs : List Nat) : Decidable (WOk bs room zs) :=
  decidable_of_iff (8 * bs.length ≤ zs.length ∧ zs.length ≤ 8 * bs.length + room ∧ ∀ i, i < bs.length → (bs[i]?.all fun b => inb b (wnum zs i)) = true)
    ⟨fun ⟨h1, h2, h3⟩ => ⟨h1, h2, fun i b hi hb => by have h4 := h3 i hi; rw [hb] at h4; simpa using h4⟩, fun ⟨h1, h2, h3⟩ => ⟨h1, h2, fun i hi => by
      cases hb : bs[i]? with
      | none => rfl
      | some b => simpa using h3 i b hi hb⟩⟩
/-- a record carried out; hd: no head has been read -/
def wstep (p : Pl) (num : Nat) (fst hd : Bool) (ty : Nat) (d : List Nat) : Option Pl :=
  if 7 < ty then none else if ty ≠ 1 ∧ hd = true then none else @ite _ (WOk (wb ty) (wroom ty) d) (decWOk _ _ _) (wact p num fst hd (wn ty d 0) (wn ty d 1) (wn ty d 2) (d.drop (8 * (wb ty).length)) ty) none
theorem wb_len {ty : Nat} (h1 : 1 ≤ ty) (h7 : ty ≤ 7) : 1 ≤ (wb ty).length ∧ (wb ty).length ≤ 3 := by
  match ty, h1, h7 with
  | 1, _, _ => decide
  | 2, _, _ => decide
  | 3, _, _ => decide
  | 4, _, _ => decide
  | 5, _, _ => decide
  | 6, _, _ => decide
  | 7, _, _ => decide
theorem wb_small {ty : Nat} (h1 : 1 ≤ ty) (h7 : ty ≤ 7) : ∀ x ∈ wb ty, x.1 ≤ 1073741824 ∧ x.2 ≤ 1073741824 := by
  match ty, h1, h7 with
  | 1, _, _ => decide
  | 2, _, _ => decide
  | 3, _, _ => decide
  | 4, _, _ => decide
  | 5, _, _ => decide
  | 6, _, _ => decide
  | 7, _, _ => decide
theorem wroom_le (ty : Nat) : wroom ty ≤ 8000 := by
  unfold wroom; split <;> omega
theorem form_cells {S ty : Nat} (h1 : 1 ≤ ty) (h7 : ty ≤ 7) : (formCs S)[ty * 3]? = some (.slice (some ⟨S + (ty - 1), 0, none⟩) (wb ty).length (wb ty).length) ∧ (formCs S)[ty * 3 + 1]? = some (.int .i64 (wroom ty : Int)) ∧ (formCs S)[ty * 3 + 2]? = some (.func (.func (wfn ty)) #[] #[]) := by
  match ty, h1, h7 with
  | 1, _, _ => exact ⟨rfl, rfl, rfl⟩
  | 2, _, _ => exact ⟨rfl, rfl, rfl⟩
  | 3, _, _ => exact ⟨rfl, rfl, rfl⟩
  | 4, _, _ => exact ⟨rfl, rfl, rfl⟩
  | 5, _, _ => exact ⟨rfl, rfl, rfl⟩
  | 6, _, _ => exact ⟨rfl, rfl, rfl⟩
  | 7, _, _ => exact ⟨rfl, rfl, rfl⟩
theorem wn_in {ty : Nat} {d : List Nat} (h : WOk (wb ty) (wroom ty) d) {i lo hi : Nat} (hb : (wb ty)[i]? = some (lo, hi)) : lo ≤ wn ty d i ∧ wn ty d i ≤ hi := by
  have hil := (List.getElem?_eq_some_iff.1 hb).1; have h1 := h.2.2 i _ hil hb; rw [wn, fld, if_pos ⟨hil, hil⟩]
  simpa [inb] using h1
theorem rest_eq (D : List Nat) (dc k : Nat) (hk : k ≤ D.length) (hc : D.length ≤ dc) : (D.drop (adr 0 dc k)).take (D.length - k) = D.drop k := by
  unfold adr
  by_cases h : dc = k
  · rw [if_pos h]
    have : D.length - k = 0 := by omega
    rw [this, List.take_zero, List.drop_of_length_le (by omega)]
  · rw [if_neg h, Nat.zero_add]; exact List.take_of_length_le (by simp)
theorem outc_grown {w W w' : World} {R B : Nat} {tl : List Value} {pre : List (Nat × Nat)} {num : Nat} {o : Option Pl} {e : Ending} (h : Outc W R B tl pre num o e w') (hg : w.grownBy W none) : Outc w R B tl pre num o e w' :=
  ⟨(RowsW.of_grown0 hg).trans h.1, h.2⟩
/-- the table's function at a right record -/
theorem wact_any (ty R B : Nat) (tl : List Value) (L : Lg) (pre : List (Nat × Nat)) (num f : Nat) (w : World) (dg dc : Nat) (D : List Nat) (h : LogIn w R B tl L) (hS : L.S = pre ++ [(num, f)]) (h1 : 1 ≤ ty) (h7 : ty ≤ 7) (hf : ty = 1 ∨ f ≠ 0) (hok : WOk (wb ty) (wroom ty) D)
    (hO : Own w 5 dg D) (hdB : B ≤ dg) (hdn : dg ∉ L.E.map En.g) (hdc : D.length ≤ dc) (hd8 : D.length ≤ 8192) :
    Calls Tryz.prog (wfn ty) #[.pointer (some ⟨R, 0, none⟩), .agg #[.int .i64 ((wn ty D 0 : Nat) : Int), .int .i64 ((wn ty D 1 : Nat) : Int), .int .i64 ((wn ty D 2 : Nat) : Int)], .slice (some ⟨dg, adr 0 dc (8 * (wb ty).length), none⟩) (D.length - 8 * (wb ty).length) (dc - 8 * (wb ty).length)] w
      (Outc w R B tl pre num (wact L.pl num (decide (pre = [])) (decide (f = 0)) (wn ty D 0) (wn ty D 1) (wn ty D 2) (D.drop (8 * (wb ty).length)) ty)) := by
  match ty, h1, h7, hf, hok with
  | 1, _, _, hf, hok =>
    have b0 := wn_in (i := 0) hok rfl; have b1 := wn_in (i := 1) hok rfl; have b2 := wn_in (i := 2) hok rfl; exact begin_any _ _ _ _ R B tl L pre num f w h hS (by omega) b1.1 b1.2 b2.2
  | 2, _, _, hf, hok =>
    have b0 := wn_in (i := 0) hok rfl; have b1 := wn_in (i := 1) hok rfl; have hl : 8 * (wb 2).length ≤ D.length := hok.1; have := put_any (wn 2 D 0) (wn 2 D 1) (wn 2 D 2) dg (adr 0 dc (8 * (wb 2).length)) (D.length - 8 * (wb 2).length) (dc - 8 * (wb 2).length) D R B tl L pre num f w h hS (by simpa using hf) b0.1 b0.2 b1.2 hO (by unfold adr; split <;> omega) hdB hdn (by omega); rw [rest_eq D dc _ hl hdc] at this; exact this
  | 3, _, _, hf, hok =>
    have b0 := wn_in (i := 0) hok rfl; have b1 := wn_in (i := 1) hok rfl; exact cut_any _ _ _ _ R B tl L pre num f w h hS (by simpa using hf) b0.1 b0.2 b1.2
  | 4, _, _, hf, hok => exact (reject_any _ _ _ _ R w).mono fun e w' hq => ⟨RowsW.of_grown0 hq.2, .inr ⟨rfl, hq.1⟩⟩
  | 5, _, _, hf, hok => exact (reject_any _ _ _ _ R w).mono fun e w' hq => ⟨RowsW.of_grown0 hq.2, .inr ⟨rfl, hq.1⟩⟩
  | 6, _, _, hf, hok => exact (reject_any _ _ _ _ R w).mono fun e w' hq => ⟨RowsW.of_grown0 hq.2, .inr ⟨rfl, hq.1⟩⟩
  | 7, _, _, hf, hok =>
    have b0 := wn_in (i := 0) hok rfl; have b1 := wn_in (i := 1) hok rfl
    exact (reset_any (wn 7 D 0) (wn 7 D 1) (wn 7 D 2) _ R B tl L w h b0.2 b1.2).mono fun e w' hq => ⟨RowsW.of_box hq.2.2, .inl ⟨_, f, rfl, hq.1, hq.2.1, hS, by simpa using hf⟩⟩
theorem fn_enters (ty : Nat) (args : Array Value) (h1 : 1 ≤ ty) (h7 : ty ≤ 7) (w : World) : (callFunc (wfn ty) args).run Tryz.prog w = .ok (.enter (wfn ty) args) w := by
  match ty, h1, h7 with
  | 1, _, _ => exact enters_of Tryz.func53 (by kernel_rfl) rfl args w
  | 2, _, _ => exact enters_of Tryz.func54 (by kernel_rfl) rfl args w
  | 3, _, _ => exact enters_of Tryz.func55 (by kernel_rfl) rfl args w
  | 4, _, _ => exact enters_of Tryz.func56 (by kernel_rfl) rfl args w
  | 5, _, _ => exact enters_of Tryz.func56 (by kernel_rfl) rfl args w
  | 6, _, _ => exact enters_of Tryz.func56 (by kernel_rfl) rfl args w
  | 7, _, _ => exact enters_of Tryz.func57 (by kernel_rfl) rfl args w
theorem LogIn.formAt {w : World} {R B S : Nat} {tl' : List Value} {L : Lg} (h : LogIn w R B (formCs S ++ tl') L) {ty : Nat} (h1 : 1 ≤ ty) (h7 : ty ≤ 7) : w.cell? ⟨R, 4 + ty * 3, none⟩ = some (.slice (some ⟨S + (ty - 1), 0, none⟩) (wb ty).length (wb ty).length) ∧ w.cell? ⟨R, 4 + ty * 3 + 1, none⟩ = some (.int .i64 (wroom ty : Int)) ∧ w.cell? ⟨R, 4 + ty * 3 + 2, none⟩ = some (.func (.func (wfn ty)) #[] #[]) := by
  obtain ⟨f1, f2, f3⟩ := form_cells (S := S) h1 h7; have hl : (formCs S).length = 24 := rfl; have hb := h.box; refine ⟨?_, ?_, ?_⟩ <;> rw [cell_of_row w R _ _ _ _ hb, List.getElem?_toArray]
  · rw [show 4 + ty * 3 = ty * 3 + 1 + 1 + 1 + 1 by omega]; simp only [List.getElem?_cons_succ]; rw [List.getElem?_append_left (by omega)]; exact f1
  · rw [show 4 + ty * 3 + 1 = (ty * 3 + 1) + 1 + 1 + 1 + 1 by omega]; simp only [List.getElem?_cons_succ]; rw [List.getElem?_append_left (by omega)]; exact f2
  · rw [show 4 + ty * 3 + 2 = (ty * 3 + 2) + 1 + 1 + 1 + 1 by omega]; simp only [List.getElem?_cons_succ]; rw [List.getElem?_append_left (by omega)]; exact f3
set_option maxRecDepth 8000 in
set_option maxHeartbeats 4000000 in
theorem carryOut_any (S : Nat) (ty R B : Nat) (tl' : List Value) (L : Lg) (pre : List (Nat × Nat)) (num f : Nat) (w : World) (dg dc : Nat) (D : List Nat) (h : LogIn w R B (formCs S ++ tl') L) (hF : Forms w S) (hS : L.S = pre ++ [(num, f)]) (h1 : 1 ≤ ty) (h2 : ty < 256)
    (hO : Own w 5 dg D) (hdB : B ≤ dg) (hdn : dg ∉ L.E.map En.g) (hdc : D.length ≤ dc) (hdm : dc ≤ maxLen) (hd8 : D.length ≤ 8192) :
    Calls Tryz.prog 61 #[.pointer (some ⟨R, 0, none⟩), .agg #[.int .i64 (ty : Int), .slice (some ⟨dg, 0, none⟩) D.length dc]] w
      (Outc w R B (formCs S ++ tl') pre num (wstep L.pl num (decide (pre = [])) (decide (f = 0)) ty D)) := by
  have hsm := h.sm; obtain ⟨g, cap, hsv, hgB, q0, q1, qf, hgl⟩ := h.svAt hS
  have hpl : pre.length ≤ 1000 := by have := hsm.2.2.1; rw [hS] at this; simp at this; omega
  have HL : Hid (LogIn w R B (formCs S ++ tl') L ∧ Forms w S ∧ L.S = pre ++ [(num, f)] ∧ L.sv = .slice (some ⟨g, 0, none⟩) (pre.length + 1) cap ∧ Own w 5 dg D ∧ dg ∉ L.E.map En.g) := ⟨h, hF, hS, hsv, hO, hdn⟩; obtain ⟨n, hn⟩ : ∃ n, D.length = n := ⟨_, rfl⟩; have HN : Hid (D.length = n) := hn; rw [hn] at hdc hd8 ⊢; have hA := World.grownBy_alloc w (.cells #[.int .i64 (ty : Int), .slice (some ⟨dg, 0, none⟩) n dc] 85) none; have hLA := h.grown0 hA; have hnew : (w.alloc (.cells #[.int .i64 (ty : Int), .slice (some ⟨dg, 0, none⟩) n dc] 85)).heap[w.heap.size]? = some (.cells #[.int .i64 (ty : Int), .slice (some ⟨dg, 0, none⟩) n dc] 85 (0, 0)) := heap_alloc_new w _; clear h hF hS hsv hO hdn hn
  go_enter Tryz.func61, Tryz.ntmps61
  by_cases h7 : 7 < ty
  · have d1 : (7 : Int) < (ty : Int) := by omega
    go_wp2; go_ret; refine ⟨RowsW.of_grown0 hA, .inr ⟨?_, rfl⟩⟩; rw [wstep, if_pos h7]
  · have d1 : ¬ (7 : Int) < (ty : Int) := by omega
    obtain ⟨V0, hV0⟩ : ∃ V0, w.alloc (.cells #[.int .i64 (ty : Int), .slice (some ⟨dg, 0, none⟩) n dc] 85) = V0 := ⟨_, rfl⟩; have HWE : Hid (w.alloc (.cells #[.int .i64 (ty : Int), .slice (some ⟨dg, 0, none⟩) n dc] 85) = V0) := hV0; rw [hV0] at hA hLA hnew; have HC : Hid (Calls _ _ _ V0 _) := current_any R B (formCs S ++ tl') L V0 hLA g pre.length cap HL.out.2.2.2.1 hpl; have HAA : Hid (w.grownBy V0 none ∧ LogIn V0 R B (formCs S ++ tl') L ∧ V0.heap[w.heap.size]? = some (.cells #[.int .i64 (ty : Int), .slice (some ⟨dg, 0, none⟩) n dc] 85 (0, 0))) := ⟨hA, hLA, hnew⟩; clear hV0 hA hLA hnew
    rcases Classical.em (ty = 1) with ht | ht
    · have d2 : ((ty : Int) != 1) = false := by simp; omega
      have HT : Hid (ty = 1) := ht; clear ht HC; have HX := HAA; have HTF : Hid (ty = 1 ∨ f ≠ 0) := .inl HT.out
      have c00 : V0.cell? ⟨w.heap.size, 0, none⟩ = some (.int .i64 (ty : Int)) := by rw [cell_of_row _ _ _ _ _ _ HX.out.2.2]; rfl
      rw [← HWE.out] at c00; go_wp2; rw [HWE.out]
      have c0 : V0.cell? ⟨w.heap.size, 0, none⟩ = some (.int .i64 (ty : Int)) := by rw [cell_of_row _ _ _ _ _ _ HX.out.2.2]; rfl
      have c1 : V0.cell? ⟨w.heap.size, 1, none⟩ = some (.slice (some ⟨dg, 0, none⟩) n dc) := by rw [cell_of_row _ _ _ _ _ _ HX.out.2.2]; rfl
      obtain ⟨f0, f1, f2⟩ := HX.out.2.1.formAt h1 (Nat.le_of_not_lt h7); obtain ⟨k, hk⟩ : ∃ k, (wb ty).length = k := ⟨_, rfl⟩; obtain ⟨rm, hrm⟩ : ∃ r, wroom ty = r := ⟨_, rfl⟩; obtain ⟨fx, hfx⟩ : ∃ r, wfn ty = r := ⟨_, rfl⟩; obtain ⟨gS, hgS⟩ : ∃ r, S + (ty - 1) = r := ⟨_, rfl⟩; have HKR : Hid ((wb ty).length = k ∧ wroom ty = rm ∧ wfn ty = fx ∧ S + (ty - 1) = gS) := ⟨hk, hrm, hfx, hgS⟩; rw [hk, hgS] at f0; rw [hrm] at f1; rw [hfx] at f2; clear hk hrm hfx hgS
      have e7 : (ty : Int) < 8 := by omega
      have lt1 : w.heap.size < V0.heap.size := cell_block_lt c0; have lt2 : R < V0.heap.size := cell_block_lt f0
      have HTK : Hid (∀ w' : World, w.grownBy w' none → Calls _ _ _ w' _) := fun w' hg => take_any (S + (ty - 1)) (wb ty) (wroom ty) (wfn ty) dg 0 n dc D w' (grown_blk hg (HL.out.2.1 ty h1 (by omega))) (wb_len h1 (by omega)).1 (wb_len h1 (by omega)).2 (wb_small h1 (by omega)) (wroom_le ty) ((HL.out.2.2.2.2.1.sl n HN.out).grown0 hg) hdc hdm (by omega)
      rw [HKR.out.1, HKR.out.2.1, HKR.out.2.2.1, HKR.out.2.2.2] at HTK; go_wp2
      go_region
      all_goals
        have hG2 : w.grownBy ((V0.alloc (.cells #[.slice (some ⟨gS, 0, none⟩) k k, .int .i64 (rm : Int), .func (.func fx) #[] #[]] 56)).drew) none := grownBy_drew (grownBy_alloc HX.out.1 _); have hb2 : ((V0.alloc (.cells #[.slice (some ⟨gS, 0, none⟩) k k, .int .i64 (rm : Int), .func (.func fx) #[] #[]] 56)).drew).heap[V0.heap.size]? = some (.cells #[.slice (some ⟨gS, 0, none⟩) k k, .int .i64 (rm : Int), .func (.func fx) #[] #[]] 56 (0, 0)) := heap_alloc_new V0 _; have HY : Hid (_ ∧ _ ∧ _ ∧ _ ∧ _) := And.intro hG2 (And.intro hb2 (And.intro (grown_blk (grownBy_drew (World.grownBy_alloc V0 (.cells #[.slice (some ⟨gS, 0, none⟩) k k, .int .i64 (rm : Int), .func (.func fx) #[] #[]] 56) none)) HX.out.2.2) (And.intro (HX.out.2.1.grown0 (grownBy_drew (World.grownBy_alloc V0 (.cells #[.slice (some ⟨gS, 0, none⟩) k k, .int .i64 (rm : Int), .func (.func fx) #[] #[]] 56) none))) lt1))); clear c0 c1 f0 f1 f2; generalize (V0.alloc (.cells #[.slice (some ⟨gS, 0, none⟩) k k, .int .i64 (rm : Int), .func (.func fx) #[] #[]] 56)).drew = Y at hG2 hb2 HY ⊢
        have m0 : Y.cell? ⟨V0.heap.size, 0, none⟩ = some (.slice (some ⟨gS, 0, none⟩) k k) := by rw [cell_of_row _ _ _ _ _ _ hb2]; rfl
        have m1 : Y.cell? ⟨V0.heap.size, 1, none⟩ = some (.int .i64 (rm : Int)) := by rw [cell_of_row _ _ _ _ _ _ hb2]; rfl
        have m2 : Y.cell? ⟨V0.heap.size, 2, none⟩ = some (.func (.func fx) #[] #[]) := by rw [cell_of_row _ _ _ _ _ _ hb2]; rfl
        have m3 : Y.cell? ⟨w.heap.size, 1, none⟩ = some (.slice (some ⟨dg, 0, none⟩) n dc) := by rw [cell_of_row _ _ _ _ _ _ HY.out.2.2.1]; rfl
        clear hG2 hb2; go_wp2_with fail; refine (HTK.out Y HY.out.1).mono ?_; clear m0 m1 m2 m3 HTK; rintro e w1 ⟨hG3, ⟨hok, rfl⟩ | ⟨hno, rfl⟩⟩
        · obtain ⟨x0, hx0⟩ : ∃ x, fld (wb ty) D k 0 = x := ⟨_, rfl⟩; obtain ⟨x1, hx1⟩ : ∃ x, fld (wb ty) D k 1 = x := ⟨_, rfl⟩; obtain ⟨x2, hx2⟩ : ∃ x, fld (wb ty) D k 2 = x := ⟨_, rfl⟩; obtain ⟨ad, had⟩ : ∃ x, adr 0 dc (8 * k) = x := ⟨_, rfl⟩; obtain ⟨rn, hrn⟩ : ∃ x, n - 8 * k = x := ⟨_, rfl⟩; obtain ⟨rc, hrc⟩ : ∃ x, dc - 8 * k = x := ⟨_, rfl⟩; rw [hx0, hx1, hx2, had, hrn, hrc]; have HVV : Hid (wn ty D 0 = x0 ∧ wn ty D 1 = x1 ∧ wn ty D 2 = x2 ∧ adr 0 dc (8 * k) = ad ∧ n - 8 * k = rn ∧ dc - 8 * k = rc) := ⟨by rw [wn, HKR.out.1]; exact hx0, by rw [wn, HKR.out.1]; exact hx1, by rw [wn, HKR.out.1]; exact hx2, had, hrn, hrc⟩
          have hOK : WOk (wb ty) (wroom ty) D := by rw [HKR.out.2.1]; exact hok
          clear hx0 hx1 hx2 had hrn hrc; have HW1 : Hid (w.grownBy w1 none ∧ w1.heap[V0.heap.size]? = some (.cells #[.slice (some ⟨gS, 0, none⟩) k k, .int .i64 (rm : Int), .func (.func fx) #[] #[]] 56 (0, 0)) ∧ LogIn w1 R B (formCs S ++ tl') L ∧ WOk (wb ty) (wroom ty) D) := ⟨grownBy_trans HY.out.1 hG3, grown_blk hG3 HY.out.2.1, HY.out.2.2.2.1.grown0 hG3, hOK⟩; clear hG3 hok hOK; go_wp2; have hGZ : w.grownBy (w1.alloc (.cells #[.int .i64 (x0 : Int), .int .i64 (x1 : Int), .int .i64 (x2 : Int)] 123)) none := grownBy_alloc HW1.out.1 _; have hbZ : (w1.alloc (.cells #[.int .i64 (x0 : Int), .int .i64 (x1 : Int), .int .i64 (x2 : Int)] 123)).heap[w1.heap.size]? = some (.cells #[.int .i64 (x0 : Int), .int .i64 (x1 : Int), .int .i64 (x2 : Int)] 123 (0, 0)) := heap_alloc_new w1 _; have hfZ : (w1.alloc (.cells #[.int .i64 (x0 : Int), .int .i64 (x1 : Int), .int .i64 (x2 : Int)] 123)).heap[V0.heap.size]? = _ := grown_blk (World.grownBy_alloc w1 _ none) HW1.out.2.1; have hLZ := HW1.out.2.2.1.grown0 (World.grownBy_alloc w1 (.cells #[.int .i64 (x0 : Int), .int .i64 (x1 : Int), .int .i64 (x2 : Int)] 123) none); generalize w1.alloc (.cells #[.int .i64 (x0 : Int), .int .i64 (x1 : Int), .int .i64 (x2 : Int)] 123) = Z at hGZ hbZ hfZ hLZ ⊢
          have m2 : Z.cell? ⟨V0.heap.size, 2, none⟩ = some (.func (.func fx) #[] #[]) := by rw [cell_of_row _ _ _ _ _ _ hfZ]; rfl
          have k0 : Z.cell? ⟨w1.heap.size, 0, none⟩ = some (.int .i64 (x0 : Int)) := by rw [cell_of_row _ _ _ _ _ _ hbZ]; rfl
          have k1 : Z.cell? ⟨w1.heap.size, 1, none⟩ = some (.int .i64 (x1 : Int)) := by rw [cell_of_row _ _ _ _ _ _ hbZ]; rfl
          have k2 : Z.cell? ⟨w1.heap.size, 2, none⟩ = some (.int .i64 (x2 : Int)) := by rw [cell_of_row _ _ _ _ _ _ hbZ]; rfl
          have HZS : Hid (_ ∧ _) := And.intro hfZ hbZ; have HZ : Hid (w.grownBy Z none ∧ LogIn Z R B (formCs S ++ tl') L) := ⟨hGZ, hLZ⟩
          have HCA : Hid (∀ w' : World, Z.grownBy w' none → Calls _ _ _ w' _) := fun w' hg => wact_any ty R B (formCs S ++ tl') L pre num f w' dg dc D (hLZ.grown0 hg) HL.out.2.2.1 h1 (by omega) HTF.out HW1.out.2.2.2 (HL.out.2.2.2.2.1.grown (grownBy_trans hGZ hg) (by simp)) hdB HL.out.2.2.2.2.2 (by rw [HN.out]; exact hdc) (by rw [HN.out]; exact hd8)
          rw [HN.out, HKR.out.1, HKR.out.2.2.1, HVV.out.1, HVV.out.2.1, HVV.out.2.2.1, HVV.out.2.2.2.1, HVV.out.2.2.2.2.1, HVV.out.2.2.2.2.2] at HCA
          have HST : Hid (wstep L.pl num (decide (pre = [])) (decide (f = 0)) ty D = wact L.pl num (decide (pre = [])) (decide (f = 0)) x0 x1 x2 (D.drop (8 * k)) ty) := by
            show _ = _
            rw [wstep, if_neg h7, if_neg (fun hc => by rcases HTF.out with h | h; exact hc.1 h; exact h (by simpa using hc.2)), if_pos HW1.out.2.2.2, HVV.out.1, HVV.out.2.1, HVV.out.2.2.1, HKR.out.1]
          clear hGZ hbZ hfZ hLZ; have hRl : R < w.heap.size := HL.out.1.cells.2.2.2.2.2; have hV1 : w.heap.size ≤ w1.heap.size := HW1.out.1.size; have hV2 : w.heap.size < V0.heap.size := HY.out.2.2.2.2
          have HEN : Hid (∀ args w', (callFunc fx args).run Tryz.prog w' = .ok (.enter fx args) w') := fun args w' => by rw [← HKR.out.2.2.1]; exact fn_enters ty args h1 (by omega) w'
          refine wp_region_Z (fun W => W.heap[V0.heap.size]? = some (.cells #[.slice (some ⟨gS, 0, none⟩) k k, .int .i64 (rm : Int), .func (.func fx) #[] #[]] 56 (0, 0)) ∧ W.heap[w1.heap.size]? = some (.cells #[.int .i64 (x0 : Int), .int .i64 (x1 : Int), .int .i64 (x2 : Int)] 123 (0, 0))) (fun _ => false) (by kernel_rfl) ?_; have hS : Z.drew.heap[V0.heap.size]? = some (.cells #[.slice (some ⟨gS, 0, none⟩) k k, .int .i64 (rm : Int), .func (.func fx) #[] #[]] 56 (0, 0)) ∧ Z.drew.heap[w1.heap.size]? = some (.cells #[.int .i64 (x0 : Int), .int .i64 (x1 : Int), .int .i64 (x2 : Int)] 123 (0, 0)) := HZS.out; refine wpAnyZ_take' (i := 0) (v := ?vz1) rfl (by kernel_rfl) (by kernel_rfl) (by kernel_rfl) (fun _ _ _ h => h) (Or.inl ⟨by rfl, ?yz1⟩) ?rz1
          case yz1 => (intro w _; go_simp; first | done | with_reducible rfl)
          simp only [Act.put, List.setIfInBounds_toArray, List.set_cons_zero, List.set_cons_succ]; refine wpAnyZ_take' (i := 1) (v := ?vz2) rfl (by kernel_rfl) (by kernel_rfl) (by kernel_rfl) (fun _ _ _ h => h) (Or.inl ⟨by rfl, ?yz2⟩) ?rz2
          case yz2 => (intro w _; go_simp; first | done | with_reducible rfl)
          simp only [Act.put, List.setIfInBounds_toArray, List.set_cons_zero, List.set_cons_succ]; refine wpAnyZ_take' (i := 2) (v := ?vz3) rfl (by kernel_rfl) (by kernel_rfl) (by kernel_rfl) (fun _ _ _ h => h) (Or.inl ⟨by rfl, ?yz3⟩) ?rz3
          case yz3 => (intro w _; go_simp; first | done | with_reducible rfl)
          simp only [Act.put, List.setIfInBounds_toArray, List.set_cons_zero, List.set_cons_succ]; refine wpAnyZ_loadS (i := 3) (v := ?vz4) rfl (by kernel_rfl) (by kernel_rfl) (by kernel_rfl) (fun _ _ _ h => h) (fun _ => rfl) (Or.inl ⟨by rfl, ?yz4⟩) hS ?rz4
          case yz4 => (intro W hW; have c0 : W.cell? ⟨V0.heap.size, 2, none⟩ = some (.func (.func fx) #[] #[]) := (cell_of_row W _ _ _ _ _ hW.1).trans rfl; go_simp; first | done | with_reducible rfl)
          simp only [Act.put, List.setIfInBounds_toArray, List.set_cons_zero, List.set_cons_succ]; refine wpAnyZ_take' (i := 4) (v := ?vz5) rfl (by kernel_rfl) (by kernel_rfl) (by kernel_rfl) (fun _ _ _ h => h) (Or.inl ⟨by rfl, ?yz5⟩) ?rz5
          case yz5 => (intro w _; go_simp; first | done | with_reducible rfl)
          simp only [Act.put, List.setIfInBounds_toArray, List.set_cons_zero, List.set_cons_succ]; refine wpAnyZ_take' (i := 5) (v := ?vz6) rfl (by kernel_rfl) (by kernel_rfl) (by kernel_rfl) (fun _ _ _ h => h) (Or.inl ⟨by rfl, ?yz6⟩) ?rz6
          case yz6 => (intro w _; go_simp; first | done | with_reducible rfl)
          simp only [Act.put, List.setIfInBounds_toArray, List.set_cons_zero, List.set_cons_succ]; refine wpAnyZ_take' (i := 6) (v := ?vz7) rfl (by kernel_rfl) (by kernel_rfl) (by kernel_rfl) (fun _ _ _ h => h) (Or.inl ⟨by rfl, ?yz7⟩) ?rz7
          case yz7 => (intro w _; go_simp; first | done | with_reducible rfl)
          simp only [Act.put, List.setIfInBounds_toArray, List.set_cons_zero, List.set_cons_succ]; refine wpAnyZ_loadS (i := 7) (v := ?vz8) rfl (by kernel_rfl) (by kernel_rfl) (by kernel_rfl) (fun _ _ _ h => h) (fun _ => rfl) (Or.inl ⟨by rfl, ?yz8⟩) hS ?rz8
          case yz8 => (intro W hW; have c0 : W.cell? ⟨w1.heap.size, 0, none⟩ = some (.int .i64 (x0 : Int)) := (cell_of_row W _ _ _ _ _ hW.2).trans rfl; have c1 : W.cell? ⟨w1.heap.size, 1, none⟩ = some (.int .i64 (x1 : Int)) := (cell_of_row W _ _ _ _ _ hW.2).trans rfl; have c2 : W.cell? ⟨w1.heap.size, 2, none⟩ = some (.int .i64 (x2 : Int)) := (cell_of_row W _ _ _ _ _ hW.2).trans rfl; go_simp; first | done | with_reducible rfl)
          simp only [Act.put, List.setIfInBounds_toArray, List.set_cons_zero, List.set_cons_succ]; refine wpAnyZ_take' (i := 8) (v := ?vz9) rfl (by kernel_rfl) (by kernel_rfl) (by kernel_rfl) (fun _ _ _ h => h) (Or.inl ⟨by rfl, ?yz9⟩) ?rz9
          case yz9 => (intro w _; go_simp; first | done | with_reducible rfl)
          simp only [Act.put, List.setIfInBounds_toArray, List.set_cons_zero, List.set_cons_succ]; refine wpAnyZ_one' (i := 9) (by kernel_rfl) rfl (fun K hK => ?_); go_simp; simp only [HEN.out, Oper.upon]; refine (HCA.out Z.drew (grownBy_drew (grownBy_refl Z none))).mono ?_; rintro e w3 ⟨hr3, hcase⟩
          have HKS : Hid (∀ _ : false = false, Z.drew.heap[V0.heap.size]? = some (.cells #[.slice (some ⟨gS, 0, none⟩) k k, .int .i64 (rm : Int), .func (.func fx) #[] #[]] 56 (0, 0)) ∧ Z.drew.heap[w1.heap.size]? = some (.cells #[.int .i64 (x0 : Int), .int .i64 (x1 : Int), .int .i64 (x2 : Int)] 123 (0, 0)) → w3.heap[V0.heap.size]? = some (.cells #[.slice (some ⟨gS, 0, none⟩) k k, .int .i64 (rm : Int), .func (.func fx) #[] #[]] 56 (0, 0)) ∧ w3.heap[w1.heap.size]? = some (.cells #[.int .i64 (x0 : Int), .int .i64 (x1 : Int), .int .i64 (x2 : Int)] 123 (0, 0))) := fun _ h => ⟨hr3.keep h.1 (by omega) (.inr (fun c t f e => by injection e with _ e _; subst e; decide)), hr3.keep h.2 (by omega) (.inr (fun c t f e => by injection e with _ e _; subst e; decide))⟩
          have HR3 : Hid (RowsW w R B w3) := (RowsW.of_grown0 (grownBy_drew HZ.out.1)).trans hr3
          rcases hcase with ⟨L', f', ho, rfl, hl', hs', hf'⟩ | ⟨ho, rfl⟩
          · refine hK.out _ _ HKS.out ?_; have HE : Hid (_ ∧ _ ∧ _ ∧ _) := And.intro ho (And.intro hl' (And.intro hs' hf')); clear hK K ho hl' hs' hf' hr3; simp only [Act.put, List.setIfInBounds_toArray, List.set_cons_zero, List.set_cons_succ]; refine wpAnyZ_one' (i := 10) (by kernel_rfl) rfl (fun K hK => ?_); go_simp; refine hK.out _ _ (fun _ h => h) ?_; clear hK K; (try simp only [Act.put, List.setIfInBounds_toArray, List.set_cons_zero, List.set_cons_succ]); refine wpAnyZ_one' (i := 11) (by kernel_rfl) rfl (fun K hK => ?_); go_simp; refine hK.out _ _ (fun _ h => h) ?_; clear hK K; (try simp only [Act.put, List.setIfInBounds_toArray, List.set_cons_zero, List.set_cons_succ]); refine wpAnyZ_done (by kernel_rfl) ?_ _; go_wp2; go_ret; exact ⟨HR3.out, .inl ⟨L', f', HST.out.trans HE.out.1, rfl, HE.out.2.1, HE.out.2.2.1, HE.out.2.2.2⟩⟩
          · refine hK.out _ _ HKS.out ?_; have HE : Hid (_ = _) := ho; clear hK K ho hr3; simp only [Act.put, List.setIfInBounds_toArray, List.set_cons_zero, List.set_cons_succ]; refine wpAnyZ_one' (i := 10) (by kernel_rfl) rfl (fun K hK => ?_); go_simp; refine hK.out _ _ (fun _ h => h) ?_; clear hK K; (try simp only [Act.put, List.setIfInBounds_toArray, List.set_cons_zero, List.set_cons_succ]); refine wpAnyZ_one' (i := 11) (by kernel_rfl) rfl (fun K hK => ?_); go_simp; refine hK.out _ _ (fun _ h => h) ?_; clear hK K; (try simp only [Act.put, List.setIfInBounds_toArray, List.set_cons_zero, List.set_cons_succ]); refine wpAnyZ_done (by kernel_rfl) ?_ _; go_wp2; go_ret; exact ⟨HR3.out, .inr ⟨HST.out.trans HE.out, rfl⟩⟩
        · have HB : Hid (wstep L.pl num (decide (pre = [])) (decide (f = 0)) ty D = none) := by
            show _ = _
            rw [wstep, if_neg h7, if_neg (fun hc => by rcases HTF.out with h | h; exact hc.1 h; exact h (by simpa using hc.2)), if_neg (by rw [HKR.out.2.1]; exact hno)]
          have HGG : Hid (w.grownBy w1 none) := grownBy_trans HY.out.1 hG3; clear hG3 hno; go_wp2; go_quiet (fail); go_wp2; go_ret; exact ⟨RowsW.of_grown0 (grownBy_trans (grownBy_alloc HGG.out _) (grownBy_drewN _ _)), .inr ⟨HB.out, rfl⟩⟩
    · have d2 : ((ty : Int) != 1) = true := by simp; omega
      have c00 : V0.cell? ⟨w.heap.size, 0, none⟩ = some (.int .i64 (ty : Int)) := by rw [cell_of_row _ _ _ _ _ _ HAA.out.2.2]; rfl
      rw [← HWE.out] at c00; go_wp2_with fail; rw [HWE.out]; refine HC.out.mono ?_; rintro e w1 ⟨rfl, m, rfl⟩; clear HC c00 HWE; have HX : Hid (w.grownBy (V0.drewN m) none ∧ LogIn (V0.drewN m) R B (formCs S ++ tl') L ∧ (V0.drewN m).heap[w.heap.size]? = some (.cells #[.int .i64 (ty : Int), .slice (some ⟨dg, 0, none⟩) n dc] 85 (0, 0))) := ⟨grownBy_trans HAA.out.1 (grownBy_drewN _ _), HAA.out.2.1.heap rfl, HAA.out.2.2⟩; have r1 : (V0.drewN m).cell? ⟨g, pre.length * 2 + 1, none⟩ = some (.int .i64 (f : Int)) := ((bcell HX.out.1).1 _ _ hgl).trans q1; generalize V0.drewN m = V1 at HX r1 ⊢; clear HAA q0 q1 qf
      rcases Classical.em (f = 0) with hf | hf
      · have d3 : ((f : Int) == 0) = true := by simp; omega
        have HF : Hid (f = 0) := hf; clear hf; go_wp2; go_ret; refine ⟨RowsW.of_grown0 HX.out.1, .inr ⟨?_, rfl⟩⟩; rw [wstep, if_neg h7, if_pos ⟨ht, by rw [HF.out]; rfl⟩]
      · have d3 : ((f : Int) == 0) = false := by simp; omega
        have HTF : Hid (ty = 1 ∨ f ≠ 0) := .inr hf; clear hf; go_wp2; clear r1
        have c0 : V1.cell? ⟨w.heap.size, 0, none⟩ = some (.int .i64 (ty : Int)) := by rw [cell_of_row _ _ _ _ _ _ HX.out.2.2]; rfl
        have c1 : V1.cell? ⟨w.heap.size, 1, none⟩ = some (.slice (some ⟨dg, 0, none⟩) n dc) := by rw [cell_of_row _ _ _ _ _ _ HX.out.2.2]; rfl
        obtain ⟨f0, f1, f2⟩ := HX.out.2.1.formAt h1 (Nat.le_of_not_lt h7); obtain ⟨k, hk⟩ : ∃ k, (wb ty).length = k := ⟨_, rfl⟩; obtain ⟨rm, hrm⟩ : ∃ r, wroom ty = r := ⟨_, rfl⟩; obtain ⟨fx, hfx⟩ : ∃ r, wfn ty = r := ⟨_, rfl⟩; obtain ⟨gS, hgS⟩ : ∃ r, S + (ty - 1) = r := ⟨_, rfl⟩; have HKR : Hid ((wb ty).length = k ∧ wroom ty = rm ∧ wfn ty = fx ∧ S + (ty - 1) = gS) := ⟨hk, hrm, hfx, hgS⟩; rw [hk, hgS] at f0; rw [hrm] at f1; rw [hfx] at f2; clear hk hrm hfx hgS
        have e7 : (ty : Int) < 8 := by omega
        have lt1 : w.heap.size < V1.heap.size := cell_block_lt c0; have lt2 : R < V1.heap.size := cell_block_lt f0
        have HTK : Hid (∀ w' : World, w.grownBy w' none → Calls _ _ _ w' _) := fun w' hg => take_any (S + (ty - 1)) (wb ty) (wroom ty) (wfn ty) dg 0 n dc D w' (grown_blk hg (HL.out.2.1 ty h1 (by omega))) (wb_len h1 (by omega)).1 (wb_len h1 (by omega)).2 (wb_small h1 (by omega)) (wroom_le ty) ((HL.out.2.2.2.2.1.sl n HN.out).grown0 hg) hdc hdm (by omega)
        rw [HKR.out.1, HKR.out.2.1, HKR.out.2.2.1, HKR.out.2.2.2] at HTK; go_wp2
        go_region
        all_goals
          have hG2 : w.grownBy ((V1.alloc (.cells #[.slice (some ⟨gS, 0, none⟩) k k, .int .i64 (rm : Int), .func (.func fx) #[] #[]] 56)).drew) none := grownBy_drew (grownBy_alloc HX.out.1 _); have hb2 : ((V1.alloc (.cells #[.slice (some ⟨gS, 0, none⟩) k k, .int .i64 (rm : Int), .func (.func fx) #[] #[]] 56)).drew).heap[V1.heap.size]? = some (.cells #[.slice (some ⟨gS, 0, none⟩) k k, .int .i64 (rm : Int), .func (.func fx) #[] #[]] 56 (0, 0)) := heap_alloc_new V1 _; have HY : Hid (_ ∧ _ ∧ _ ∧ _ ∧ _) := And.intro hG2 (And.intro hb2 (And.intro (grown_blk (grownBy_drew (World.grownBy_alloc V1 (.cells #[.slice (some ⟨gS, 0, none⟩) k k, .int .i64 (rm : Int), .func (.func fx) #[] #[]] 56) none)) HX.out.2.2) (And.intro (HX.out.2.1.grown0 (grownBy_drew (World.grownBy_alloc V1 (.cells #[.slice (some ⟨gS, 0, none⟩) k k, .int .i64 (rm : Int), .func (.func fx) #[] #[]] 56) none))) lt1))); clear c0 c1 f0 f1 f2; generalize (V1.alloc (.cells #[.slice (some ⟨gS, 0, none⟩) k k, .int .i64 (rm : Int), .func (.func fx) #[] #[]] 56)).drew = Y at hG2 hb2 HY ⊢
          have m0 : Y.cell? ⟨V1.heap.size, 0, none⟩ = some (.slice (some ⟨gS, 0, none⟩) k k) := by rw [cell_of_row _ _ _ _ _ _ hb2]; rfl
          have m1 : Y.cell? ⟨V1.heap.size, 1, none⟩ = some (.int .i64 (rm : Int)) := by rw [cell_of_row _ _ _ _ _ _ hb2]; rfl
          have m2 : Y.cell? ⟨V1.heap.size, 2, none⟩ = some (.func (.func fx) #[] #[]) := by rw [cell_of_row _ _ _ _ _ _ hb2]; rfl
          have m3 : Y.cell? ⟨w.heap.size, 1, none⟩ = some (.slice (some ⟨dg, 0, none⟩) n dc) := by rw [cell_of_row _ _ _ _ _ _ HY.out.2.2.1]; rfl
          clear hG2 hb2; go_wp2_with fail; refine (HTK.out Y HY.out.1).mono ?_; clear m0 m1 m2 m3 HTK; rintro e w1 ⟨hG3, ⟨hok, rfl⟩ | ⟨hno, rfl⟩⟩
          · obtain ⟨x0, hx0⟩ : ∃ x, fld (wb ty) D k 0 = x := ⟨_, rfl⟩; obtain ⟨x1, hx1⟩ : ∃ x, fld (wb ty) D k 1 = x := ⟨_, rfl⟩; obtain ⟨x2, hx2⟩ : ∃ x, fld (wb ty) D k 2 = x := ⟨_, rfl⟩; obtain ⟨ad, had⟩ : ∃ x, adr 0 dc (8 * k) = x := ⟨_, rfl⟩; obtain ⟨rn, hrn⟩ : ∃ x, n - 8 * k = x := ⟨_, rfl⟩; obtain ⟨rc, hrc⟩ : ∃ x, dc - 8 * k = x := ⟨_, rfl⟩; rw [hx0, hx1, hx2, had, hrn, hrc]; have HVV : Hid (wn ty D 0 = x0 ∧ wn ty D 1 = x1 ∧ wn ty D 2 = x2 ∧ adr 0 dc (8 * k) = ad ∧ n - 8 * k = rn ∧ dc - 8 * k = rc) := ⟨by rw [wn, HKR.out.1]; exact hx0, by rw [wn, HKR.out.1]; exact hx1, by rw [wn, HKR.out.1]; exact hx2, had, hrn, hrc⟩
            have hOK : WOk (wb ty) (wroom ty) D := by rw [HKR.out.2.1]; exact hok
            clear hx0 hx1 hx2 had hrn hrc; have HW1 : Hid (w.grownBy w1 none ∧ w1.heap[V1.heap.size]? = some (.cells #[.slice (some ⟨gS, 0, none⟩) k k, .int .i64 (rm : Int), .func (.func fx) #[] #[]] 56 (0, 0)) ∧ LogIn w1 R B (formCs S ++ tl') L ∧ WOk (wb ty) (wroom ty) D) := ⟨grownBy_trans HY.out.1 hG3, grown_blk hG3 HY.out.2.1, HY.out.2.2.2.1.grown0 hG3, hOK⟩; clear hG3 hok hOK; go_wp2; have hGZ : w.grownBy (w1.alloc (.cells #[.int .i64 (x0 : Int), .int .i64 (x1 : Int), .int .i64 (x2 : Int)] 123)) none := grownBy_alloc HW1.out.1 _; have hbZ : (w1.alloc (.cells #[.int .i64 (x0 : Int), .int .i64 (x1 : Int), .int .i64 (x2 : Int)] 123)).heap[w1.heap.size]? = some (.cells #[.int .i64 (x0 : Int), .int .i64 (x1 : Int), .int .i64 (x2 : Int)] 123 (0, 0)) := heap_alloc_new w1 _; have hfZ : (w1.alloc (.cells #[.int .i64 (x0 : Int), .int .i64 (x1 : Int), .int .i64 (x2 : Int)] 123)).heap[V1.heap.size]? = _ := grown_blk (World.grownBy_alloc w1 _ none) HW1.out.2.1; have hLZ := HW1.out.2.2.1.grown0 (World.grownBy_alloc w1 (.cells #[.int .i64 (x0 : Int), .int .i64 (x1 : Int), .int .i64 (x2 : Int)] 123) none); generalize w1.alloc (.cells #[.int .i64 (x0 : Int), .int .i64 (x1 : Int), .int .i64 (x2 : Int)] 123) = Z at hGZ hbZ hfZ hLZ ⊢
            have m2 : Z.cell? ⟨V1.heap.size, 2, none⟩ = some (.func (.func fx) #[] #[]) := by rw [cell_of_row _ _ _ _ _ _ hfZ]; rfl
            have k0 : Z.cell? ⟨w1.heap.size, 0, none⟩ = some (.int .i64 (x0 : Int)) := by rw [cell_of_row _ _ _ _ _ _ hbZ]; rfl
            have k1 : Z.cell? ⟨w1.heap.size, 1, none⟩ = some (.int .i64 (x1 : Int)) := by rw [cell_of_row _ _ _ _ _ _ hbZ]; rfl
            have k2 : Z.cell? ⟨w1.heap.size, 2, none⟩ = some (.int .i64 (x2 : Int)) := by rw [cell_of_row _ _ _ _ _ _ hbZ]; rfl
            have HZS : Hid (_ ∧ _) := And.intro hfZ hbZ; have HZ : Hid (w.grownBy Z none ∧ LogIn Z R B (formCs S ++ tl') L) := ⟨hGZ, hLZ⟩
            have HCA : Hid (∀ w' : World, Z.grownBy w' none → Calls _ _ _ w' _) := fun w' hg => wact_any ty R B (formCs S ++ tl') L pre num f w' dg dc D (hLZ.grown0 hg) HL.out.2.2.1 h1 (by omega) HTF.out HW1.out.2.2.2 (HL.out.2.2.2.2.1.grown (grownBy_trans hGZ hg) (by simp)) hdB HL.out.2.2.2.2.2 (by rw [HN.out]; exact hdc) (by rw [HN.out]; exact hd8)
            rw [HN.out, HKR.out.1, HKR.out.2.2.1, HVV.out.1, HVV.out.2.1, HVV.out.2.2.1, HVV.out.2.2.2.1, HVV.out.2.2.2.2.1, HVV.out.2.2.2.2.2] at HCA
            have HST : Hid (wstep L.pl num (decide (pre = [])) (decide (f = 0)) ty D = wact L.pl num (decide (pre = [])) (decide (f = 0)) x0 x1 x2 (D.drop (8 * k)) ty) := by
              show _ = _
              rw [wstep, if_neg h7, if_neg (fun hc => by rcases HTF.out with h | h; exact hc.1 h; exact h (by simpa using hc.2)), if_pos HW1.out.2.2.2, HVV.out.1, HVV.out.2.1, HVV.out.2.2.1, HKR.out.1]
            clear hGZ hbZ hfZ hLZ; have hRl : R < w.heap.size := HL.out.1.cells.2.2.2.2.2; have hV1 : w.heap.size ≤ w1.heap.size := HW1.out.1.size; have hV2 : w.heap.size < V1.heap.size := HY.out.2.2.2.2
            have HEN : Hid (∀ args w', (callFunc fx args).run Tryz.prog w' = .ok (.enter fx args) w') := fun args w' => by rw [← HKR.out.2.2.1]; exact fn_enters ty args h1 (by omega) w'
            refine wp_region_Z (fun W => W.heap[V1.heap.size]? = some (.cells #[.slice (some ⟨gS, 0, none⟩) k k, .int .i64 (rm : Int), .func (.func fx) #[] #[]] 56 (0, 0)) ∧ W.heap[w1.heap.size]? = some (.cells #[.int .i64 (x0 : Int), .int .i64 (x1 : Int), .int .i64 (x2 : Int)] 123 (0, 0))) (fun _ => false) (by kernel_rfl) ?_; have hS : Z.drew.heap[V1.heap.size]? = some (.cells #[.slice (some ⟨gS, 0, none⟩) k k, .int .i64 (rm : Int), .func (.func fx) #[] #[]] 56 (0, 0)) ∧ Z.drew.heap[w1.heap.size]? = some (.cells #[.int .i64 (x0 : Int), .int .i64 (x1 : Int), .int .i64 (x2 : Int)] 123 (0, 0)) := HZS.out; refine wpAnyZ_take' (i := 0) (v := ?vz10) rfl (by kernel_rfl) (by kernel_rfl) (by kernel_rfl) (fun _ _ _ h => h) (Or.inl ⟨by rfl, ?yz10⟩) ?rz10
            case yz10 => (intro w _; go_simp; first | done | with_reducible rfl)
            simp only [Act.put, List.setIfInBounds_toArray, List.set_cons_zero, List.set_cons_succ]; refine wpAnyZ_take' (i := 1) (v := ?vz11) rfl (by kernel_rfl) (by kernel_rfl) (by kernel_rfl) (fun _ _ _ h => h) (Or.inl ⟨by rfl, ?yz11⟩) ?rz11
            case yz11 => (intro w _; go_simp; first | done | with_reducible rfl)
            simp only [Act.put, List.setIfInBounds_toArray, List.set_cons_zero, List.set_cons_succ]; refine wpAnyZ_take' (i := 2) (v := ?vz12) rfl (by kernel_rfl) (by kernel_rfl) (by kernel_rfl) (fun _ _ _ h => h) (Or.inl ⟨by rfl, ?yz12⟩) ?rz12
            case yz12 => (intro w _; go_simp; first | done | with_reducible rfl)
            simp only [Act.put, List.setIfInBounds_toArray, List.set_cons_zero, List.set_cons_succ]; refine wpAnyZ_loadS (i := 3) (v := ?vz13) rfl (by kernel_rfl) (by kernel_rfl) (by kernel_rfl) (fun _ _ _ h => h) (fun _ => rfl) (Or.inl ⟨by rfl, ?yz13⟩) hS ?rz13
            case yz13 => (intro W hW; have c0 : W.cell? ⟨V1.heap.size, 2, none⟩ = some (.func (.func fx) #[] #[]) := (cell_of_row W _ _ _ _ _ hW.1).trans rfl; go_simp; first | done | with_reducible rfl)
            simp only [Act.put, List.setIfInBounds_toArray, List.set_cons_zero, List.set_cons_succ]; refine wpAnyZ_take' (i := 4) (v := ?vz14) rfl (by kernel_rfl) (by kernel_rfl) (by kernel_rfl) (fun _ _ _ h => h) (Or.inl ⟨by rfl, ?yz14⟩) ?rz14
            case yz14 => (intro w _; go_simp; first | done | with_reducible rfl)
            simp only [Act.put, List.setIfInBounds_toArray, List.set_cons_zero, List.set_cons_succ]; refine wpAnyZ_take' (i := 5) (v := ?vz15) rfl (by kernel_rfl) (by kernel_rfl) (by kernel_rfl) (fun _ _ _ h => h) (Or.inl ⟨by rfl, ?yz15⟩) ?rz15
            case yz15 => (intro w _; go_simp; first | done | with_reducible rfl)
            simp only [Act.put, List.setIfInBounds_toArray, List.set_cons_zero, List.set_cons_succ]; refine wpAnyZ_take' (i := 6) (v := ?vz16) rfl (by kernel_rfl) (by kernel_rfl) (by kernel_rfl) (fun _ _ _ h => h) (Or.inl ⟨by rfl, ?yz16⟩) ?rz16
            case yz16 => (intro w _; go_simp; first | done | with_reducible rfl)
            simp only [Act.put, List.setIfInBounds_toArray, List.set_cons_zero, List.set_cons_succ]; refine wpAnyZ_loadS (i := 7) (v := ?vz17) rfl (by kernel_rfl) (by kernel_rfl) (by kernel_rfl) (fun _ _ _ h => h) (fun _ => rfl) (Or.inl ⟨by rfl, ?yz17⟩) hS ?rz17
            case yz17 => (intro W hW; have c0 : W.cell? ⟨w1.heap.size, 0, none⟩ = some (.int .i64 (x0 : Int)) := (cell_of_row W _ _ _ _ _ hW.2).trans rfl; have c1 : W.cell? ⟨w1.heap.size, 1, none⟩ = some (.int .i64 (x1 : Int)) := (cell_of_row W _ _ _ _ _ hW.2).trans rfl; have c2 : W.cell? ⟨w1.heap.size, 2, none⟩ = some (.int .i64 (x2 : Int)) := (cell_of_row W _ _ _ _ _ hW.2).trans rfl; go_simp; first | done | with_reducible rfl)
            simp only [Act.put, List.setIfInBounds_toArray, List.set_cons_zero, List.set_cons_succ]; refine wpAnyZ_take' (i := 8) (v := ?vz18) rfl (by kernel_rfl) (by kernel_rfl) (by kernel_rfl) (fun _ _ _ h => h) (Or.inl ⟨by rfl, ?yz18⟩) ?rz18
            case yz18 => (intro w _; go_simp; first | done | with_reducible rfl)
            simp only [Act.put, List.setIfInBounds_toArray, List.set_cons_zero, List.set_cons_succ]; refine wpAnyZ_one' (i := 9) (by kernel_rfl) rfl (fun K hK => ?_); go_simp; simp only [HEN.out, Oper.upon]; refine (HCA.out Z.drew (grownBy_drew (grownBy_refl Z none))).mono ?_; rintro e w3 ⟨hr3, hcase⟩
            have HKS : Hid (∀ _ : false = false, Z.drew.heap[V1.heap.size]? = some (.cells #[.slice (some ⟨gS, 0, none⟩) k k, .int .i64 (rm : Int), .func (.func fx) #[] #[]] 56 (0, 0)) ∧ Z.drew.heap[w1.heap.size]? = some (.cells #[.int .i64 (x0 : Int), .int .i64 (x1 : Int), .int .i64 (x2 : Int)] 123 (0, 0)) → w3.heap[V1.heap.size]? = some (.cells #[.slice (some ⟨gS, 0, none⟩) k k, .int .i64 (rm : Int), .func (.func fx) #[] #[]] 56 (0, 0)) ∧ w3.heap[w1.heap.size]? = some (.cells #[.int .i64 (x0 : Int), .int .i64 (x1 : Int), .int .i64 (x2 : Int)] 123 (0, 0))) := fun _ h => ⟨hr3.keep h.1 (by omega) (.inr (fun c t f e => by injection e with _ e _; subst e; decide)), hr3.keep h.2 (by omega) (.inr (fun c t f e => by injection e with _ e _; subst e; decide))⟩
            have HR3 : Hid (RowsW w R B w3) := (RowsW.of_grown0 (grownBy_drew HZ.out.1)).trans hr3
            rcases hcase with ⟨L', f', ho, rfl, hl', hs', hf'⟩ | ⟨ho, rfl⟩
            · refine hK.out _ _ HKS.out ?_; have HE : Hid (_ ∧ _ ∧ _ ∧ _) := And.intro ho (And.intro hl' (And.intro hs' hf')); clear hK K ho hl' hs' hf' hr3; simp only [Act.put, List.setIfInBounds_toArray, List.set_cons_zero, List.set_cons_succ]; refine wpAnyZ_one' (i := 10) (by kernel_rfl) rfl (fun K hK => ?_); go_simp; refine hK.out _ _ (fun _ h => h) ?_; clear hK K; (try simp only [Act.put, List.setIfInBounds_toArray, List.set_cons_zero, List.set_cons_succ]); refine wpAnyZ_one' (i := 11) (by kernel_rfl) rfl (fun K hK => ?_); go_simp; refine hK.out _ _ (fun _ h => h) ?_; clear hK K; (try simp only [Act.put, List.setIfInBounds_toArray, List.set_cons_zero, List.set_cons_succ]); refine wpAnyZ_done (by kernel_rfl) ?_ _; go_wp2; go_ret; exact ⟨HR3.out, .inl ⟨L', f', HST.out.trans HE.out.1, rfl, HE.out.2.1, HE.out.2.2.1, HE.out.2.2.2⟩⟩
            · refine hK.out _ _ HKS.out ?_; have HE : Hid (_ = _) := ho; clear hK K ho hr3; simp only [Act.put, List.setIfInBounds_toArray, List.set_cons_zero, List.set_cons_succ]; refine wpAnyZ_one' (i := 10) (by kernel_rfl) rfl (fun K hK => ?_); go_simp; refine hK.out _ _ (fun _ h => h) ?_; clear hK K; (try simp only [Act.put, List.setIfInBounds_toArray, List.set_cons_zero, List.set_cons_succ]); refine wpAnyZ_one' (i := 11) (by kernel_rfl) rfl (fun K hK => ?_); go_simp; refine hK.out _ _ (fun _ h => h) ?_; clear hK K; (try simp only [Act.put, List.setIfInBounds_toArray, List.set_cons_zero, List.set_cons_succ]); refine wpAnyZ_done (by kernel_rfl) ?_ _; go_wp2; go_ret; exact ⟨HR3.out, .inr ⟨HST.out.trans HE.out, rfl⟩⟩
          · have HB : Hid (wstep L.pl num (decide (pre = [])) (decide (f = 0)) ty D = none) := by
              show _ = _
              rw [wstep, if_neg h7, if_neg (fun hc => by rcases HTF.out with h | h; exact hc.1 h; exact h (by simpa using hc.2)), if_neg (by rw [HKR.out.2.1]; exact hno)]
            have HGG : Hid (w.grownBy w1 none) := grownBy_trans HY.out.1 hG3; clear hG3 hno; go_wp2; go_quiet (fail); go_wp2; go_ret; exact ⟨RowsW.of_grown0 (grownBy_trans (grownBy_alloc HGG.out _) (grownBy_drewN _ _)), .inr ⟨HB.out, rfl⟩⟩
end Go.Proofs.YtjnegjgpkboocaaGreatDoor
