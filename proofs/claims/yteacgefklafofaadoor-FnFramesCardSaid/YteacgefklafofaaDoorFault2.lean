/-
  The program's frameFault where the head is right.
-/
import Derived.Test.YteacgefklafofaaDoorFault
namespace Go.Proofs.YteacgefklafofaaDoor
open Go.RowKit

set_option maxHeartbeats 4000000
/-- a piece of bytes that came in, as the machine points at it -/
theorem SlB.cut {w : World} {b off : Nat} {len : Nat} {zs : List Nat} (h : SlB w (some ⟨b, off, none⟩) len zs) (i n cap : Nat) (hi : i + n ≤ len) (hc : len ≤ cap) : SlB w (if cap = i then some ⟨b, off, none⟩ else some ⟨b, off + i, none⟩) n ((zs.drop i).take n) := by
  by_cases hci : cap = i
  · rw [if_pos hci]
    obtain rfl : n = 0 := by omega
    exact ⟨by simp, by simp, fun h => absurd rfl h⟩
  · rw [if_neg hci]
    exact (h.drop i).take n (by omega)
theorem grownBy_drewN (w : World) (n : Nat) : w.grownBy (w.drewN n) none := ⟨rfl, rfl, rfl, Nat.le_refl _, fun _ _ _ => rfl⟩
/-- what is right ahead of the sum's look -/
theorem frameFault_long (b off : Nat) (len cap : Nat) (zs : List Nat) (w : World) (hsl : SlB w (some ⟨b, off, none⟩) len zs) (ht : Tab w) (h12 : 12 ≤ len) (hlc : len ≤ cap) (hm : cap ≤ maxLen) (hm2 : len ≤ 1073741824) (hok : ¬ headBad zs) :
    Calls Tryd.prog 45 #[.slice (some ⟨b, off, none⟩) len cap] w fun e w' => e = .returned (.int .i64 ((fault zs : Nat) : Int)) ∧ w.grownBy w' none := by
  unfold maxLen at hm
  have HF : Hid (fault zs = if len < recSize zs then 1 else if sumBad zs then 3 else if padBad zs then 4 else 0) := by
    show _ = _
    have hl := hsl.1
    unfold fault
    rw [hl, if_neg (by omega), if_neg (by omega), if_neg hok]
  have HT : Hid (Calls _ _ _ _ _) := takeNumber_any _ len cap zs w hsl (by omega) hm2
  have c4 := hsl.cellAt 4 (by omega)
  have c5 := hsl.cellAt 5 (by omega)
  have c6 := hsl.cellAt 6 (by omega)
  have c7 := hsl.cellAt 7 (by omega)
  obtain ⟨g0, g4, g5, g6, g7⟩ : recN zs ≤ 8192 ∧ zs.getD 4 0 ≠ 0 ∧ zs.getD 5 0 = 0 ∧ zs.getD 6 0 = 0 ∧ zs.getD 7 0 = 0 := by
    unfold headBad at hok
    refine ⟨?_, ?_, ?_, ?_, ?_⟩
    · exact Nat.le_of_not_lt fun h => hok (.inl h)
    · exact fun h => hok (.inr (.inl h))
    · exact Classical.byContradiction fun h => hok (.inr (.inr (.inl h)))
    · exact Classical.byContradiction fun h => hok (.inr (.inr (.inr (.inl h))))
    · exact Classical.byContradiction fun h => hok (.inr (.inr (.inr (.inr h))))
  have l4 : zs.getD 4 0 < 256 := hsl.2.1 _ (Crc.getD_mem _ _ (by have := hsl.1; omega))
  rw [g5] at c5
  rw [g6] at c6
  rw [g7] at c7
  have HS : Hid (SlB w _ len zs) := hsl
  have HTab : Hid (Tab w) := ht
  rw [show leVal (zs.take 4) = recN zs from rfl] at HT
  obtain ⟨n, hn⟩ : ∃ n, recN zs = n := ⟨_, rfl⟩
  have HN : Hid (recN zs = n) := hn
  rw [hn] at HT g0
  obtain ⟨z4, hz4⟩ : ∃ z, zs.getD 4 0 = z := ⟨_, rfl⟩
  rw [hz4] at c4 l4 g4
  have hlI : (12 : Int) ≤ (len : Int) := by omega
  have d4 : ((z4 : Int) == 0) = false := by rw [beq_eq_false_iff_ne]; omega
  have d0 : decide ((8192 : Int) < (n : Int)) = false := by rw [decide_eq_false_iff_not]; omega
  have hp4 := pad_lt n
  have HP : Hid (∀ w', Calls _ _ _ w' _) := fun w' => padding_any n w' (by omega)
  obtain ⟨p, hp⟩ : ∃ p, pad n = p := ⟨_, rfl⟩
  rw [hp] at HP hp4
  have HSZ : Hid (recSize zs = 12 + n + p) := by show _ = _; unfold recSize; rw [hn, hp]
  have HPE : Hid (pad n = p) := hp
  clear hsl ht hok hn hz4 g5 g6 g7 hp
  by_cases hsh : len < 12 + n + p
  · rw [if_pos (by rw [HSZ.out]; exact hsh)] at HF
    go_enter Tryd.func45, Tryd.ntmps45
    go_wp2_with fail
    refine HT.out.mono ?_
    clear HT
    rintro e w1 ⟨rfl, rfl⟩
    go_wp2_with fail
    refine (HP.out w1).mono ?_
    clear HP
    rintro e w2 ⟨rfl, rfl⟩
    go_wp2
    go_ret
    exact ⟨by rw [HF.out]; rfl, grownBy_refl _ _⟩
  · have HT8 : Hid (∀ w', w'.heap = w.heap → Calls _ _ _ w' _) := fun w' hh => takeNumber_any _ (len - 8) (cap - 8) (zs.drop 8) w' ((HS.out.drop 8).heap hh) (by omega) (by omega)
    have HR : Hid (∀ w', w'.heap = w.heap → Calls _ _ _ w' _) := fun w' hh => recordSum_any _ len cap zs (if cap = 12 then some ⟨b, off, none⟩ else some ⟨b, off + 12, none⟩) n (cap - 12) ((zs.drop 12).take n) w' (HS.out.heap hh) (by omega) hlc (by unfold maxLen; omega) ((HS.out.cut 12 n cap (by omega) hlc).heap hh) (HTab.out.heap hh) (by omega)
    have hs1 : leVal ((zs.drop 8).take 4) < 4294967296 := by
      have h1 := leVal_lt ((zs.drop 8).take 4) (fun z hz => HS.out.2.1 z (List.mem_of_mem_drop (List.mem_of_mem_take hz)))
      have h2 : ((zs.drop 8).take 4).length ≤ 4 := by simp; omega
      exact Nat.lt_of_lt_of_le h1 (Nat.le_trans (Nat.pow_le_pow_right (by decide) h2) (by decide))
    have hs2 := crc_lt (zs.take 8 ++ (zs.drop 12).take n)
    have HSB : Hid (sumBad zs ↔ leVal ((zs.drop 8).take 4) ≠ Crc.crc (zs.take 8 ++ (zs.drop 12).take n)) := by show _ ↔ _; unfold sumBad; rw [HN.out]
    generalize leVal ((zs.drop 8).take 4) = S1 at HT8 hs1 HSB
    generalize Crc.crc (zs.take 8 ++ (zs.drop 12).take n) = S2 at HR hs2 HSB
    rw [if_neg (by rw [HSZ.out]; exact hsh)] at HF
    have hzI : (12 : Int) + n + p ≤ (len : Int) := by omega
    have hcI : (len : Int) ≤ (cap : Int) := by omega
    have hq0 : (0 : Int) ≤ (12 : Int) + n := by omega
    have hq1 : (12 : Int) + n ≤ (cap : Int) := by omega
    have hq2 : (12 : Int) ≤ (12 : Int) + n := by omega
    have hq3 : (8 : Int) ≤ (len : Int) := by omega
    have hq4 : ¬ cap = 8 := by omega
    obtain ⟨ad, had⟩ : ∃ ad : Option Addr, (if cap = 12 then some (⟨b, off, none⟩ : Addr) else some ⟨b, off + 12, none⟩) = ad := ⟨_, rfl⟩
    rw [had] at HR
    by_cases hsum : S1 = S2
    · rw [if_neg (fun h => HSB.out.1 h hsum)] at HF
      subst hsum
      have HPB : Hid (padBytes zs = (zs.drop (12 + n)).take p) := by show _ = _; unfold padBytes; rw [HN.out, HPE.out]
      obtain ⟨ad2, had2⟩ : ∃ ad : Option Addr, (if cap = 12 + n then some (⟨b, off, none⟩ : Addr) else some ⟨b, off + (12 + n), none⟩) = ad := ⟨_, rfl⟩
      have HQ := HS.out.cut (12 + n) p cap (by omega) hlc
      rw [had2, ← HPB.out] at HQ
      have HQ2 : Hid (SlB w ad2 p (padBytes zs)) := HQ
      have hq5 : (12 : Int) + n ≤ (12 : Int) + n + p := by omega
      have hq6 : (12 : Int) + n + p ≤ (cap : Int) := by omega
      clear HQ
      go_enter Tryd.func45, Tryd.ntmps45
      go_wp2_with fail
      refine HT.out.mono ?_
      clear HT
      rintro e w1 ⟨rfl, rfl⟩
      go_wp2_with fail
      refine (HP.out w1).mono ?_
      rintro e w2 ⟨rfl, rfl⟩
      go_wp2
      go_quiet (first | (go_at_call 46; refine Calls.quiet_of_same (HT8.out _ rfl)) | (go_at_call 39; refine Calls.quiet_of_same (HR.out _ rfl)) | fail)
      go_wp2_with fail
      refine (HP.out _).mono ?_
      rintro e w2' ⟨rfl, rfl⟩
      clear HT8 HR HP c4 c5 c6 c7 had
      have hl : (padBytes zs).length = p := HQ2.out.1
      have HQC : Hid (∀ k, k < p → w2.cell? ⟨b, off + (12 + n) + k, none⟩ = some (.int .u8 (((padBytes zs).getD k 0 : Nat) : Int))) := by
        intro k hk
        have hcn : ¬ cap = 12 + n := by omega
        have h1 := HQ2.out
        rw [← had2, if_neg hcn] at h1
        exact h1.cellAt k hk
      have HQ0 : Hid (cap = 12 + n → p = 0) := fun h => by omega
      have HQB : Hid (∀ z ∈ padBytes zs, z < 256) := HQ2.out.2.1
      clear had2 HQ2 HSB
      go_wp2
      all_goals
        go_loop [70] (fun i => ∃ k : Nat, k ≤ p ∧ i = .int .i64 (k : Int) ∧ ∀ j, j < k → (padBytes zs).getD j 0 = 0) (fun i => p - (intOf i).toNat)
        case atStart => exact ⟨0, Nat.zero_le _, rfl, fun j hj => by omega⟩
        case round =>
          obtain ⟨k, hk, rfl, hz⟩ := hrel
          have HZ : Hid (∀ j, j < k → _) := hz
          clear hz
          by_cases hlt : k < p
          · first
              | (exfalso; have := HQ0.out (by assumption); omega)
              | have hck := HQC.out k hlt
                obtain ⟨c, hce⟩ : ∃ c, (padBytes zs).getD k 0 = c := ⟨_, rfl⟩
                have hcm : c ∈ padBytes zs := by rw [← hce]; exact Crc.getD_mem _ _ (by omega)
                have hc256 := HQB.out c hcm
                rw [hce] at hck
                have HCE : Hid ((padBytes zs).getD k 0 = c ∧ c ∈ padBytes zs) := ⟨hce, hcm⟩
                clear hce hcm
                by_cases hc0 : c = 0
                · subst hc0
                  go_wp2
                  go_round
                  case rel =>
                    refine ⟨k + 1, by omega, by go_num, fun j hj => ?_⟩
                    by_cases hjk : j = k
                    · rw [hjk]; exact HCE.out.1
                    · exact HZ.out j (by omega)
                  case measure => simp [intOf]; omega
                · have hcn : ((c : Int) != 0) = true := by rw [bne_iff_ne]; omega
                  go_wp2
                  go_ret
                  refine ⟨?_, grownBy_drewN _ _⟩
                  rw [HF.out, if_pos (show padBad zs from fun h => hc0 (h c HCE.out.2))]
                  rfl
          · obtain rfl : k = p := by omega
            have HG : Hid (¬ padBad zs) := by
              intro hb
              refine hb fun z hzm => ?_
              obtain ⟨j, hj, rfl⟩ := List.getElem_of_mem hzm
              have := HZ.out j (by omega)
              simpa [List.getD_eq_getElem?_getD, List.getElem?_eq_getElem hj] using this
            go_wp2
            go_ret
            refine ⟨?_, grownBy_drewN _ _⟩
            rw [HF.out, if_neg HG.out]
            rfl
    · rw [if_pos (HSB.out.2 hsum)] at HF
      have hne : ((S1 : Int) != (S2 : Int)) = true := by rw [bne_iff_ne]; omega
      have hne2 : ((S1 : Int) == (S2 : Int)) = false := by rw [beq_eq_false_iff_ne]; omega
      have hne3 : ¬ (S1 : Int) = (S2 : Int) := by omega
      go_enter Tryd.func45, Tryd.ntmps45
      go_wp2_with fail
      refine HT.out.mono ?_
      clear HT
      rintro e w1 ⟨rfl, rfl⟩
      go_wp2_with fail
      refine (HP.out w1).mono ?_
      clear HP
      rintro e w2 ⟨rfl, rfl⟩
      go_wp2
      go_quiet (first | (go_at_call 46; refine Calls.quiet_of_same (HT8.out _ rfl)) | (go_at_call 39; refine Calls.quiet_of_same (HR.out _ rfl)) | fail)
      go_wp2
      go_ret
      exact ⟨by rw [HF.out]; rfl, grownBy_drewN _ _⟩

/-- frameFault, at any bytes -/
theorem frameFault_any (oa : Option Addr) (len cap : Nat) (zs : List Nat) (w : World) (hsl : SlB w oa len zs) (ht : Tab w) (hlc : len ≤ cap) (hm : cap ≤ maxLen) (hm2 : len ≤ 1073741824) :
    Calls Tryd.prog 45 #[.slice oa len cap] w fun e w' => e = .returned (.int .i64 ((fault zs : Nat) : Int)) ∧ w.grownBy w' none := by
  have hl := hsl.1
  by_cases h12 : len < 12
  · refine (frameFault_short oa len cap w h12).mono ?_
    rintro e w' ⟨rfl, rfl⟩
    refine ⟨?_, grownBy_refl _ _⟩
    unfold fault
    rw [hl]
    by_cases h0 : len = 0
    · rw [if_pos h0, if_pos h0]; rfl
    · rw [if_neg h0, if_neg h0, if_pos h12]; rfl
  · obtain ⟨b, off, rfl, -⟩ := hsl.2.2 (by omega)
    by_cases hb : headBad zs
    · refine (frameFault_head b off len cap zs w hsl (by omega) hm2 hb).mono ?_
      rintro e w' ⟨rfl, rfl⟩
      refine ⟨?_, grownBy_refl _ _⟩
      unfold fault
      rw [hl, if_neg (by omega), if_neg h12, if_pos hb]
      rfl
    · exact frameFault_long b off len cap zs w hsl ht (by omega) hlc hm hm2 hb
end Go.Proofs.YteacgefklafofaaDoor
