/-
  Why bytes don't begin with a record: the program's frameFault, walked.
-/
import Derived.Test.YteacgefklafofaaDoorTake
import Derived.Deep.QuietTactic
import Derived.BigQuiet
namespace Go.Proofs.YteacgefklafofaaDoor
open Go.RowKit

/-- the payload's length, as a record's head tells it -/
def recN (zs : List Nat) : Nat := leVal (zs.take 4)
abbrev headBad (zs : List Nat) : Prop := 8192 < recN zs ∨ zs.getD 4 0 = 0 ∨ zs.getD 5 0 ≠ 0 ∨ zs.getD 6 0 ≠ 0 ∨ zs.getD 7 0 ≠ 0
abbrev sumBad (zs : List Nat) : Prop := leVal ((zs.drop 8).take 4) ≠ Crc.crc (zs.take 8 ++ (zs.drop 12).take (recN zs))
def padBytes (zs : List Nat) : List Nat := (zs.drop (12 + recN zs)).take (pad (recN zs))
abbrev padBad (zs : List Nat) : Prop := ¬ ∀ z ∈ padBytes zs, z = 0
def recSize (zs : List Nat) : Nat := 12 + recN zs + pad (recN zs)
def fault (zs : List Nat) : Nat :=
  if zs.length = 0 then 0 else if zs.length < 12 then 1 else if headBad zs then 2 else if zs.length < recSize zs then 1
  else if sumBad zs then 3 else if padBad zs then 4 else 0
theorem recN_lt (zs : List Nat) (hb : ∀ z ∈ zs, z < 256) : recN zs < 4294967296 := by
  have h1 := leVal_lt (zs.take 4) (fun z hz => hb z (List.mem_of_mem_take hz))
  have h2 : (zs.take 4).length ≤ 4 := by simp; omega
  exact Nat.lt_of_lt_of_le h1 (Nat.le_trans (Nat.pow_le_pow_right (by decide) h2) (by decide))
theorem SlB.drop {w : World} {b off : Nat} {len : Nat} {zs : List Nat} (h : SlB w (some ⟨b, off, none⟩) len zs) (n : Nat) : SlB w (some ⟨b, off + n, none⟩) (len - n) (zs.drop n) := by
  obtain ⟨h1, h2, h3⟩ := h
  refine ⟨by simp; omega, fun z hz => h2 z (List.mem_of_mem_drop hz), fun hn0 => ?_⟩
  obtain ⟨b', off', he, hc⟩ := h3 (by omega)
  obtain ⟨rfl, rfl⟩ : b = b' ∧ off = off' := by simpa using he
  refine ⟨b, off + n, rfl, fun i hi => ?_⟩
  rw [Nat.add_assoc, hc (n + i) (by omega)]
  simp [List.getD]
theorem SlB.cellAt {w : World} {b off : Nat} {len : Nat} {zs : List Nat} (h : SlB w (some ⟨b, off, none⟩) len zs) (i : Nat) (hi : i < len) : w.cell? ⟨b, off + i, none⟩ = some (.int .u8 ((zs.getD i 0 : Nat) : Int)) := by
  obtain ⟨b', off', he, hc⟩ := h.2.2 (by omega)
  obtain ⟨rfl, rfl⟩ : b = b' ∧ off = off' := by simpa using he
  exact hc i hi

set_option maxHeartbeats 1000000 in
theorem frameFault_short (oa : Option Addr) (len cap : Nat) (w : World) (h : len < 12) :
    Calls Tryd.prog 45 #[.slice oa len cap] w fun e w' => e = .returned (.int .i64 (if len = 0 then 0 else 1)) ∧ w' = w := by
  by_cases h0 : len = 0
  · subst h0
    rw [if_pos rfl]
    go_enter Tryd.func45, Tryd.ntmps45
    go_wp2
    go_ret
    exact ⟨rfl, rfl⟩
  · rw [if_neg h0]
    go_enter Tryd.func45, Tryd.ntmps45
    go_wp2
    go_ret
    exact ⟨rfl, rfl⟩

set_option maxHeartbeats 2000000 in
theorem frameFault_head (b off : Nat) (len cap : Nat) (zs : List Nat) (w : World) (hsl : SlB w (some ⟨b, off, none⟩) len zs) (h12 : 12 ≤ len) (hm : len ≤ 1073741824) (hbad : headBad zs) :
    Calls Tryd.prog 45 #[.slice (some ⟨b, off, none⟩) len cap] w fun e w' => e = .returned (.int .i64 2) ∧ w' = w := by
  have HT : Hid (Calls _ _ _ _ _) := takeNumber_any _ len cap zs w hsl (by omega) hm
  have hn := recN_lt zs hsl.2.1
  have c4 := hsl.cellAt 4 (by omega)
  have c5 := hsl.cellAt 5 (by omega)
  have c6 := hsl.cellAt 6 (by omega)
  have c7 := hsl.cellAt 7 (by omega)
  have l4 : zs.getD 4 0 < 256 := hsl.2.1 _ (Crc.getD_mem _ _ (by have := hsl.1; omega))
  have l5 : zs.getD 5 0 < 256 := hsl.2.1 _ (Crc.getD_mem _ _ (by have := hsl.1; omega))
  have l6 : zs.getD 6 0 < 256 := hsl.2.1 _ (Crc.getD_mem _ _ (by have := hsl.1; omega))
  have l7 : zs.getD 7 0 < 256 := hsl.2.1 _ (Crc.getD_mem _ _ (by have := hsl.1; omega))
  unfold headBad at hbad
  rw [show leVal (zs.take 4) = recN zs from rfl] at HT
  generalize recN zs = n at *
  generalize zs.getD 4 0 = z4 at *
  generalize zs.getD 5 0 = z5 at *
  generalize zs.getD 6 0 = z6 at *
  generalize zs.getD 7 0 = z7 at *
  clear hsl
  have hlI : (12 : Int) ≤ (len : Int) := by omega
  by_cases g0 : 8192 < n
  · clear hbad
    go_enter Tryd.func45, Tryd.ntmps45
    go_wp2_with fail
    refine HT.out.mono ?_
    clear HT
    rintro e w1 ⟨rfl, rfl⟩
    go_wp2
    go_ret
    exact ⟨rfl, rfl⟩
  · by_cases g4 : z4 = 0
    · clear hbad
      subst g4
      go_enter Tryd.func45, Tryd.ntmps45
      go_wp2_with fail
      refine HT.out.mono ?_
      clear HT
      rintro e w1 ⟨rfl, rfl⟩
      go_wp2
      go_ret
      exact ⟨rfl, rfl⟩
    · by_cases g5 : z5 = 0
      · subst g5
        by_cases g6 : z6 = 0
        · subst g6
          have g7 : z7 ≠ 0 := by
            rcases hbad with h | h | h | h | h
            · exact absurd h g0
            · exact absurd h g4
            · exact absurd rfl h
            · exact absurd rfl h
            · exact h
          clear hbad
          have d7 : ((z7 : Int) != 0) = true := by rw [bne_iff_ne]; omega
          have d4 : ((z4 : Int) == 0) = false := by rw [beq_eq_false_iff_ne]; omega
          go_enter Tryd.func45, Tryd.ntmps45
          go_wp2_with fail
          refine HT.out.mono ?_
          clear HT
          rintro e w1 ⟨rfl, rfl⟩
          go_wp2
          go_ret
          exact ⟨rfl, rfl⟩
        · clear hbad
          go_enter Tryd.func45, Tryd.ntmps45
          go_wp2_with fail
          refine HT.out.mono ?_
          clear HT
          rintro e w1 ⟨rfl, rfl⟩
          go_wp2
          go_ret
          exact ⟨rfl, rfl⟩
      · clear hbad
        go_enter Tryd.func45, Tryd.ntmps45
        go_wp2_with fail
        refine HT.out.mono ?_
        clear HT
        rintro e w1 ⟨rfl, rfl⟩
        go_wp2
        go_ret
        exact ⟨rfl, rfl⟩

end Go.Proofs.YteacgefklafofaaDoor
