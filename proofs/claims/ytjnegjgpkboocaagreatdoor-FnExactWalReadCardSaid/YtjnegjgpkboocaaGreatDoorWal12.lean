/-
  CodeC, GoodW
-/
import Derived.Test.YtjnegjgpkboocaaGreatDoorWal11
import Derived.Test.YtjnegjgpkboocaaGreatDoorWal9
import Derived.Deep.DeepCutAuto
import Derived.Deep.CutRange
/-
  codeOf at errCorrupt.
-/
namespace Go.Proofs.YtjnegjgpkboocaaGreatDoor
open Go.RowKit

/-- the package's errors and the library's type lie where the program's text lays them -/
structure ErrsAt (w : World) (ad : Nat → Addr) : Prop where
  cell : ∀ k, k < 12 → w.cell? ⟨k, 0, none⟩ = some (.iface 177 (.pointer (some (ad k))))
  blk : ∀ k, k < 12 → ∃ ca ta, w.heap[(ad k).block]? = some (.cells ca ta (0, 0))
  far : ∀ j k, j < 12 → k < 12 → j ≠ k → ad j ≠ ad k
  typ : w.cell? ⟨12, 0, none⟩ = some (.iface 155 (.agg #[.pointer (some ⟨14, 62, none⟩)]))
theorem ErrsAt.grown {w w' : World} {ad : Nat → Addr} (h : ErrsAt w ad) (hg : w.grownBy w' none) : ErrsAt w' ad := by
  obtain ⟨hc, -⟩ := bcell hg; refine ⟨fun k hk => (hc _ _ (cell_block_lt (h.cell k hk))).trans (h.cell k hk), fun k hk => ?_, h.far, (hc _ _ (cell_block_lt h.typ)).trans h.typ⟩; obtain ⟨ca, ta, hb⟩ := h.blk k hk; exact ⟨ca, ta, (hg.block _ (Array.getElem?_eq_some_iff.1 hb).1 (by simp)).trans hb⟩
theorem ErrsAt.other {w : World} {ad : Nat → Addr} (h : ErrsAt w ad) (j k : Nat) (hj : j < 12) (hk : k < 12) (hne : j ≠ k) :
    Calls Tryz.prog 43 #[.iface 177 (.pointer (some (ad j))), .iface 177 (.pointer (some (ad k)))] w fun e w' => e = .returned (.bool false) ∧ w' = w := by
  obtain ⟨ca, ta, ha⟩ := h.blk j hj; obtain ⟨cb, tb, hb⟩ := h.blk k hk; exact is_other (ad j) (ad k) ca cb ta tb w (h.far j k hj hk hne) ha hb
set_option maxRecDepth 100000 in
set_option maxHeartbeats 4000000 in
theorem codeOf_corrupt (ad : Nat → Addr) (w : World) (h : ErrsAt w ad) :
    Calls Tryz.prog 19 #[.iface 177 (.pointer (some (ad 0)))] w fun e w' => e = .returned (.int .i64 8) ∧ w.grownBy w' none := by
  have HE : Hid (ErrsAt w ad) := h; clear h
  go_enter Tryz.func19, Tryz.ntmps19
  go_wp2_with fail; refine (as_miss (ad 0) _ _ (HE.out.grown (World.grownBy_alloc _ _ _)).typ).mono ?_; rintro e w1 ⟨rfl, hG1⟩; have HE1 : Hid (ErrsAt w1 ad ∧ w.grownBy w1 none) := ⟨(HE.out.grown (World.grownBy_alloc _ _ _)).grown hG1, grownBy_trans (World.grownBy_alloc _ _ _) hG1⟩; have c0 := HE1.out.1.cell 0 (by decide); have c1 := HE1.out.1.cell 1 (by decide); have c2 := HE1.out.1.cell 2 (by decide); have c3 := HE1.out.1.cell 3 (by decide); have c4 := HE1.out.1.cell 4 (by decide); have c5 := HE1.out.1.cell 5 (by decide); have c6 := HE1.out.1.cell 6 (by decide); clear hG1; go_wp2_with fail; refine (HE1.out.1.other 0 1 (by decide) (by decide) (by decide)).mono ?_; rintro e w' ⟨rfl, hw'⟩; subst hw'; go_wp2_with fail; refine (HE1.out.1.other 0 2 (by decide) (by decide) (by decide)).mono ?_; rintro e w' ⟨rfl, hw'⟩; subst hw'; go_wp2_with fail; refine (HE1.out.1.other 0 3 (by decide) (by decide) (by decide)).mono ?_; rintro e w' ⟨rfl, hw'⟩; subst hw'; go_wp2_with fail; refine (HE1.out.1.other 0 4 (by decide) (by decide) (by decide)).mono ?_; rintro e w' ⟨rfl, hw'⟩; subst hw'; go_wp2_with fail; refine (HE1.out.1.other 0 5 (by decide) (by decide) (by decide)).mono ?_; rintro e w' ⟨rfl, hw'⟩; subst hw'; go_wp2_with fail; refine (HE1.out.1.other 0 6 (by decide) (by decide) (by decide)).mono ?_; rintro e w' ⟨rfl, hw'⟩; subst hw'; go_wp2_with fail; refine (is_same (ad 0) _).mono ?_; rintro e w' ⟨rfl, hw'⟩; subst hw'; go_wp2; go_ret; exact ⟨rfl, HE1.out.2⟩
def gch (c : Nat) : Bool := (decide (97 ≤ c) && decide (c ≤ 122)) || (decide (48 ≤ c) && decide (c ≤ 57)) || decide (c = 46) || decide (c = 45)
def goodN (s : ByteArray) : Bool := decide (1 ≤ s.size ∧ s.size ≤ 24) && (bs s).all gch
set_option maxRecDepth 4000 in
set_option maxHeartbeats 4000000 in
theorem goodName_any (s : ByteArray) (w : World) (hs : s.size ≤ 1048576) :
    Calls Tryz.prog 36 #[.string s] w fun e w' => e = .returned (.bool (goodN s)) ∧ w' = w := by
  have HS : Hid (s.size ≤ 1048576) := hs
  by_cases h1 : s.size < 1
  · have HB : Hid (goodN s = false) := by show _ = _; rw [goodN, decide_eq_false (by omega)]; rfl
    have e1 : ((s.size : Nat) : Int) < 1 := by omega
    go_enter Tryz.func36, Tryz.ntmps36
    go_wp2; go_ret; exact ⟨by rw [HB.out]; rfl, rfl⟩
  · have e1 : ¬ ((s.size : Nat) : Int) < 1 := by omega
    by_cases h2 : 24 < s.size
    · have HB : Hid (goodN s = false) := by show _ = _; rw [goodN, decide_eq_false (by omega)]; rfl
      have e2 : (24 : Int) < ((s.size : Nat) : Int) := by omega
      go_enter Tryz.func36, Tryz.ntmps36
      go_wp2; go_ret; exact ⟨by rw [HB.out]; rfl, rfl⟩
    · have HG : Hid (goodN s = (bs s).all gch) := by show _ = _; rw [goodN, decide_eq_true ⟨by omega, by omega⟩]; rfl
      have e2 : ¬ (24 : Int) < ((s.size : Nat) : Int) := by omega
      have hL : (bs s).length = s.size := bs_len s; obtain ⟨n, hn⟩ : ∃ n, s.size = n := ⟨_, rfl⟩; have HN : Hid (s.size = n) := hn
      have hnb : n ≤ 24 := by omega
      go_enter Tryz.func36, Tryz.ntmps36
      go_wp2
      go_loopw [15] (fun i wr => ∃ k : Nat, k ≤ n ∧ i = .int .i64 (k : Int) ∧ ((bs s).take k).all gch = true ∧ wr = w) (fun i _ => n - (intOf i).toNat)
      case atStart => exact ⟨0, Nat.zero_le _, rfl, rfl, rfl⟩
      case round =>
        obtain ⟨k, hk, rfl, hd, rfl⟩ := hrel; have HD : Hid (((bs s).take k).all gch = true) := hd; clear hd
        by_cases hlt : k < n
        · have hi : k < s.size := by omega
          have hc := bs_get s k hi
          have HT : Hid ((bs s).take (k + 1) = (bs s).take k ++ [(bs s).getD k 0] ∧ (bs s).getD k 0 ∈ bs s) := ⟨take_snoc (bs s) k (by omega), by
            have h9 : k < (bs s).length := by omega
            simp [List.getD, h9]⟩
          obtain ⟨c, hce⟩ : ∃ c, (bs s).getD k 0 = c := ⟨_, rfl⟩
          have hc256 : c < 256 := by rw [← hce]; exact bs_lt s _ HT.out.2
          rw [hce] at hc HT; clear hce
          have hkI : (k : Int) < (n : Int) := by omega
          obtain ⟨g, hg⟩ : ∃ g, gch c = g := ⟨_, rfl⟩; have HC : Hid (gch c = g) := hg; clear hg
          go_upto_region 7 with fail
          go_cut [43] (fun t wx => t = .bool (!g) ∧ wx = wr)
          case first =>
            by_cases a1 : 97 ≤ c
            · have b1 : (97 : Int) ≤ (c : Int) := by omega
              by_cases a2 : c ≤ 122
              · have b2 : (c : Int) ≤ 122 := by omega
                obtain rfl : true = g := by rw [← HC.out]; simp [gch, a1, a2]
                go_wp2_with fail; go_meet
                case rel => exact ⟨by first | rfl | simp, rfl⟩
              · have b2 : ¬ (c : Int) ≤ 122 := by omega
                have b3 : (48 : Int) ≤ (c : Int) := by omega
                have b4 : ¬ (c : Int) ≤ 57 := by omega
                have b5 : ((c : Int) == 46) = false := by simp; omega
                have b6 : ((c : Int) == 45) = false := by simp; omega
                obtain rfl : false = g := by rw [← HC.out]; simp [gch]; omega
                go_wp2_with fail; go_meet
                case rel => exact ⟨by first | rfl | simp, rfl⟩
            · have b1 : ¬ (97 : Int) ≤ (c : Int) := by omega
              by_cases a3 : 48 ≤ c
              · have b3 : (48 : Int) ≤ (c : Int) := by omega
                by_cases a4 : c ≤ 57
                · have b4 : (c : Int) ≤ 57 := by omega
                  obtain rfl : true = g := by rw [← HC.out]; simp [gch, a3, a4]
                  go_wp2_with fail; go_meet
                  case rel => exact ⟨by first | rfl | simp, rfl⟩
                · have b4 : ¬ (c : Int) ≤ 57 := by omega
                  have b5 : ((c : Int) == 46) = false := by simp; omega
                  have b6 : ((c : Int) == 45) = false := by simp; omega
                  obtain rfl : false = g := by rw [← HC.out]; simp [gch]; omega
                  go_wp2_with fail; go_meet
                  case rel => exact ⟨by first | rfl | simp, rfl⟩
              · have b3 : ¬ (48 : Int) ≤ (c : Int) := by omega
                by_cases a5 : c = 46
                · subst a5
                  obtain rfl : true = g := by rw [← HC.out]; decide
                  go_wp2_with fail; go_meet
                  case rel => exact ⟨by first | rfl | simp, rfl⟩
                · have b5 : ((c : Int) == 46) = false := by simp; omega
                  by_cases a6 : c = 45
                  · subst a6
                    obtain rfl : true = g := by rw [← HC.out]; decide
                    go_wp2_with fail; go_meet
                    case rel => exact ⟨by first | rfl | simp, rfl⟩
                  · have b6 : ((c : Int) == 45) = false := by simp; omega
                    obtain rfl : false = g := by rw [← HC.out]; simp [gch]; omega
                    go_wp2_with fail; go_meet
                    case rel => exact ⟨by first | rfl | simp, rfl⟩
          case rest =>
            obtain ⟨rfl, rfl⟩ := hcut
            cases g with
            | true =>
              go_wp2; go_roundw
              case rel => exact ⟨k + 1, by omega, by go_num, by rw [HT.out.1, List.all_append, HD.out]; simp [HC.out], by first | trivial | rfl⟩
              case measure => simp [intOf]; omega
            | false =>
              have HB : Hid (goodN s = false) := by
                show _ = _
                rw [HG.out]; rw [List.all_eq_false]; exact ⟨c, HT.out.2, by rw [HC.out]; simp⟩
              go_wp2; go_ret; exact ⟨by rw [HB.out]; rfl, rfl⟩
        · obtain rfl : k = n := by omega
          have HB : Hid (goodN s = true) := by
            show _ = _
            rw [HG.out]; have h9 := HD.out
            rwa [List.take_of_length_le (by omega)] at h9
          go_wp2; go_ret; exact ⟨by rw [HB.out]; rfl, rfl⟩
set_option maxRecDepth 4000 in
set_option maxHeartbeats 4000000 in
theorem L1Good_any (s : ByteArray) (w : World) (hs : s.size ≤ 1048576) :
    Calls Tryz.prog 30 #[.string s] w fun e w' => e = .returned (.bool (goodN s)) ∧ w' = w := by
  have HS : Hid (s.size ≤ 1048576) := hs
  by_cases h1 : s.size < 1
  · have HB : Hid (goodN s = false) := by show _ = _; rw [goodN, decide_eq_false (by omega)]; rfl
    have e1 : ((s.size : Nat) : Int) < 1 := by omega
    go_enter Tryz.func30, Tryz.ntmps30
    go_wp2; go_ret; exact ⟨by rw [HB.out]; rfl, rfl⟩
  · have e1 : ¬ ((s.size : Nat) : Int) < 1 := by omega
    by_cases h2 : 24 < s.size
    · have HB : Hid (goodN s = false) := by show _ = _; rw [goodN, decide_eq_false (by omega)]; rfl
      have e2 : (24 : Int) < ((s.size : Nat) : Int) := by omega
      go_enter Tryz.func30, Tryz.ntmps30
      go_wp2; go_ret; exact ⟨by rw [HB.out]; rfl, rfl⟩
    · have HG : Hid (goodN s = (bs s).all gch) := by show _ = _; rw [goodN, decide_eq_true ⟨by omega, by omega⟩]; rfl
      have e2 : ¬ (24 : Int) < ((s.size : Nat) : Int) := by omega
      have hL : (bs s).length = s.size := bs_len s; obtain ⟨n, hn⟩ : ∃ n, s.size = n := ⟨_, rfl⟩; have HN : Hid (s.size = n) := hn
      have hnb : n ≤ 24 := by omega
      go_enter Tryz.func30, Tryz.ntmps30
      go_wp2
      go_loopw [3] (fun i wr => ∃ k : Nat, k ≤ n ∧ i = .int .i64 (k : Int) ∧ ((bs s).take k).all gch = true ∧ wr = w) (fun i _ => n - (intOf i).toNat)
      case atStart => exact ⟨0, Nat.zero_le _, rfl, rfl, rfl⟩
      case round =>
        obtain ⟨k, hk, rfl, hd, rfl⟩ := hrel; have HD : Hid (((bs s).take k).all gch = true) := hd; clear hd
        by_cases hlt : k < n
        · have hi : k < s.size := by omega
          have hc := bs_get s k hi
          have HT : Hid ((bs s).take (k + 1) = (bs s).take k ++ [(bs s).getD k 0] ∧ (bs s).getD k 0 ∈ bs s) := ⟨take_snoc (bs s) k (by omega), by
            have h9 : k < (bs s).length := by omega
            simp [List.getD, h9]⟩
          obtain ⟨c, hce⟩ : ∃ c, (bs s).getD k 0 = c := ⟨_, rfl⟩
          have hc256 : c < 256 := by rw [← hce]; exact bs_lt s _ HT.out.2
          rw [hce] at hc HT; clear hce
          have hkI : (k : Int) < (n : Int) := by omega
          obtain ⟨g, hg⟩ : ∃ g, gch c = g := ⟨_, rfl⟩; have HC : Hid (gch c = g) := hg; clear hg
          go_upto_region 7 with fail
          go_cut [44] (fun t wx => t = .bool (!g) ∧ wx = wr)
          case first =>
            by_cases a1 : 97 ≤ c
            · have b1 : (97 : Int) ≤ (c : Int) := by omega
              by_cases a2 : c ≤ 122
              · have b2 : (c : Int) ≤ 122 := by omega
                obtain rfl : true = g := by rw [← HC.out]; simp [gch, a1, a2]
                go_wp2_with fail; go_meet
                case rel => exact ⟨by first | rfl | simp, rfl⟩
              · have b2 : ¬ (c : Int) ≤ 122 := by omega
                have b3 : (48 : Int) ≤ (c : Int) := by omega
                have b4 : ¬ (c : Int) ≤ 57 := by omega
                have b5 : ((c : Int) == 46) = false := by simp; omega
                have b6 : ((c : Int) == 45) = false := by simp; omega
                obtain rfl : false = g := by rw [← HC.out]; simp [gch]; omega
                go_wp2_with fail; go_meet
                case rel => exact ⟨by first | rfl | simp, rfl⟩
            · have b1 : ¬ (97 : Int) ≤ (c : Int) := by omega
              by_cases a3 : 48 ≤ c
              · have b3 : (48 : Int) ≤ (c : Int) := by omega
                by_cases a4 : c ≤ 57
                · have b4 : (c : Int) ≤ 57 := by omega
                  obtain rfl : true = g := by rw [← HC.out]; simp [gch, a3, a4]
                  go_wp2_with fail; go_meet
                  case rel => exact ⟨by first | rfl | simp, rfl⟩
                · have b4 : ¬ (c : Int) ≤ 57 := by omega
                  have b5 : ((c : Int) == 46) = false := by simp; omega
                  have b6 : ((c : Int) == 45) = false := by simp; omega
                  obtain rfl : false = g := by rw [← HC.out]; simp [gch]; omega
                  go_wp2_with fail; go_meet
                  case rel => exact ⟨by first | rfl | simp, rfl⟩
              · have b3 : ¬ (48 : Int) ≤ (c : Int) := by omega
                by_cases a5 : c = 46
                · subst a5
                  obtain rfl : true = g := by rw [← HC.out]; decide
                  go_wp2_with fail; go_meet
                  case rel => exact ⟨by first | rfl | simp, rfl⟩
                · have b5 : ((c : Int) == 46) = false := by simp; omega
                  by_cases a6 : c = 45
                  · subst a6
                    obtain rfl : true = g := by rw [← HC.out]; decide
                    go_wp2_with fail; go_meet
                    case rel => exact ⟨by first | rfl | simp, rfl⟩
                  · have b6 : ((c : Int) == 45) = false := by simp; omega
                    obtain rfl : false = g := by rw [← HC.out]; simp [gch]; omega
                    go_wp2_with fail; go_meet
                    case rel => exact ⟨by first | rfl | simp, rfl⟩
          case rest =>
            obtain ⟨rfl, rfl⟩ := hcut
            cases g with
            | true =>
              go_wp2; go_roundw
              case rel => exact ⟨k + 1, by omega, by go_num, by rw [HT.out.1, List.all_append, HD.out]; simp [HC.out], by first | trivial | rfl⟩
              case measure => simp [intOf]; omega
            | false =>
              have HB : Hid (goodN s = false) := by
                show _ = _
                rw [HG.out]; rw [List.all_eq_false]; exact ⟨c, HT.out.2, by rw [HC.out]; simp⟩
              go_wp2; go_ret; exact ⟨by rw [HB.out]; rfl, rfl⟩
        · obtain rfl : k = n := by omega
          have HB : Hid (goodN s = true) := by
            show _ = _
            rw [HG.out]; have h9 := HD.out
            rwa [List.take_of_length_le (by omega)] at h9
          go_wp2; go_ret; exact ⟨by rw [HB.out]; rfl, rfl⟩
end Go.Proofs.YtjnegjgpkboocaaGreatDoor
