/-
  BsN, GoodY, Dk24, Dk25
-/
import Derived.Test.YtgehhfncjoogiaaGreatDoorRows
import Derived.Test.YtgehhfncjoogiaaGreatDoorSyn1
import Derived.Laws.DeepStrings4
import Derived.Lib.Strings
import Derived.Deep.DeepCutAuto
import Derived.Deep.CutRange
import Derived.Test.YtgehhfncjoogiaaGreatDoorSyn3
import Derived.Test.YtgehhfncjoogiaaGreatDoorSyn4
namespace Go.Proofs.YtgehhfncjoogiaaGreatDoor
open Go.RowKit

def bs (s : ByteArray) : List Nat := s.data.toList.map UInt8.toNat
theorem bs_len (s : ByteArray) : (bs s).length = s.size := by simp [bs]
theorem bs_get (s : ByteArray) (k : Nat) (h : k < s.size) : (s[k]'h).toNat = (bs s).getD k 0 := by
  have h2 : k < s.data.toList.length := by simpa using h
  have e : s[k]'h = s.data.toList[k]'h2 := by
    cases s; simp [ByteArray.getElem_eq_getElem_data]
  rw [e, bs, List.getD_eq_getElem?_getD, List.getElem?_map, List.getElem?_eq_getElem h2]
  rfl
theorem bs_lt (s : ByteArray) : ∀ z ∈ bs s, z < 256 := by
  intro z hz; obtain ⟨u, _, rfl⟩ := List.mem_map.1 hz; exact u.toNat_lt
theorem take_snoc (l : List Nat) (k : Nat) (h : k < l.length) : l.take (k + 1) = l.take k ++ [l.getD k 0] := by
  rw [List.take_succ_eq_append_getElem h, List.getD_eq_getElem?_getD, List.getElem?_eq_getElem h]; rfl
def gch (c : Nat) : Bool := (decide (97 ≤ c) && decide (c ≤ 122)) || (decide (48 ≤ c) && decide (c ≤ 57)) || decide (c = 46) || decide (c = 45)
def goodN (s : ByteArray) : Bool := decide (1 ≤ s.size ∧ s.size ≤ 24) && (bs s).all gch
set_option maxRecDepth 4000 in
set_option maxHeartbeats 4000000 in
theorem goodName_any (s : ByteArray) (w : World) (hs : s.size ≤ 1048576) :
    Calls Tryz.prog 44 #[.string s] w fun e w' => e = .returned (.bool (goodN s)) ∧ w' = w := by
  have HS : Hid (s.size ≤ 1048576) := hs
  by_cases h1 : s.size < 1
  · have HB : Hid (goodN s = false) := by show _ = _; rw [goodN, decide_eq_false (by omega)]; rfl
    have e1 : ((s.size : Nat) : Int) < 1 := by omega
    go_enter Tryz.func44, Tryz.ntmps44
    go_wp2; go_ret; exact ⟨by rw [HB.out]; rfl, rfl⟩
  · have e1 : ¬ ((s.size : Nat) : Int) < 1 := by omega
    by_cases h2 : 24 < s.size
    · have HB : Hid (goodN s = false) := by show _ = _; rw [goodN, decide_eq_false (by omega)]; rfl
      have e2 : (24 : Int) < ((s.size : Nat) : Int) := by omega
      go_enter Tryz.func44, Tryz.ntmps44
      go_wp2; go_ret; exact ⟨by rw [HB.out]; rfl, rfl⟩
    · have HG : Hid (goodN s = (bs s).all gch) := by show _ = _; rw [goodN, decide_eq_true ⟨by omega, by omega⟩]; rfl
      have e2 : ¬ (24 : Int) < ((s.size : Nat) : Int) := by omega
      have hL : (bs s).length = s.size := bs_len s; obtain ⟨n, hn⟩ : ∃ n, s.size = n := ⟨_, rfl⟩; have HN : Hid (s.size = n) := hn
      have hnb : n ≤ 24 := by omega
      go_enter Tryz.func44, Tryz.ntmps44
      go_wp2
      go_loopw [15] (fun i wr => ∃ k : Nat, k ≤ n ∧ i = .int .i64 (k : Int) ∧ ((bs s).take k).all gch = true ∧ wr = w) (fun i _ => n - (intOf i).toNat)
      case atStart => exact ⟨0, Nat.zero_le _, rfl, rfl, rfl⟩
      case round =>
        obtain ⟨k, hk, rfl, hd, rfl⟩ := hrel; have HD : Hid (((bs s).take k).all gch = true) := hd; clear hd
        by_cases hlt : k < n
        · have hi : k < s.size := by omega
          have hc := bs_get s k hi
          have HT : Hid ((bs s).take (k + 1) = (bs s).take k ++ [(bs s).getD k 0] ∧ (bs s).getD k 0 ∈ bs s) := ⟨take_snoc (bs s) k (by omega), by
            have h9 : k < (bs s).length := by omega
            simp [List.getD, h9]⟩
          obtain ⟨c, hce⟩ : ∃ c, (bs s).getD k 0 = c := ⟨_, rfl⟩
          have hc256 : c < 256 := by rw [← hce]; exact bs_lt s _ HT.out.2
          rw [hce] at hc HT; clear hce
          have hkI : (k : Int) < (n : Int) := by omega
          obtain ⟨g, hg⟩ : ∃ g, gch c = g := ⟨_, rfl⟩; have HC : Hid (gch c = g) := hg; clear hg
          go_upto_region 7 with fail
          go_cut [43] (fun t wx => t = .bool (!g) ∧ wx = wr)
          case first =>
            by_cases a1 : 97 ≤ c
            · have b1 : (97 : Int) ≤ (c : Int) := by omega
              by_cases a2 : c ≤ 122
              · have b2 : (c : Int) ≤ 122 := by omega
                obtain rfl : true = g := by rw [← HC.out]; simp [gch, a1, a2]
                go_wp2_with fail; go_meet
                case rel => exact ⟨by first | rfl | simp, rfl⟩
              · have b2 : ¬ (c : Int) ≤ 122 := by omega
                have b3 : (48 : Int) ≤ (c : Int) := by omega
                have b4 : ¬ (c : Int) ≤ 57 := by omega
                have b5 : ((c : Int) == 46) = false := by simp; omega
                have b6 : ((c : Int) == 45) = false := by simp; omega
                obtain rfl : false = g := by rw [← HC.out]; simp [gch]; omega
                go_wp2_with fail; go_meet
                case rel => exact ⟨by first | rfl | simp, rfl⟩
            · have b1 : ¬ (97 : Int) ≤ (c : Int) := by omega
              by_cases a3 : 48 ≤ c
              · have b3 : (48 : Int) ≤ (c : Int) := by omega
                by_cases a4 : c ≤ 57
                · have b4 : (c : Int) ≤ 57 := by omega
                  obtain rfl : true = g := by rw [← HC.out]; simp [gch, a3, a4]
                  go_wp2_with fail; go_meet
                  case rel => exact ⟨by first | rfl | simp, rfl⟩
                · have b4 : ¬ (c : Int) ≤ 57 := by omega
                  have b5 : ((c : Int) == 46) = false := by simp; omega
                  have b6 : ((c : Int) == 45) = false := by simp; omega
                  obtain rfl : false = g := by rw [← HC.out]; simp [gch]; omega
                  go_wp2_with fail; go_meet
                  case rel => exact ⟨by first | rfl | simp, rfl⟩
              · have b3 : ¬ (48 : Int) ≤ (c : Int) := by omega
                by_cases a5 : c = 46
                · subst a5
                  obtain rfl : true = g := by rw [← HC.out]; decide
                  go_wp2_with fail; go_meet
                  case rel => exact ⟨by first | rfl | simp, rfl⟩
                · have b5 : ((c : Int) == 46) = false := by simp; omega
                  by_cases a6 : c = 45
                  · subst a6
                    obtain rfl : true = g := by rw [← HC.out]; decide
                    go_wp2_with fail; go_meet
                    case rel => exact ⟨by first | rfl | simp, rfl⟩
                  · have b6 : ((c : Int) == 45) = false := by simp; omega
                    obtain rfl : false = g := by rw [← HC.out]; simp [gch]; omega
                    go_wp2_with fail; go_meet
                    case rel => exact ⟨by first | rfl | simp, rfl⟩
          case rest =>
            obtain ⟨rfl, rfl⟩ := hcut
            cases g with
            | true =>
              go_wp2; go_roundw
              case rel => exact ⟨k + 1, by omega, by go_num, by rw [HT.out.1, List.all_append, HD.out]; simp [HC.out], by first | trivial | rfl⟩
              case measure => simp [intOf]; omega
            | false =>
              have HB : Hid (goodN s = false) := by
                show _ = _
                rw [HG.out]; rw [List.all_eq_false]; exact ⟨c, HT.out.2, by rw [HC.out]; simp⟩
              go_wp2; go_ret; exact ⟨by rw [HB.out]; rfl, rfl⟩
        · obtain rfl : k = n := by omega
          have HB : Hid (goodN s = true) := by
            show _ = _
            rw [HG.out]; have h9 := HD.out
            rwa [List.take_of_length_le (by omega)] at h9
          go_wp2; go_ret; exact ⟨by rw [HB.out]; rfl, rfl⟩
set_option maxRecDepth 4000 in
set_option maxHeartbeats 4000000 in
theorem L1Good_any (s : ByteArray) (w : World) (hs : s.size ≤ 1048576) :
    Calls Tryz.prog 38 #[.string s] w fun e w' => e = .returned (.bool (goodN s)) ∧ w' = w := by
  have HS : Hid (s.size ≤ 1048576) := hs
  by_cases h1 : s.size < 1
  · have HB : Hid (goodN s = false) := by show _ = _; rw [goodN, decide_eq_false (by omega)]; rfl
    have e1 : ((s.size : Nat) : Int) < 1 := by omega
    go_enter Tryz.func38, Tryz.ntmps38
    go_wp2; go_ret; exact ⟨by rw [HB.out]; rfl, rfl⟩
  · have e1 : ¬ ((s.size : Nat) : Int) < 1 := by omega
    by_cases h2 : 24 < s.size
    · have HB : Hid (goodN s = false) := by show _ = _; rw [goodN, decide_eq_false (by omega)]; rfl
      have e2 : (24 : Int) < ((s.size : Nat) : Int) := by omega
      go_enter Tryz.func38, Tryz.ntmps38
      go_wp2; go_ret; exact ⟨by rw [HB.out]; rfl, rfl⟩
    · have HG : Hid (goodN s = (bs s).all gch) := by show _ = _; rw [goodN, decide_eq_true ⟨by omega, by omega⟩]; rfl
      have e2 : ¬ (24 : Int) < ((s.size : Nat) : Int) := by omega
      have hL : (bs s).length = s.size := bs_len s; obtain ⟨n, hn⟩ : ∃ n, s.size = n := ⟨_, rfl⟩; have HN : Hid (s.size = n) := hn
      have hnb : n ≤ 24 := by omega
      go_enter Tryz.func38, Tryz.ntmps38
      go_wp2
      go_loopw [3] (fun i wr => ∃ k : Nat, k ≤ n ∧ i = .int .i64 (k : Int) ∧ ((bs s).take k).all gch = true ∧ wr = w) (fun i _ => n - (intOf i).toNat)
      case atStart => exact ⟨0, Nat.zero_le _, rfl, rfl, rfl⟩
      case round =>
        obtain ⟨k, hk, rfl, hd, rfl⟩ := hrel; have HD : Hid (((bs s).take k).all gch = true) := hd; clear hd
        by_cases hlt : k < n
        · have hi : k < s.size := by omega
          have hc := bs_get s k hi
          have HT : Hid ((bs s).take (k + 1) = (bs s).take k ++ [(bs s).getD k 0] ∧ (bs s).getD k 0 ∈ bs s) := ⟨take_snoc (bs s) k (by omega), by
            have h9 : k < (bs s).length := by omega
            simp [List.getD, h9]⟩
          obtain ⟨c, hce⟩ : ∃ c, (bs s).getD k 0 = c := ⟨_, rfl⟩
          have hc256 : c < 256 := by rw [← hce]; exact bs_lt s _ HT.out.2
          rw [hce] at hc HT; clear hce
          have hkI : (k : Int) < (n : Int) := by omega
          obtain ⟨g, hg⟩ : ∃ g, gch c = g := ⟨_, rfl⟩; have HC : Hid (gch c = g) := hg; clear hg
          go_upto_region 7 with fail
          go_cut [44] (fun t wx => t = .bool (!g) ∧ wx = wr)
          case first =>
            by_cases a1 : 97 ≤ c
            · have b1 : (97 : Int) ≤ (c : Int) := by omega
              by_cases a2 : c ≤ 122
              · have b2 : (c : Int) ≤ 122 := by omega
                obtain rfl : true = g := by rw [← HC.out]; simp [gch, a1, a2]
                go_wp2_with fail; go_meet
                case rel => exact ⟨by first | rfl | simp, rfl⟩
              · have b2 : ¬ (c : Int) ≤ 122 := by omega
                have b3 : (48 : Int) ≤ (c : Int) := by omega
                have b4 : ¬ (c : Int) ≤ 57 := by omega
                have b5 : ((c : Int) == 46) = false := by simp; omega
                have b6 : ((c : Int) == 45) = false := by simp; omega
                obtain rfl : false = g := by rw [← HC.out]; simp [gch]; omega
                go_wp2_with fail; go_meet
                case rel => exact ⟨by first | rfl | simp, rfl⟩
            · have b1 : ¬ (97 : Int) ≤ (c : Int) := by omega
              by_cases a3 : 48 ≤ c
              · have b3 : (48 : Int) ≤ (c : Int) := by omega
                by_cases a4 : c ≤ 57
                · have b4 : (c : Int) ≤ 57 := by omega
                  obtain rfl : true = g := by rw [← HC.out]; simp [gch, a3, a4]
                  go_wp2_with fail; go_meet
                  case rel => exact ⟨by first | rfl | simp, rfl⟩
                · have b4 : ¬ (c : Int) ≤ 57 := by omega
                  have b5 : ((c : Int) == 46) = false := by simp; omega
                  have b6 : ((c : Int) == 45) = false := by simp; omega
                  obtain rfl : false = g := by rw [← HC.out]; simp [gch]; omega
                  go_wp2_with fail; go_meet
                  case rel => exact ⟨by first | rfl | simp, rfl⟩
              · have b3 : ¬ (48 : Int) ≤ (c : Int) := by omega
                by_cases a5 : c = 46
                · subst a5
                  obtain rfl : true = g := by rw [← HC.out]; decide
                  go_wp2_with fail; go_meet
                  case rel => exact ⟨by first | rfl | simp, rfl⟩
                · have b5 : ((c : Int) == 46) = false := by simp; omega
                  by_cases a6 : c = 45
                  · subst a6
                    obtain rfl : true = g := by rw [← HC.out]; decide
                    go_wp2_with fail; go_meet
                    case rel => exact ⟨by first | rfl | simp, rfl⟩
                  · have b6 : ((c : Int) == 45) = false := by simp; omega
                    obtain rfl : false = g := by rw [← HC.out]; simp [gch]; omega
                    go_wp2_with fail; go_meet
                    case rel => exact ⟨by first | rfl | simp, rfl⟩
          case rest =>
            obtain ⟨rfl, rfl⟩ := hcut
            cases g with
            | true =>
              go_wp2; go_roundw
              case rel => exact ⟨k + 1, by omega, by go_num, by rw [HT.out.1, List.all_append, HD.out]; simp [HC.out], by first | trivial | rfl⟩
              case measure => simp [intOf]; omega
            | false =>
              have HB : Hid (goodN s = false) := by
                show _ = _
                rw [HG.out]; rw [List.all_eq_false]; exact ⟨c, HT.out.2, by rw [HC.out]; simp⟩
              go_wp2; go_ret; exact ⟨by rw [HB.out]; rfl, rfl⟩
        · obtain rfl : k = n := by omega
          have HB : Hid (goodN s = true) := by
            show _ = _
            rw [HG.out]; have h9 := HD.out
            rwa [List.take_of_length_le (by omega)] at h9
          go_wp2; go_ret; exact ⟨by rw [HB.out]; rfl, rfl⟩
end Go.Proofs.YtgehhfncjoogiaaGreatDoor
namespace Go.Proofs.YtgehhfncjoogiaaGreatDoor
open Go.RowKit Go.Maps

def CrFt (nm : ByteArray) (ob : Option Nat) (N : Nat) (f : Option Nat) : Prop := (∀ j, f = some j → j < 13) ∧ (goodN nm = true → ob = none → N < 512 → f = none)
set_option maxRecDepth 20000 in
set_option maxHeartbeats 2000000 in
theorem createFault_any (d : Nat) (M : Dk) (ms : List Bd) (B : Nat) (ad : Nat → Addr) (nm : ByteArray) (ob : Option Nat) (w : World) (h : DkAt w B d M ms) (hE : ErrsAt w B ad) (hs : nm.size ≤ 1048576) (hob : M.LD.atKey (kS nm) .nil = bD ob) :
    Calls Tryz.prog 64 #[.pointer (some ⟨d, 0, none⟩), .string nm] w fun e w' => ∃ f : Option Nat, e = .returned (errV ad f) ∧ CrFt nm ob (Maps.size M.LD) f ∧ w' = w := by
  have hbx : w.heap[d]? = some (.cells #[.map (some M.lb), .map (some M.sb), M.qv, .int .i64 M.cap, .int .i64 M.fuse, .bool M.off, .int .i64 M.cnt] 90 (0, 0)) := h.box; have c0 : w.cell? ⟨d, 0, none⟩ = some (.map (some M.lb)) := (zCr hbx).trans rfl; have hlk := run_look h.dl (s := nm) (by unfold maxLen; omega) hob
  have hln := fun ty => h.dl.len undMap ty
  have g2 := hE.cell 2 (by decide); have g4 := hE.cell 4 (by decide); have g6 := hE.cell 6 (by decide); have HG : Hid (Calls _ _ _ _ _) := goodName_any nm w hs; clear h hE hbx
  go_enter Tryz.func64, Tryz.ntmps64
  go_wp2_with fail; refine HG.out.mono ?_; rintro e w1 ⟨rfl, hw1⟩; subst hw1
  rcases hgn : goodN nm with _ | _
  · go_wp2; go_ret; exact ⟨some 2, rfl, ⟨by simp, fun h => by rw [hgn] at h; cases h⟩, rfl⟩
  · cases ob with
    | some b =>
      simp only [bP] at hlk; go_wp2; go_ret; exact ⟨some 4, rfl, ⟨by simp, by simp⟩, rfl⟩
    | none =>
      simp only [bP] at hlk
      rcases Nat.lt_or_ge (Maps.size M.LD) 512 with hlt | hge
      · have e1 : ¬ ((512 : Int) ≤ (Maps.size M.LD : Int)) := by omega
        go_wp2; go_ret; exact ⟨none, rfl, ⟨by simp, by simp⟩, rfl⟩
      · have e1 : ((512 : Int) ≤ (Maps.size M.LD : Int)) := by omega
        go_wp2; go_ret; exact ⟨some 6, rfl, ⟨by simp, fun _ _ h9 => by omega⟩, rfl⟩
def WrFt (n : Nat) (tl : Nat) (cap at_ : Int) (sz : Nat) (f : Option Nat) : Prop := (∀ j, f = some j → j < 13) ∧ (f = none → 0 ≤ at_ ∧ at_ ≤ (n : Int) ∧ at_ + (sz : Int) ≤ 65536) ∧ (0 ≤ at_ → at_ ≤ (n : Int) → at_ + (sz : Int) ≤ 65536 → (tl : Int) + (sz : Int) ≤ cap → f = none)
theorem LbOut.refl {w : World} {B d : Nat} {M : Dk} {ms : List Bd} (h : DkAt w B d M ms) : LbOut w w B d M (ms.map Bd.tell) := ⟨ms, M.cnt, h, rfl, Moves.refl _ _ _, fun _ _ => rfl⟩
theorem LbOut.drewN {w w' : World} {B d : Nat} {M : Dk} {P : Pb} (h : LbOut w w' B d M P) (hB : B ≤ w.heap.size) {w'' : World} (hg : w'.grownBy w'' none) : LbOut w w'' B d M P := by
  obtain ⟨ms', c, h1, h2, h3, h4⟩ := h; exact ⟨ms', c, h1.grown0 hg, h2, h3.trans (Moves.of_grown0 hg), fun k hk => (hg.block k (Nat.lt_of_lt_of_le hk (Nat.le_trans hB h3.size)) (by simp)).trans (h4 k hk)⟩
theorem LbOut.cap {w w' : World} {B d : Nat} {M : Dk} {P : Pb} (h : LbOut w w' B d M P) : w'.cell? ⟨d, 3, none⟩ = some (.int .i64 M.cap) := by
  obtain ⟨ms', c, h1, -⟩ := h; exact (zCr h1.box).trans rfl
theorem LbOut.of_drew {w w' : World} {B d : Nat} {M : Dk} {P : Pb} (h : LbOut w.drew w' B d M P) : LbOut w w' B d M P := by
  obtain ⟨ms', c, h1, h2, h3, h4⟩ := h; exact ⟨ms', c, h1, h2, ⟨h3.os, h3.tape, h3.output, h3.size, h3.block⟩, h4⟩
set_option maxRecDepth 20000 in
set_option maxHeartbeats 4000000 in
theorem writeFault_any (d : Nat) (M : Dk) (ms : List Bd) (B : Nat) (ad : Nat → Addr) (m : Bd) (at_ : Int) (sz : Nat) (w : World) (h : DkAt w B d M ms) (hE : ErrsAt w B ad) (hm : m ∈ ms) (hb : totL (ms.map Bd.tell) ≤ 1099511627776) (hz : sz ≤ 1048576) (hat : -9223372036854775808 ≤ at_ ∧ at_ ≤ 9223372036854775807) :
    Calls Tryz.prog 65 #[.pointer (some ⟨d, 0, none⟩), .pointer (some ⟨m.b, 0, none⟩), .int .i64 at_, .int .i64 (sz : Int)] w fun e w' => ∃ f : Option Nat, e = .returned (errV ad f) ∧ WrFt m.L.length (totL (ms.map Bd.tell)) M.cap at_ sz f ∧ LbOut w w' B d M (ms.map Bd.tell) := by
  have hma := (h.bods.each m hm).1; obtain ⟨la, lc, hlv, -⟩ := hma.live.is; have hlb := (h.bods.each m hm).2.1; obtain ⟨ln, hln⟩ : ∃ y, m.L.length = y := ⟨_, rfl⟩; rw [hln] at hlv hlb ⊢
  have hbx : w.heap[m.b]? = some (.cells #[.slice la ln lc, m.sv, .int .i64 m.k] 93 (0, 0)) := by rw [hma.box, Bd.blk, hlv]
  have c0 : w.cell? ⟨m.b, 0, none⟩ = some (.slice la ln lc) := (zCr hbx).trans rfl; have cd : w.cell? ⟨d, 3, none⟩ = some (.int .i64 M.cap) := (zCr h.box).trans rfl; have g5 := hE.cell 5 (by decide)
  have HLB : Hid (∀ X : World, w.grownBy X none → Calls Tryz.prog 74 #[.pointer (some ⟨d, 0, none⟩)] X fun e w' => ∃ s : Nat, e = .returned (.int .i64 (s : Int)) ∧ s ≤ totL (ms.map Bd.tell) ∧ LbOut X w' B d M (ms.map Bd.tell)) := fun X hX => liveBytes_any d M ms B X (h.grown0 hX) hb
  obtain ⟨P, hP⟩ : ∃ y, ms.map Bd.tell = y := ⟨_, rfl⟩
  have HD : Hid (LbOut w w B d M P ∧ ErrsAt w B ad) := by
    rw [← hP]; exact ⟨LbOut.refl h, hE⟩
  rw [hP] at HLB hb ⊢; clear h hE hm hma hlv hbx hln hP
  by_cases h1 : at_ < 0
  · go_enter Tryz.func65, Tryz.ntmps65
    go_wp2; go_ret; exact ⟨some 5, rfl, ⟨by simp, by simp, fun h9 => by omega⟩, HD.out.1⟩
  by_cases h2 : (ln : Int) < at_
  · go_enter Tryz.func65, Tryz.ntmps65
    go_wp2; go_ret; exact ⟨some 5, rfl, ⟨by simp, by simp, fun h9 => by omega⟩, HD.out.1⟩
  obtain ⟨a, rfl⟩ : ∃ a : Nat, at_ = (a : Int) := ⟨at_.toNat, by omega⟩; have v1 : IntKind.i64.wrap (65536 - (a : Int)) = 65536 - (a : Int) := IntWalk.i64_in _ (by omega)
  by_cases h3 : 65536 - (a : Int) < (sz : Int)
  · go_enter Tryz.func65, Tryz.ntmps65
    go_wp2; go_ret; exact ⟨some 5, rfl, ⟨by simp, by simp, fun _ h9 => by omega⟩, HD.out.1⟩
  have v2 : IntKind.i64.wrap ((a : Int) + (sz : Int)) = (a : Int) + (sz : Int) := IntWalk.i64_in _ (by omega); have v3 : IntKind.i64.wrap ((a : Int) + (sz : Int) - (ln : Int)) = (a : Int) + (sz : Int) - (ln : Int) := IntWalk.i64_in _ (by omega); have HZ : Hid (¬ 65536 - (a : Int) < (sz : Int) ∧ ¬ (ln : Int) < (a : Int) ∧ ln ≤ 65536) := ⟨h3, h2, hlb⟩
  go_enter Tryz.func65, Tryz.ntmps65
  go_upto_region 4 with fail
  obtain ⟨gr, hgr, hgb⟩ : ∃ gr : Nat, (if (ln : Int) < (a : Int) + (sz : Int) then (a : Int) + (sz : Int) - (ln : Int) else 0) = (gr : Int) ∧ gr ≤ sz := by
    by_cases h9 : (ln : Int) < (a : Int) + (sz : Int)
    · exact ⟨((a : Int) + (sz : Int) - (ln : Int)).toNat, by rw [if_pos h9]; omega, by omega⟩
    · exact ⟨0, by rw [if_neg h9]; rfl, by omega⟩
  rw [hgr]; have HGB : Hid (gr ≤ sz) := hgb; clear hgr; refine wp_region_Z (fun Y => Y.cell? ⟨d, 3, none⟩ = some (.int .i64 M.cap)) (fun _ => false) (by kernel_rfl) ?_; have hS : w.drew.cell? ⟨d, 3, none⟩ = some (.int .i64 M.cap) := cd; refine zTk 0 ?_; simp only [Act.put, zq1, zq2, zq3]; refine zTk 2 ?_; simp only [Act.put, zq1, zq2, zq3]; refine zTk 4 ?_; simp only [Act.put, zq1, zq2, zq3]; refine zTk 5 ?_; simp only [Act.put, zq1, zq2, zq3]; refine zTk 6 ?_; simp only [Act.put, zq1, zq2, zq3]; refine zLs 7 rfl hS (by intro W hW; have c0 : W.cell? ⟨d, 3, none⟩ = some (.int .i64 M.cap) := hW; go_simp; first | done | with_reducible rfl) ?_; simp only [Act.put, zq1, zq2, zq3]; clear hS; refine wpAnyZ_one' (i := 1) (by kernel_rfl) rfl (fun K hK => ?_); go_simp; go_at_call 74; refine (HLB.out _ (grownBy_drew (grownBy_refl _ _))).mono ?_; rintro e w1 ⟨s, rfl, hsb, hlo⟩; have hlo := hlo.of_drew; refine hK.out _ _ (fun _ _ => hlo.cap) ?_; clear hK K; (try simp only [Act.put, zq1, zq2, zq3]); have v4 : IntKind.i64.wrap ((s : Int) + (gr : Int)) = (s : Int) + (gr : Int) := IntWalk.i64_in _ (by omega); refine zTk 3 ?_; simp only [Act.put, zq1, zq2, zq3]; refine zTk 8 ?_; simp only [Act.put, zq1, zq2, zq3]; refine wpAnyZ_done (by kernel_rfl) ?_ _
  have HLO : Hid (LbOut w w1 B d M P ∧ ErrsAt w1 B ad ∧ s ≤ totL P) := by
    refine ⟨hlo, HD.out.2.to ?_, hsb⟩; obtain ⟨_, _, _, _, _, h4⟩ := hlo; exact h4
  have g6 := HLO.out.2.1.cell 6 (by decide); clear hlo hsb c0 cd g5
  by_cases h5 : M.cap < (s : Int) + (gr : Int)
  · go_wp2; go_ret; refine ⟨some 6, rfl, ⟨by simp, by simp, fun _ _ _ h9 => ?_⟩, HLO.out.1⟩; have := HLO.out.2.2; have := HGB.out
    omega
  · go_wp2; go_ret; refine ⟨none, rfl, ⟨by simp, fun _ => ⟨by omega, ?_, ?_⟩, by simp⟩, HLO.out.1⟩
    · have := HZ.out.2.1; omega
    · have := HZ.out.1; omega
end Go.Proofs.YtgehhfncjoogiaaGreatDoor
