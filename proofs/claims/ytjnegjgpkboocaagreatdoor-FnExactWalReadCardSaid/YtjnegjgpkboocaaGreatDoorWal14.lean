/-
  L2One, CrcLaw, LeN, Put, SpecEnc, SpecEnc2, MarkS, OwnSp
-/
import Derived.Test.YtjnegjgpkboocaaGreatDoorWal13
import Derived.Test.YtjnegjgpkboocaaGreatDoorWal3
import Derived.Laws.Rows
import Derived.Test.YtjnegjgpkboocaaGreatDoorWal4
import Derived.Test.YtjnegjgpkboocaaGreatDoorWal1
import Derived.Laws.AppendOwnNone
import Derived.Deep.AppendLies
import Derived.Test.YtjnegjgpkboocaaGreatDoorWal5
/-
  The model's l2One, where the bytes don't begin with a record: walked.
-/
namespace Go.Proofs.YtjnegjgpkboocaaGreatDoor
open Go.RowKit

theorem results_rec {fn : Func} {t u v : Tmp} {w : World} {g : Nat} {x y : Value} {tmps : Array Value} (h : fn.results = #[.cell t 85, .tmp u, .tmp v]) (ht : tmps.getD t undef = .pointer (some ⟨g, 0, none⟩)) (hg : w.heap[g]? = some (.cells #[x, y] 85 (0, 0))) :
    (results fn tmps).run Tryz.prog w = .ok (.tuple #[.agg #[x, y], tmps.getD u undef, tmps.getD v undef]) w := by
  have h1 : (loadVar 85 ⟨g, 0, none⟩).run Tryz.prog w = .ok (.agg #[x, y]) w := by
    have hl : (loadCells ⟨g, 0, none⟩ 2).run Tryz.prog w = .ok #[x, y] w := by
      have := run_loadCells_list (P := Tryz.prog) (w := w) ⟨g, 0, none⟩ [x, y] (by
        intro j u hj
        match j, hj with
        | 0, hj => simp at hj; subst hj; simp [Addr.add, World.cell?, hg]
        | 1, hj => simp at hj; subst hj; simp [Addr.add, World.cell?, hg])
      simpa using this
    unfold loadVar
    simp [Sem.run_bind, Tryz.isAgg85, Tryz.sizeOf85, Result.andThen, hl]
  have ht' : tmps[t]?.getD undef = .pointer (some ⟨g, 0, none⟩) := by simpa using ht
  simp [results, h, ht', h1, Result.andThen, asAddr]

set_option maxHeartbeats 1000000 in
theorem l2One_short (oa : Option Addr) (len cap : Nat) (w : World) (h : len < 12) :
    Calls Tryz.prog 48 #[.slice oa len cap] w fun e w' => e = .returned (.tuple #[.agg #[.int .i64 0, .slice none 0 0], .int .i64 0, .int .i64 (if len = 0 then 0 else 1)]) ∧ w.grownBy w' none := by
  by_cases h0 : len = 0
  · subst h0; rw [if_pos rfl]
    go_enter Tryz.func48, Tryz.ntmps48
    go_wp2; refine bodyPost_ret (results_rec rfl rfl (heap_alloc_new w _)) rfl ?_; exact ⟨rfl, World.grownBy_alloc w _ none⟩
  · rw [if_neg h0]
    go_enter Tryz.func48, Tryz.ntmps48
    go_wp2; refine bodyPost_ret (results_rec rfl rfl (heap_alloc_new w _)) rfl ?_; exact ⟨rfl, World.grownBy_alloc w _ none⟩

set_option maxHeartbeats 2000000 in
theorem l2One_head (b off : Nat) (len cap : Nat) (zs : List Nat) (w : World) (hsl : SlB w (some ⟨b, off, none⟩) len zs) (h12 : 12 ≤ len) (hlc : len ≤ cap) (hm : len ≤ 1073741824) (hbad : headBad zs) :
    Calls Tryz.prog 48 #[.slice (some ⟨b, off, none⟩) len cap] w fun e w' => e = .returned (.tuple #[.agg #[.int .i64 0, .slice none 0 0], .int .i64 0, .int .i64 2]) ∧ w.grownBy w' none := by
  have hbl : b < w.heap.size := cell_block_lt (hsl.cellAt 0 (by omega)); have hG : w.grownBy (w.alloc (.cells #[.int .i64 0, .slice none 0 0] 85)) none := World.grownBy_alloc w _ none; have hs2 := hsl.grown0 hG
  have HT : Hid (∀ w' : World, w'.heap = (w.alloc (.cells #[.int .i64 0, .slice none 0 0] 85)).heap → Calls _ _ _ w' _) := fun w' hh => l2Get_any (some ⟨b, off, none⟩) 4 cap (zs.take 4) w' ((hs2.take 4 (by omega)).heap hh) (by omega)
  rw [satVal_four (zs.take 4) (fun z hz => hsl.2.1 z (List.mem_of_mem_take hz)) (by simp; omega), show leVal (zs.take 4) = recN zs from rfl] at HT; have hn := recN_lt zs hsl.2.1; have c4 := hs2.cellAt 4 (by omega); have c5 := hs2.cellAt 5 (by omega); have c6 := hs2.cellAt 6 (by omega); have c7 := hs2.cellAt 7 (by omega); have l4 : zs.getD 4 0 < 256 := hsl.2.1 _ (Crc.getD_mem _ _ (by have := hsl.1; omega)); have l5 : zs.getD 5 0 < 256 := hsl.2.1 _ (Crc.getD_mem _ _ (by have := hsl.1; omega)); have l6 : zs.getD 6 0 < 256 := hsl.2.1 _ (Crc.getD_mem _ _ (by have := hsl.1; omega)); have l7 : zs.getD 7 0 < 256 := hsl.2.1 _ (Crc.getD_mem _ _ (by have := hsl.1; omega))
  unfold headBad at hbad
  generalize recN zs = n at *; generalize zs.getD 4 0 = z4 at *; generalize zs.getD 5 0 = z5 at *; generalize zs.getD 6 0 = z6 at *; generalize zs.getD 7 0 = z7 at *; clear hsl hs2 hG
  have hlI : (12 : Int) ≤ (len : Int) := by omega
  have hcI : (4 : Int) ≤ (cap : Int) := by omega
  by_cases g0 : 8192 < n
  · clear hbad
    go_enter Tryz.func48, Tryz.ntmps48
    go_wp2_with fail; refine (HT.out _ rfl).mono ?_; clear HT; rintro e w1 ⟨rfl, rfl⟩; go_wp2; refine bodyPost_ret (results_rec rfl rfl (heap_alloc_new w _)) rfl ?_; exact ⟨rfl, World.grownBy_alloc w _ none⟩
  · by_cases g4 : z4 = 0
    · clear hbad; subst g4
      go_enter Tryz.func48, Tryz.ntmps48
      go_wp2_with fail; refine (HT.out _ rfl).mono ?_; clear HT; rintro e w1 ⟨rfl, rfl⟩; go_wp2; refine bodyPost_ret (results_rec rfl rfl (heap_alloc_new w _)) rfl ?_; exact ⟨rfl, World.grownBy_alloc w _ none⟩
    · by_cases g5 : z5 = 0
      · subst g5
        by_cases g6 : z6 = 0
        · subst g6
          have g7 : z7 ≠ 0 := by
            rcases hbad with h | h | h | h | h
            · exact absurd h g0
            · exact absurd h g4
            · exact absurd rfl h
            · exact absurd rfl h
            · exact h
          clear hbad
          have d7 : ((z7 : Int) != 0) = true := by rw [bne_iff_ne]; omega
          have d4 : ((z4 : Int) == 0) = false := by rw [beq_eq_false_iff_ne]; omega
          go_enter Tryz.func48, Tryz.ntmps48
          go_wp2_with fail; refine (HT.out _ rfl).mono ?_; clear HT; rintro e w1 ⟨rfl, rfl⟩; go_wp2; refine bodyPost_ret (results_rec rfl rfl (heap_alloc_new w _)) rfl ?_; exact ⟨rfl, World.grownBy_alloc w _ none⟩
        · clear hbad
          go_enter Tryz.func48, Tryz.ntmps48
          go_wp2_with fail; refine (HT.out _ rfl).mono ?_; clear HT; rintro e w1 ⟨rfl, rfl⟩; go_wp2; refine bodyPost_ret (results_rec rfl rfl (heap_alloc_new w _)) rfl ?_; exact ⟨rfl, World.grownBy_alloc w _ none⟩
      · clear hbad
        go_enter Tryz.func48, Tryz.ntmps48
        go_wp2_with fail; refine (HT.out _ rfl).mono ?_; clear HT; rintro e w1 ⟨rfl, rfl⟩; go_wp2; refine bodyPost_ret (results_rec rfl rfl (heap_alloc_new w _)) rfl ?_; exact ⟨rfl, World.grownBy_alloc w _ none⟩
def stepN : Nat → Nat → Nat
  | 0, x => x
  | n + 1, x => Crc.step (stepN n x)
theorem stepN_lt (n x : Nat) (h : x < 4294967296) : stepN n x < 4294967296 := by
  induction n with
  | zero => exact h
  | succ n ih => exact Crc.step_lt _ ih
theorem stepN_eight (x : Nat) : stepN 8 x = Crc.step4 (Crc.step4 x) := rfl
theorem bit_one (x : Nat) (h : x < 4294967296) (h1 : x % 2 = 1) : bits .xor .u32 ((x : Int) / 2) 2197175160 = ((Crc.step x : Nat) : Int) := by
  rw [show ((x : Int) / 2) = ((x / 2 : Nat) : Int) by omega, show (2197175160 : Int) = ((2197175160 : Nat) : Int) from rfl, u32_xor_nat (x / 2) _ (by omega) (by decide)]
  unfold Crc.step
  rw [if_pos h1]
  rfl
theorem bit_zero (x : Nat) (h1 : x % 2 = 0) : ((x : Int) / 2) = ((Crc.step x : Nat) : Int) := by
  unfold Crc.step
  rw [if_neg (by omega), Nat.xor_zero]
  omega

set_option maxHeartbeats 400000 in
theorem l2Table_any (x0 : Nat) (hx0 : x0 < 4294967296) (w : World) :
    Calls Tryz.prog 86 #[.int .u32 x0] w fun e w' => e = .returned (.int .u32 ((Crc.step4 (Crc.step4 x0) : Nat) : Int)) ∧ w' = w := by
  go_enter Tryz.func86, Tryz.ntmps86
  go_wp2
  go_loop [0, 3] (fun v i => ∃ k : Nat, k ≤ 8 ∧ i = .int .i64 k ∧ v = .int .u32 ((stepN k x0 : Nat) : Int)) (fun _ i => 8 - (intOf i).toNat)
  case atStart => exact ⟨0, Nat.zero_le _, rfl, rfl⟩
  case round =>
    obtain ⟨k, hk, rfl, rfl⟩ := hrel
    by_cases hlt : k < 8
    · have HN : Hid (stepN (k + 1) x0 = Crc.step (stepN k x0)) := rfl; have hx := stepN_lt k x0 hx0; obtain ⟨x, hxe⟩ : ∃ x, x = stepN k x0 := ⟨_, rfl⟩; rw [← hxe] at HN hx ⊢; clear hxe
      rcases (show x % 2 = 1 ∨ x % 2 = 0 by omega) with h1 | h1
      · have e1 := bit_one x hx h1
        have e2 : ((x : Int) % 2 == 1) = true := by rw [beq_iff_eq]; omega
        have e3 : (x : Int) % 2 = 1 := by omega
        clear h1; go_wp2
        go_round
        case rel => exact ⟨k + 1, by omega, by go_num, by rw [HN.out]⟩
        case measure => simp [intOf]; omega
      · have e3 : (x : Int) % 2 = 0 := by omega
        have H1 : Hid (((x : Int) / 2) = ((Crc.step x : Nat) : Int)) := bit_zero x h1; clear h1; go_wp2
        go_round
        case rel => exact ⟨k + 1, by omega, by go_num, by rw [HN.out, ← H1.out]⟩
        case measure => simp [intOf]; omega
    · obtain rfl : k = 8 := by omega
      go_wp2; go_ret; exact ⟨rfl, rfl⟩

set_option maxHeartbeats 400000 in
theorem specCrc_any (oa : Option Addr) (len cap : Nat) (zs : List Nat) (w : World) (hsl : SlB w oa len zs) (hm : len ≤ 1073741824) :
    Calls Tryz.prog 83 #[.slice oa len cap] w fun e w' => e = .returned (.int .u32 ((Crc.crc zs : Nat) : Int)) ∧ w' = w := by
  obtain ⟨hl, hb, hc⟩ := hsl; have HB : Hid (∀ z ∈ zs, z < 256) := hb; clear hb
  go_enter Tryz.func83, Tryz.ntmps83
  go_wp2
  go_loop [3, 8] (fun v i => ∃ k : Nat, k ≤ len ∧ i = .int .i64 k ∧ v = .int .u32 ((Crc.crcL 4294967295 (zs.take k) : Nat) : Int)) (fun _ i => len - (intOf i).toNat)
  case atStart => exact ⟨0, Nat.zero_le _, rfl, rfl⟩
  case round =>
    obtain ⟨k, hk, rfl, rfl⟩ := hrel; have hx : Crc.crcL 4294967295 (zs.take k) < 4294967296 := Crc.crcL_lt _ (Crc.lt_take _ _ HB.out) _ (by decide)
    by_cases hlt : k < len
    · obtain ⟨b, off, rfl, hcc⟩ := hc (by omega); have hck := hcc k hlt; obtain ⟨c, hce⟩ : ∃ c, c = zs.getD k 0 := ⟨_, rfl⟩
      have hc256 : c < 256 := by rw [hce]; exact HB.out _ (Crc.getD_mem _ _ (by omega))
      rw [← hce] at hck; obtain ⟨x, hxe⟩ : ∃ x, x = Crc.crcL 4294967295 (zs.take k) := ⟨_, rfl⟩
      have HN : Hid (Crc.crcL 4294967295 (zs.take (k + 1)) = Crc.step4 (Crc.step4 (x ^^^ c))) := by
        show _ = _
        rw [Crc.take_snoc zs k (by omega), Crc.crcL_snoc, ← hxe, ← hce]; rfl
      rw [← hxe] at hx ⊢; clear hce hcc hc hxe
      have e1 : ((c : Int) % 4294967296) = c := by omega
      have e2 : bits .xor .u32 (x : Int) (c : Int) = ((x ^^^ c : Nat) : Int) := u32_xor_nat x c hx (by omega); have hy : x ^^^ c < 4294967296 := Nat.xor_lt_two_pow (n := 32) hx (by omega); obtain ⟨y, hye⟩ : ∃ y, y = x ^^^ c := ⟨_, rfl⟩; rw [← hye] at e2 hy HN; clear hye
      go_wp2_with (go_at_call 86; refine (l2Table_any y hy _).mono ?_; rintro e w' ⟨rfl, rfl⟩)
      go_round
      case rel => exact ⟨k + 1, by omega, by go_num, by rw [HN.out]⟩
      case measure => simp [intOf]; omega
    · have HE : Hid (zs.take k = zs) := List.take_of_length_le (by omega); obtain ⟨x, hxe⟩ : ∃ x, x = Crc.crcL 4294967295 (zs.take k) := ⟨_, rfl⟩; rw [← hxe] at hx ⊢; rw [HE.out] at hxe; have HX : Hid (x = Crc.crcL 4294967295 zs) := hxe; clear hxe; have e1 := not32 x hx; go_wp2; go_ret; exact ⟨ret_int (by unfold Crc.crc; rw [← HX.out]), rfl⟩
/-- n bytes of a number, the lowest first -/
def leN : Nat → Nat → List Nat
  | _, 0 => []
  | v, n + 1 => leN v n ++ [v / 256 ^ n % 256]
theorem leN_len (v n : Nat) : (leN v n).length = n := by
  induction n with
  | zero => rfl
  | succ n ih => simp [leN, ih]
theorem leN_four (v : Nat) : leN v 4 = le4 v := by simp [leN, le4]
theorem leN_lt (v n : Nat) : ∀ z ∈ leN v n, z < 256 := by
  induction n with
  | zero => simp [leN]
  | succ n ih =>
    intro z hz
    rcases List.mem_append.1 hz with h | h
    · exact ih z h
    · simp at h; omega
set_option maxHeartbeats 600000 in
theorem l2Put_any (V n : Nat) (w : World) (hV : V ≤ 4611686018427387904) (hn : n ≤ 16) :
    Calls Tryz.prog 82 #[.int .i64 (V : Int), .int .i64 (n : Int)] w fun e w' => ∃ v, e = .returned v ∧ w'.ownsRow w.heap.size 5 1 v n ((leN V n).map bv) ∧ w.grownBy w' none := by
  obtain ⟨i0, hi, hz0, hz1, hz2⟩ := info_parts Tryz.infoByte
  go_enter Tryz.func82, Tryz.ntmps82
  go_wp2
  go_loopw [0, 5, 6] (fun q o i wr => ∃ k : Nat, k ≤ n ∧ i = .int .i64 k ∧ (∃ x : Nat, q = .int .i64 x ∧ x = V / 256 ^ k) ∧ wr.ownsRow w.heap.size 5 1 o k ((leN V k).map bv) ∧ w.grownBy wr none) (fun _ _ i _ => n - (intOf i).toNat)
  case atStart => exact ⟨0, Nat.zero_le _, rfl, ⟨V, rfl, by simp⟩, World.ownsRow_made w #[] 0 (Nat.le_refl _) (Nat.zero_le _) rfl, World.grownBy_alloc _ _ _⟩
  case round =>
    obtain ⟨k, hk, rfl, ⟨x, rfl, hxe⟩, hown, hG⟩ := hrel
    have hxV : x ≤ V := by rw [hxe]; exact Nat.div_le_self _ _
    have HX : Hid (x = V / 256 ^ k) := hxe; have HG : Hid (w.grownBy wr none) := hG; have hsz := hG.size; have hrow := hown.lt; have HR : Hid (∀ g, Value.ownBlock _ = some g → w.heap.size ≤ g ∧ g < wr.heap.size) := hrow; clear hxe hG hrow
    by_cases hlt : k < n
    · have e1 : ((x : Int) % 256 % 256) = (x : Int) % 256 := by omega
      go_wp2_with (at_builtin; refine wpList_append_own _ rfl _ _ 37 rfl w.heap.size 5 i0 (.int .u8 0) 1 1 Tryz.underlying37 hi hz0 hz1 hz2 rfl (by decide) _ _ _ rfl (hown.alloc _) ⟨wr.heap.size, 0, none⟩ 1 1 [.int .u8 ((x : Int) % 256)] rfl rfl ?c1 ?c2 ?c3 ?c4 ?c5 ?_)
      case c1 =>
        intro j u hj
        match j, hj with
        | 0, hj => simp at hj; subst hj; simp [Addr.add]
      case c2 => intro u hu; simp at hu; subst hu; rfl
      case c3 => unfold maxLen; omega
      case c4 => omega
      case c5 => simp; omega
      intro v' w1 hown' hgrow _
      have R : Hid (w1.ownsRow w.heap.size 5 1 v' (k + 1) ((leN V (k + 1)).map bv) ∧ w.grownBy w1 none) := by
        refine ⟨?_, grownBy_row (grownBy_alloc HG.out _) hgrow (fun g hg => (HR.out g hg).1)⟩
        have e2 : ((leN V (k + 1)).map bv) = (leN V k).map bv ++ [.int .u8 ((x : Int) % 256)] := by
          rw [leN, ← HX.out]; simp [bv]
        rw [e2]; exact hown'
      have HX2 : Hid (x / 256 = V / 256 ^ (k + 1)) := by show _ = _; rw [HX.out, Nat.div_div_eq_div_mul, Nat.pow_succ]
      clear hown' hgrow hown; go_wp2; go_roundw
      case rel => exact ⟨k + 1, by omega, by go_num, ⟨x / 256, by go_num, HX2.out⟩, R.out.1, R.out.2⟩
      case measure => simp [intOf]; omega
    · obtain rfl : k = n := by omega
      have R : Hid (_ ∧ _) := ⟨hown, HG.out⟩; clear hown; go_wp2; go_ret; exact ⟨_, rfl, R.out.1, R.out.2⟩
/-- four bytes, with the value written out, and what a caller wants kept -/
theorem l2Put4 (V : Nat) (w : World) (hV : V ≤ 4611686018427387904) :
    Calls Tryz.prog 82 #[.int .i64 (V : Int), .int .i64 4] w fun e w' => ∃ g cap, e = .returned (.slice (some ⟨g, 0, none⟩) 4 cap) ∧ w'.ownsRow w.heap.size 5 1 (.slice (some ⟨g, 0, none⟩) 4 cap) 4 ((le4 V).map bv) ∧ w.grownBy w' none := by
  refine (l2Put_any V 4 w hV (by decide)).mono ?_; rintro e w' ⟨v, rfl, hown, hG⟩; rw [leN_four] at hown
  rcases hown.2 with ⟨_, h0⟩ | ⟨g, cap, cur, rfl, _⟩
  · cases h0
  · exact ⟨g, cap, rfl, hown, hG⟩
end Go.Proofs.YtjnegjgpkboocaaGreatDoor
/-
  What the model's FrameEncode stands on, in one name.
-/
/-
  The model's FrameEncode, walked.
-/
namespace Go.Proofs.YtjnegjgpkboocaaGreatDoor
open Go.RowKit

set_option maxHeartbeats 400000 in
theorem specEncode_bad (ty : Int) (oa : Option Addr) (len cap : Nat) (w : World) (hb : ty < 1 ∨ 255 < ty ∨ 8192 < len) (hx : len ≤ maxLen) :
    Calls Tryz.prog 69 #[.agg #[.int .i64 ty, .slice oa len cap]] w fun e w' => e = .returned (.tuple #[.slice none 0 0, .int .i64 5]) ∧ w.grownBy w' none := by
  unfold maxLen at hx
  by_cases h1 : ty < 1
  · have e1 : decide (ty < 1) = true := by simpa using h1
    go_enter Tryz.func69, Tryz.ntmps69
    go_wp2
    go_ret2
    exact ⟨rfl, World.grownBy_alloc _ _ _⟩
  by_cases h2 : 255 < ty
  · go_enter Tryz.func69, Tryz.ntmps69
    go_wp2
    go_ret2
    exact ⟨rfl, World.grownBy_alloc _ _ _⟩
  · have h3 : 8192 < len := by omega
    go_enter Tryz.func69, Tryz.ntmps69
    go_wp2
    go_ret2
    exact ⟨rfl, World.grownBy_alloc _ _ _⟩

set_option maxRecDepth 100000 in
set_option maxHeartbeats 2000000 in
theorem specEncode_ok (ty : Nat) (oa : Option Addr) (len cap : Nat) (zs : List Nat) (w : World) (h1 : 1 ≤ ty) (h2 : ty ≤ 255) (h3 : len ≤ 8192) (hsl : SlB w oa len zs) :
    Calls Tryz.prog 69 #[.agg #[.int .i64 (ty : Int), .slice oa len cap]] w fun e w' => ∃ g n cp, e = .returned (.tuple #[.slice (some ⟨g, 0, none⟩) n cp, .int .i64 0]) ∧ n = (enc ty zs).length ∧ w.heap.size ≤ g ∧ Own w' 5 g (enc ty zs) ∧ w.grownBy w' none ∧ n ≤ cp := by
  have HS : Hid (SlB w oa len zs) := hsl; have hl : zs.length = len := hsl.1; clear hsl; obtain ⟨i0, TB⟩ := byteT
  have HEZ : Hid ((∀ z ∈ encHead ty zs, z < 256) ∧ (∀ z ∈ encHead ty zs ++ zs, z < 256)) := by
    have h0 : ∀ z ∈ encHead ty zs, z < 256 := by
      intro z hz
      unfold encHead at hz
      rcases List.mem_append.1 hz with h | h
      · exact le4_lt _ z h
      · simp at h; omega
    refine ⟨h0, fun z hz => ?_⟩
    rcases List.mem_append.1 hz with h | h
    · exact h0 z h
    · exact HS.out.2.1 z h
  have e3 : ((ty : Int) % 256) = ty := by omega
  have e4 : IntKind.u8.wrap (ty : Int) = ty := by rw [IntKind.wrap_u8']; omega
  have HL : Hid (∀ X : World, w.heap.size < X.heap.size → X.cell? ⟨w.heap.size, 0, none⟩ = some (.int .i64 (ty : Int)) → X.cell? ⟨w.heap.size, 1, none⟩ = some (.slice oa len cap) →
      Calls Tryz.prog 82 #[.int .i64 (len : Int), .int .i64 4] X fun e w' => ∃ g cap', e = .returned (.slice (some ⟨g, 0, none⟩) 4 cap') ∧ Hid (w'.ownsRow (w.heap.size + 1) 5 1 (.slice (some ⟨g, 0, none⟩) 4 cap') 4 ((le4 len).map bv)) ∧ Hid (X.grownBy w' none) ∧ w.heap.size < g ∧ w.heap.size < w'.heap.size ∧ w'.cell? ⟨w.heap.size, 0, none⟩ = some (.int .i64 (ty : Int)) ∧ w'.cell? ⟨w.heap.size, 1, none⟩ = some (.slice oa len cap)) := by
    intro X hX c0 c1; refine (l2Put4 len X (by omega)).mono ?_; rintro e w' ⟨g, cap', rfl, hown, hG⟩; have hg := hown.lt g rfl; have hs := hG.size; exact ⟨g, cap', rfl, ownsRow_base hown (by omega), hG, by omega, by omega, ((bcell hG).1 _ _ hX).trans c0, ((bcell hG).1 _ _ hX).trans c1⟩
  go_enter Tryz.func69, Tryz.ntmps69
  go_wp2_with fail
  go_region_held3 (fun w' => w'.cell? ⟨w.heap.size, 0, none⟩ = some (.int .i64 (ty : Int)) ∧ w'.cell? ⟨w.heap.size, 1, none⟩ = some (.slice oa len cap)) (first | go_keep | (exact ⟨keep_far hgr2.out (by first | omega | (simp; done) | (simp; omega)) (Nat.ne_of_lt hgp) (by simp [*]), keep_far hgr2.out (by first | omega | (simp; done) | (simp; omega)) (Nat.ne_of_lt hgp) (by simp [*])⟩) | fail)
    (first
      | (go_at_call 82; refine (HL.out _ (by first | omega | (simp; done) | (simp; omega)) (by simp) (by simp)).mono ?_; rintro e w1 ⟨gp, cp, rfl, hown1, hG1, hgp, hw1, hS0, hS1⟩)
      | (refine step_append_b (by rfl) (.tmp 23) (.tmp 27) TB (by rfl) (base := w.heap.size + 1) (g := gp) (n := 4) (cap := cp) (xs := le4 len) (by rfl) (by exact ownsRow_heap (hown1.out.alloc _) rfl) (oa := some ⟨w1.heap.size, 0, none⟩) (m := 4) (c := 4) (zs := [ty, 0, 0, 0]) (by rfl) (by exact lit_sl (zs := [ty, 0, 0, 0]) (heap_alloc_new w1 _) (by simp; omega)) (by omega) (by first | omega | (simp; done) | (simp; omega)) ?_; intro g2 cp2 w2 hown2 hgr2 hat2 hsz2)
      | (refine step_append_b (by rfl) (.tmp 23) (.tmp 27) TB (by rfl) (base := w.heap.size + 1) (g := gp) (n := 4) (cap := cp) (xs := le4 len) (by rfl) (by exact ownsRow_heap hown1.out rfl) (oa := some ⟨w.heap.size + 1, 0, none⟩) (m := 4) (c := 4) (zs := [ty, 0, 0, 0]) (by rfl) (by exact lit_sl (zs := [ty, 0, 0, 0]) ((hG1.out.block (w.heap.size + 1) (by first | omega | (simp; done) | (simp; omega)) (by simp)).trans (heap_two w _ _)) (by simp; omega)) (by omega) (by first | omega | (simp; done) | (simp; omega)) ?_; intro g2 cp2 w2 hown2 hgr2 hat2 hsz2)
      | fail)
  all_goals
    have C2 : Hid (w.grownBy w2 none) := by
      first
        | exact grown_next hgr2.out (grownBy_alloc (grownBy_trans (World.grownBy_alloc w _ none) hG1.out) _) ⟨rfl, rfl, rfl, rfl⟩ (by omega)
        | exact grown_next hgr2.out (grownBy_trans (grownBy_alloc (World.grownBy_alloc w _ none) _) hG1.out) ⟨rfl, rfl, rfl, rfl⟩ (by omega)
        | exact grown_next hgr2.out (grownBy_trans (grownBy_drew (grownBy_alloc (World.grownBy_alloc w _ none) _)) hG1.out) ⟨rfl, rfl, rfl, rfl⟩ (by omega)
        | exact grown_next hgr2.out (grownBy_alloc (grownBy_trans (grownBy_drew (World.grownBy_alloc w _ none)) hG1.out) _) ⟨rfl, rfl, rfl, rfl⟩ (by omega)
    have hg2 := (hown2.out.lt g2 rfl).1
    have hs2 : w.heap.size < w2.heap.size := by have := hown2.out.lt g2 rfl; omega
    have R2 : Hid (w2.ownsRow (w.heap.size + 1) 5 1 (.slice (some ⟨g2, 0, none⟩) 8 cp2) 8 ((encHead ty zs).map bv)) := by
      have := hown2.out
      unfold encHead
      rw [hl]; exact this
    clear hown1 hG1 hgp hw1 hS0 hS1 hgr2 hat2 hown2 hsz2; go_wp2_with fail
    go_region_held3 (fun w' => w'.cell? ⟨w.heap.size, 0, none⟩ = some (.int .i64 (ty : Int)) ∧ w'.cell? ⟨w.heap.size, 1, none⟩ = some (.slice oa len cap)) (first | go_keep | (exact ⟨keep_far hgr4.out (by first | omega | (simp; done) | (simp; omega)) (by omega) (by simp [*]), keep_far hgr4.out (by first | omega | (simp; done) | (simp; omega)) (by omega) (by simp [*])⟩) | (exact ⟨keep_far hgr3.out (by first | omega | (simp; done) | (simp; omega)) (by omega) (by simp [*]), keep_far hgr3.out (by first | omega | (simp; done) | (simp; omega)) (by omega) (by simp [*])⟩) | fail)
      (first
        | (go_at_call 83; refine (specCrc_any (some ⟨g4, 0, none⟩) (8 + len) cp4 (encHead ty zs ++ zs) _ (by exact (ownsRow_sl hown4.out HEZ.out.2).heap rfl) (by omega)).mono ?_; rintro e w5 ⟨rfl, rfl⟩)
        | (refine step_append_b (by rfl) (.tmp 31) (.tmp 33) TB (by rfl) (base := w.heap.size + 1) (g := g3) (n := 8) (cap := cp3) (xs := encHead ty zs) (by rfl) (by exact ownsRow_heap hown3.out rfl) (oa := oa) (m := len) (c := cap) (zs := zs) (by rfl) (by exact (HS.out.grown0 C3.out).heap rfl) (by omega) (by first | omega | (simp; done) | (simp; omega)) ?_; intro g4 cp4 w4 hown4 hgr4 hat4 hsz4; have hg4 := hown4.out.lt g4 rfl; have C4 : Hid (w.grownBy w4 none) := (by exact grown_next hgr4.out C3.out ⟨rfl, rfl, rfl, rfl⟩ (by omega)))
        | (refine step_append_b (by rfl) (.tmp 29) (.tmp 30) TB (by rfl) (base := w.heap.size + 1) (g := w2.heap.size) (n := 0) (cap := 0) (xs := []) (by rfl) (by exact ownsRow_heap (World.ownsRow_made w2 #[] 0 (by omega) (Nat.zero_le _) rfl) rfl) (oa := some ⟨g2, 0, none⟩) (m := 8) (c := cp2) (zs := encHead ty zs) (by rfl) (by exact (ownsRow_sl (R2.out.alloc _) HEZ.out.1).heap rfl) (by omega) (by first | omega | (simp; done) | (simp; omega)) ?_; intro g3 cp3 w3 hown3 hgr3 hat3 hsz3; have hg3 := hown3.out.lt g3 rfl; have C3 : Hid (w.grownBy w3 none) := (by exact grown_next hgr3.out (grownBy_alloc C2.out (.cells #[] 5)) ⟨rfl, rfl, rfl, rfl⟩ (by omega)))
        | fail)
    have hl2 := R2.out.lt g2 rfl
    have R3 : w3.ownsRow (w.heap.size + 1) 5 1 (.slice (some ⟨g2, 0, none⟩) 8 cp2) 8 ((encHead ty zs).map bv) := by
      have R3' : ((w2.alloc (.cells #[] 5)).drew).ownsRow (w.heap.size + 1) 5 1 (.slice (some ⟨g2, 0, none⟩) 8 cp2) 8 ((encHead ty zs).map bv) := ownsRow_heap (R2.out.alloc (.cells #[] 5)) rfl; refine World.ownsRow.kept R3' hgr3.out (.inr ?_)
      simp [Value.ownBlock]; omega
    have hne3 : g2 ≠ g3 := by
      rcases hat3.out with h | h
      · omega
      · simp at h; omega
    have R5 : Hid (w5.ownsRow (w.heap.size + 1) 5 1 (.slice (some ⟨g2, 0, none⟩) 8 cp2) 8 ((encHead ty zs).map bv)) :=
      R3.kept hgr4.out (.inr (by simp [Value.ownBlock]; omega))
    have c5 : w5.cell? ⟨w.heap.size, 1, none⟩ = some (.slice oa len cap) := by
      rename_i hh
      exact hh.2
    have HX : Hid (∃ x, x = Crc.crc (encHead ty zs ++ zs)) := ⟨_, rfl⟩; obtain ⟨x, hxe⟩ := HX.out
    have hx32 : x < 4294967296 := by rw [hxe]; exact crc_lt _
    rw [← hxe]; have HXE : Hid (x = Crc.crc (encHead ty zs ++ zs)) := hxe
    have hs5 : w.heap.size < w5.heap.size := by omega
    clear hxe HX R3 hne3 hgr3 hgr4 hat3 hat4 hown3 hown4 hg3 hg4 hsz3 hsz4 C2 C3 R2 hl2 HL; go_wp2_with fail; refine (l2Put4 x w5 (by omega)).mono ?_; rintro e w6 ⟨g6, cp6, rfl, hown6, hG6⟩; have hb6 := hown6.lt g6 rfl; have c6 : w6.cell? ⟨w.heap.size, 1, none⟩ = some (.slice oa len cap) := ((bcell hG6).1 _ _ hs5).trans c5; have R6 : Hid (w6.ownsRow (w.heap.size + 1) 5 1 (.slice (some ⟨g2, 0, none⟩) 8 cp2) 8 ((encHead ty zs).map bv)) := R5.out.kept hG6 (.inr (by simp [Value.ownBlock])); have C6 : Hid (w.grownBy w6 none) := grownBy_trans C4.out hG6; have O6 : Hid (w6.ownsRow w5.heap.size 5 1 (.slice (some ⟨g6, 0, none⟩) 4 cp6) 4 ((le4 x).map bv)) := hown6; clear hown6 hG6 R5 C4 c5
    go_wp2_with (first
      | (at_builtin; refine wpList_append_b (by rfl) (.tmp 36) (.tmp 39) TB (by rfl) (base := w.heap.size + 1) (g := g2) (n := 8) (cap := cp2) (xs := encHead ty zs) (by rfl) (by exact R6.out) (oa := some ⟨g6, 0, none⟩) (m := 4) (c := cp6) (zs := le4 x) (by rfl) (by exact ownsRow_sl O6.out (le4_lt x)) (by omega) (by omega) ?_; intro g7 cp7 w7 hown7 hgr7 hat7 hsz7; have hg7 := hown7.out.lt g7 rfl; have C7 : Hid (w.grownBy w7 none) := (by exact grown_next hgr7.out C6.out ⟨rfl, rfl, rfl, rfl⟩ (by omega)); have c7 : w7.cell? ⟨w.heap.size, 1, none⟩ = some (.slice oa len cap) := (by exact keep_far hgr7.out (by omega) (by omega) c6))
      | (at_builtin; refine wpList_append_b (by rfl) (.tmp 41) (.tmp 43) TB (by rfl) (base := w.heap.size + 1) (g := g7) (n := 12) (cap := cp7) (xs := encHead ty zs ++ le4 x) (by rfl) (by exact hown7.out) (oa := oa) (m := len) (c := cap) (zs := zs) (by rfl) (by exact HS.out.grown0 C7.out) (by omega) (by omega) ?_; intro g8 cp8 w8 hown8 hgr8 hat8 hsz8; have hg8 := hown8.out.lt g8 rfl; have C8 : Hid (w.grownBy w8 none) := (by exact grown_next hgr8.out C7.out ⟨rfl, rfl, rfl, rfl⟩ (by omega))))
    obtain ⟨p, hpe⟩ : ∃ p, p = pad len := ⟨_, rfl⟩
    have hp4 : p < 4 := by rw [hpe]; exact pad_lt len
    have hpm : (len + p) % 4 = 0 := by rw [hpe]; unfold pad; omega
    have HPE : Hid (p = pad len) := hpe; have O8 : Hid (w8.ownsRow (w.heap.size + 1) 5 1 (.slice (some ⟨g8, 0, none⟩) (12 + len) cp8) (12 + len) ((encHead ty zs ++ le4 x ++ zs).map bv)) := hown8; clear hpe hown7 hgr7 hat7 hsz7 hg7 C7 c7 hgr8 hat8 hsz8 R6 O6 C6 c6 hb6 hown8 hg8; obtain ⟨L, hL⟩ : ∃ L, L = encHead ty zs ++ le4 x ++ zs := ⟨_, rfl⟩; rw [← hL] at O8; have HL8 : Hid (L = encHead ty zs ++ le4 x ++ zs) := hL; clear hL
    go_loopw [4] (fun o wr => ∃ k g cp, k ≤ p ∧ o = .slice (some ⟨g, 0, none⟩) (12 + len + k) cp ∧ wr.ownsRow (w.heap.size + 1) 5 1 o (12 + len + k) ((L ++ List.replicate k 0).map bv) ∧ w.grownBy wr none) (fun o _ => 16 + len - sliceLen o)
    case atStart => exact ⟨0, g8, cp8, Nat.zero_le _, rfl, by simpa using O8.out, C8.out⟩
    case round =>
      obtain ⟨k, g, cp, hk, rfl, hown, hG⟩ := hrel; have hgl := hown.lt g rfl; have HO : Hid (wr.ownsRow (w.heap.size + 1) 5 1 (.slice (some ⟨g, 0, none⟩) (12 + len + k) cp) (12 + len + k) ((L ++ List.replicate k 0).map bv) ∧ w.grownBy wr none) := ⟨hown, hG⟩; clear hown hG
      by_cases hlt : k < p
      · have e5 : ((12 + (len : Int) + k) % 4 != 0) = true := by rw [bne_iff_ne]; omega
        have e6 : ¬ (12 + (len : Int) + k) % 4 = 0 := by omega
        go_wp2_with (at_builtin; refine wpList_append_b (by rfl) (.tmp 49) (.tmp 50) TB (by rfl) (base := w.heap.size + 1) (g := g) (n := 12 + len + k) (cap := cp) (xs := L ++ List.replicate k 0) (by rfl) (by exact HO.out.1.alloc _) (oa := some ⟨wr.heap.size, 0, none⟩) (m := 1) (c := 1) (zs := [0]) (by rfl) (by exact lit_sl (zs := [0]) (heap_alloc_new wr _) (by simp)) (by omega) (by simp; omega) ?_; intro g9 cp9 w9 hown9 hgr9 hat9 hsz9; have C9 : Hid (w.grownBy w9 none) := (by exact grown_next hgr9.out (grownBy_alloc HO.out.2 _) ⟨rfl, rfl, rfl, rfl⟩ (by omega)))
        go_roundw
        case rel =>
          refine ⟨k + 1, g9, cp9, by omega, rfl, ?_, C9.out⟩; have := hown9.out; rw [show L ++ List.replicate (k + 1) 0 = L ++ List.replicate k 0 ++ [0] by rw [List.replicate_succ', List.append_assoc]]; exact this
        case measure => simp [sliceLen]; omega
      · obtain rfl : k = p := by omega
        have e5 : ((12 + (len : Int) + k) % 4 != 0) = false := by simp; omega
        have e6 : (12 + (len : Int) + k) % 4 = 0 := by omega
        have hE : L ++ List.replicate k 0 = enc ty zs := by
          rw [HL8.out, HXE.out, HPE.out, ← hl]; rfl
        have R : Hid (12 + len + k = (enc ty zs).length ∧ Own wr 5 g (enc ty zs) ∧ w.grownBy wr none ∧ 12 + len + k ≤ cp) := by
          refine ⟨?_, ?_, HO.out.2, ownsRow_le HO.out.1⟩
          · rw [enc_len, hl, ← HPE.out]
          · rw [← hE]; refine own_made HO.out.1 ?_; rw [hE]; intro z hz
            unfold enc at hz
            rcases List.mem_append.1 hz with h | h
            · rcases List.mem_append.1 h with h | h
              · rcases List.mem_append.1 h with h | h
                · exact HEZ.out.1 z h
                · exact le4_lt _ z h
              · exact HS.out.2.1 z h
            · have := List.eq_of_mem_replicate h; omega
        clear hE; go_wp2
        go_ret2
        exact ⟨g, _, cp, rfl, R.out.1, by omega, R.out.2.1, R.out.2.2.1, R.out.2.2.2⟩
def OwnS (w : World) (e : TypeId) (og : Option Addr) (n : Nat) (zs : List Nat) : Prop :=
  zs.length = n ∧ ((og = none ∧ n = 0) ∨ ∃ g, og = some ⟨g, 0, none⟩ ∧ Own w e g zs)
/-- its block -/
def blk (og : Option Addr) : Option Nat := og.map (·.block)
theorem OwnS.sl {w : World} {e : TypeId} {og : Option Addr} {n : Nat} {zs : List Nat} (h : OwnS w e og n zs) : SlB w og n zs := by
  obtain ⟨h1, ⟨rfl, rfl⟩ | ⟨g, rfl, hO⟩⟩ := h
  · obtain rfl : zs = [] := List.eq_nil_of_length_eq_zero h1; exact ⟨rfl, by simp, fun h => absurd rfl h⟩
  · exact hO.sl n h1
theorem OwnS.grown {w w' : World} {row : Option Nat} {e : TypeId} {og : Option Addr} {n : Nat} {zs : List Nat} (h : OwnS w e og n zs) (hg : w.grownBy w' row) (hne : ∀ g, blk og = some g → some g ≠ row) : OwnS w' e og n zs := by
  obtain ⟨h1, ⟨rfl, rfl⟩ | ⟨g, rfl, hO⟩⟩ := h
  · exact ⟨h1, .inl ⟨rfl, rfl⟩⟩
  · exact ⟨h1, .inr ⟨g, rfl, hO.grown hg (hne g rfl)⟩⟩
theorem OwnS.grown0 {w w' : World} {e : TypeId} {og : Option Addr} {n : Nat} {zs : List Nat} (h : OwnS w e og n zs) (hg : w.grownBy w' none) : OwnS w' e og n zs := h.grown hg (by simp)
theorem OwnS.heap {w w' : World} {e : TypeId} {og : Option Addr} {n : Nat} {zs : List Nat} (h : OwnS w e og n zs) (hh : w'.heap = w.heap) : OwnS w' e og n zs := by
  obtain ⟨h1, h2 | ⟨g, rfl, hO⟩⟩ := h
  · exact ⟨h1, .inl h2⟩
  · exact ⟨h1, .inr ⟨g, rfl, hO.heap hh⟩⟩
theorem OwnS.lt {w : World} {e : TypeId} {og : Option Addr} {n : Nat} {zs : List Nat} (h : OwnS w e og n zs) : ∀ g, blk og = some g → g < w.heap.size := by
  obtain ⟨_, ⟨rfl, rfl⟩ | ⟨g', rfl, hO⟩⟩ := h
  · intro g hg; cases hg
  · intro g hg; obtain rfl : g' = g := by simpa [blk] using hg
    exact hO.lt
theorem Own.s {w : World} {e : TypeId} {g n : Nat} {zs : List Nat} (h : Own w e g zs) (hn : zs.length = n) : OwnS w e (some ⟨g, 0, none⟩) n zs := ⟨hn, .inr ⟨g, rfl, h⟩⟩
theorem OwnS.none (w : World) (e : TypeId) : OwnS w e none 0 [] := ⟨rfl, .inl ⟨rfl, rfl⟩⟩

set_option maxHeartbeats 400000 in
theorem markByteS_nil (m : Nat) (w : World) :
    Calls Tryz.prog 24 #[.slice none 0 0, .int .i64 (m : Int)] w fun e w' => e = .returned (.int .i64 (m : Int)) ∧ w' = w := by
  go_enter Tryz.func24, Tryz.ntmps24
  go_wp2
  go_loop [1, 5] (fun v i => i = .int .i64 0 ∧ v = .int .i64 (m : Int)) (fun _ _ => 0)
  case atStart => exact ⟨rfl, rfl⟩
  case round =>
    obtain ⟨rfl, rfl⟩ := hrel; go_wp2; go_ret; exact ⟨rfl, rfl⟩
set_option maxHeartbeats 400000 in
theorem heldByteS_nil (m : Nat) (w : World) :
    Calls Tryz.prog 46 #[.slice none 0 0, .int .i64 (m : Int)] w fun e w' => e = .returned (.int .i64 (m : Int)) ∧ w' = w := by
  go_enter Tryz.func46, Tryz.ntmps46
  go_wp2
  go_loop [1, 5] (fun v i => i = .int .i64 0 ∧ v = .int .i64 (m : Int)) (fun _ _ => 0)
  case atStart => exact ⟨rfl, rfl⟩
  case round =>
    obtain ⟨rfl, rfl⟩ := hrel; go_wp2; go_ret; exact ⟨rfl, rfl⟩
theorem marked_lt (zs : List Nat) (m k : Nat) (h : ∀ z ∈ zs, z < 256) : ∀ z ∈ marked zs m k, z < 256 := by
  induction k with
  | zero => exact h
  | succ k ih =>
    intro z hz
    rcases List.mem_or_eq_of_mem_set hz with h1 | h1
    · exact ih z h1
    · omega
theorem markByteS_s (og : Option Addr) (n cap m : Nat) (zs : List Nat) (w : World) (h : OwnS w 5 og n zs) (hn : og = none → cap = 0) (hm : n ≤ 1073741824) (hm2 : m ≤ 1073741824) :
    Calls Tryz.prog 24 #[.slice og n cap, .int .i64 (m : Int)] w fun e w' => e = .returned (.int .i64 ((m : Int) + n)) ∧ OwnS w' 5 og n (marked zs m n) ∧ w.grownBy w' (blk og) := by
  obtain ⟨h1, ⟨rfl, rfl⟩ | ⟨g, rfl, hO⟩⟩ := h
  · obtain rfl := hn rfl; refine (markByteS_nil m w).mono ?_; rintro e w' ⟨rfl, rfl⟩; refine ⟨by simp, ⟨by rw [marked_len]; exact h1, .inl ⟨rfl, rfl⟩⟩, grownBy_refl _ _⟩
  · refine (markByteS_own g n cap m zs w hO h1 hm hm2).mono ?_; rintro e w' ⟨rfl, hO', hG⟩; exact ⟨rfl, hO'.s (by rw [marked_len]; exact h1), hG⟩
theorem heldByteS_s (og : Option Addr) (n cap m : Nat) (zs : List Nat) (w : World) (h : OwnS w 5 og n zs) (hn : og = none → cap = 0) (hz : ∀ i, i < n → zs.getD i 0 = (m + i) % 256) (hm : n ≤ 1073741824) (hm2 : m ≤ 1073741824) :
    Calls Tryz.prog 46 #[.slice og n cap, .int .i64 (m : Int)] w fun e w' => e = .returned (.int .i64 ((m : Int) + n)) ∧ w' = w := by
  obtain ⟨h1, ⟨rfl, rfl⟩ | ⟨g, rfl, hO⟩⟩ := h
  · obtain rfl := hn rfl; refine (heldByteS_nil m w).mono ?_; rintro e w' ⟨rfl, rfl⟩; exact ⟨by simp, rfl⟩
  · exact heldByteS_own g n cap m zs w hO h1 hz hm hm2
/-- what FrameEncode tells: the bytes, the code -/
def encR (ty : Int) (zs : List Nat) : List Nat := if ty < 1 ∨ 255 < ty ∨ 8192 < zs.length then [] else enc ty.toNat zs
def encC (ty : Int) (zs : List Nat) : Int := if ty < 1 ∨ 255 < ty ∨ 8192 < zs.length then 5 else 0
theorem encR_len (ty : Int) (zs : List Nat) : (encR ty zs).length ≤ 8207 := by
  unfold encR
  split
  · simp
  · rw [enc_len]; have := pad_lt zs.length; omega
theorem specEncode_any (ty : Int) (oa : Option Addr) (len cap : Nat) (zs : List Nat) (w : World) (hsl : SlB w oa len zs) (hx : len ≤ maxLen) :
    Calls Tryz.prog 69 #[.agg #[.int .i64 ty, .slice oa len cap]] w fun e w' => ∃ og n cp, e = .returned (.tuple #[.slice og n cp, .int .i64 (encC ty zs)]) ∧ n ≤ 8207 ∧ (og = none → cp = 0) ∧ (∀ g, blk og = some g → w.heap.size ≤ g) ∧ OwnS w' 5 og n (encR ty zs) ∧ w.grownBy w' none := by
  have hl := hsl.1
  by_cases hb : ty < 1 ∨ 255 < ty ∨ 8192 < zs.length
  · refine (specEncode_bad ty oa len cap w (by omega) hx).mono ?_; rintro e w' ⟨rfl, hG⟩; refine ⟨none, 0, 0, by simp [encC, hb], by omega, fun _ => rfl, (fun g hg => by cases hg), ?_, hG⟩
    have e1 : encR ty zs = [] := by simp [encR, hb]
    rw [e1]; exact OwnS.none _ _
  · obtain ⟨t, rfl⟩ := Int.eq_ofNat_of_zero_le (show 0 ≤ ty by omega); refine (specEncode_ok t oa len cap zs w (by omega) (by omega) (by omega) hsl).mono ?_; rintro e w' ⟨g, n, cp, rfl, hn, hg, hO, hG, -⟩
    have e1 : encR (t : Int) zs = enc t zs := by simp [encR, hb]
    refine ⟨some ⟨g, 0, none⟩, n, cp, by simp [encC, hb], ?_, (fun h => by cases h), fun g' hg' => ?_, ?_, hG⟩
    · rw [hn, enc_len]; have := pad_lt zs.length; omega
    · obtain rfl : g = g' := by simpa [blk] using hg'
      exact hg
    · rw [e1]; exact hO.s hn.symm
end Go.Proofs.YtjnegjgpkboocaaGreatDoor
