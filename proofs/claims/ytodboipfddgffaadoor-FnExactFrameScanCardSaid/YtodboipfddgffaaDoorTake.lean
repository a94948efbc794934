/-
  A number out of bytes: the program's takeNumber, the model's l2Get, walked; slices.Clone of bytes.
-/
import Derived.Test.YtodboipfddgffaaDoorSpecEnc2
import Derived.Lib.BufferMore
namespace Go.Proofs.YtodboipfddgffaaDoor
open Go.RowKit

/-- the number of bytes, the lowest first -/
def leVal : List Nat → Nat
  | [] => 0
  | z :: zs => z + 256 * leVal zs
theorem leVal_snoc (l : List Nat) (c : Nat) : leVal (l ++ [c]) = leVal l + 256 ^ l.length * c := by
  induction l with
  | nil => simp [leVal]
  | cons z l ih =>
    simp only [List.cons_append, leVal, ih, List.length_cons, Nat.pow_succ]
    rw [Nat.mul_add, ← Nat.mul_assoc, Nat.mul_comm 256 (256 ^ l.length)]
    omega
theorem leVal_lt (l : List Nat) (h : ∀ z ∈ l, z < 256) : leVal l < 256 ^ l.length := by
  induction l with
  | nil => simp [leVal]
  | cons z l ih =>
    have := ih (fun z hz => h z (by simp [hz]))
    have := h z (by simp)
    simp only [leVal, List.length_cons, Nat.pow_succ]
    omega
theorem le4_val (n : Nat) (h : n < 4294967296) : leVal (le4 n) = n := by simp [leVal, le4]; omega
theorem le4_of_val (l : List Nat) (h : ∀ z ∈ l, z < 256) (h4 : l.length = 4) : le4 (leVal l) = l := by
  match l, h4 with
  | [a, b, c, d], _ =>
    have ha := h a (by simp)
    have hb := h b (by simp)
    have hc := h c (by simp)
    have hd := h d (by simp)
    simp only [leVal, le4]
    congr 1
    · omega
    congr 1
    · omega
    congr 1
    · omega
    congr 1
    · omega
theorem or_add (x z i : Nat) (h : x < 2 ^ i) : x ||| (z * 2 ^ i) = x + z * 2 ^ i := by
  have := Nat.shiftLeft_add_eq_or_of_lt h z
  rw [Nat.shiftLeft_eq] at this
  rw [Nat.or_comm, ← this, Nat.add_comm]

set_option maxHeartbeats 1000000 in
theorem takeNumber_any (oa : Option Addr) (len cap : Nat) (zs : List Nat) (w : World) (hsl : SlB w oa len zs) (h4 : 4 ≤ len) (hm : len ≤ 1073741824) :
    Calls Tryd.prog 39 #[.slice oa len cap] w fun e w' => e = .returned (.int .u32 ((leVal (zs.take 4) : Nat) : Int)) ∧ w' = w := by
  obtain ⟨hl, hb, hc⟩ := hsl
  obtain ⟨b, off, rfl, hcc⟩ := hc (by omega)
  have HB : Hid (∀ z ∈ zs, z < 256) := hb
  have HC : Hid (∀ i, i < len → _) := hcc
  clear hb hcc hc
  go_enter Tryd.func39, Tryd.ntmps39
  go_wp2
  go_loop [3, 5] (fun v i => ∃ k : Nat, k ≤ 4 ∧ i = .int .i64 k ∧ v = .int .u32 ((leVal (zs.take k) : Nat) : Int)) (fun _ i => 4 - (intOf i).toNat)
  case atStart => exact ⟨0, Nat.zero_le _, rfl, rfl⟩
  case round =>
    obtain ⟨k, hk, rfl, rfl⟩ := hrel
    by_cases hlt : k < 4
    · have hck := HC.out k (by omega)
      obtain ⟨c, hce⟩ : ∃ c, c = zs.getD k 0 := ⟨_, rfl⟩
      have hc256 : c < 256 := by rw [hce]; exact HB.out _ (Crc.getD_mem _ _ (by omega))
      rw [← hce] at hck
      obtain ⟨x, hxe⟩ : ∃ x, x = leVal (zs.take k) := ⟨_, rfl⟩
      have hx : x < 256 ^ k := by
        have := leVal_lt (zs.take k) (fun z hz => HB.out z (List.mem_of_mem_take hz))
        rw [← hxe] at this
        simpa [show min k zs.length = k by omega] using this
      have HN : Hid (leVal (zs.take (k + 1)) = x + 256 ^ k * c) := by
        show _ = _
        rw [Crc.take_snoc zs k (by omega), leVal_snoc, ← hxe, ← hce]
        simp [show min k zs.length = k by omega]
      rw [← hxe]
      clear hce hxe
      rcases (show k = 0 ∨ k = 1 ∨ k = 2 ∨ k = 3 by omega) with rfl | rfl | rfl | rfl
      · have e1 : bits .or .u32 (x : Int) (c : Int) = ((x + 256 ^ 0 * c : Nat) : Int) := by
          have := or_add x c 0 (by simpa using hx)
          rw [u32_or_nat x c (by omega) (by omega)]
          simp at this ⊢
          rw [this]
          simp
        simp only [Nat.add_zero] at hck
        have e0 : ((c : Int) % 4294967296) = c := by omega
        go_wp2
        go_round
        case rel => exact ⟨1, by omega, by go_num, by rw [HN.out]; first | exact congrArg _ e1 | rfl | (simp; done)⟩
        case measure => simp [intOf]
      · have e1 : bits .or .u32 (x : Int) ((c : Int) * 256) = ((x + 256 ^ 1 * c : Nat) : Int) := by
          have := or_add x c 8 (by simpa using hx)
          rw [show (c : Int) * 256 = ((c * 256 : Nat) : Int) by omega, u32_or_nat x (c * 256) (by omega) (by omega)]
          rw [show c * 256 = c * 2 ^ 8 by rfl, this]; simp; omega
        have e0 : ((c : Int) % 4294967296) = c := by omega
        have e2 : ((c : Int) * 256) % 4294967296 = (c : Int) * 256 := by omega
        go_wp2
        go_round
        case rel => exact ⟨2, by omega, by go_num, by rw [HN.out]; first | exact congrArg _ e1 | rfl | (simp; done)⟩
        case measure => simp [intOf]
      · have e1 : bits .or .u32 (x : Int) ((c : Int) * 65536) = ((x + 256 ^ 2 * c : Nat) : Int) := by
          have := or_add x c 16 (by simpa using hx)
          rw [show (c : Int) * 65536 = ((c * 65536 : Nat) : Int) by omega, u32_or_nat x (c * 65536) (by omega) (by omega)]
          rw [show c * 65536 = c * 2 ^ 16 by rfl, this]; simp; omega
        have e0 : ((c : Int) % 4294967296) = c := by omega
        have e2 : ((c : Int) * 65536) % 4294967296 = (c : Int) * 65536 := by omega
        go_wp2
        go_round
        case rel => exact ⟨3, by omega, by go_num, by rw [HN.out]; first | exact congrArg _ e1 | rfl | (simp; done)⟩
        case measure => simp [intOf]
      · have e1 : bits .or .u32 (x : Int) ((c : Int) * 16777216) = ((x + 256 ^ 3 * c : Nat) : Int) := by
          have := or_add x c 24 (by simpa using hx)
          rw [show (c : Int) * 16777216 = ((c * 16777216 : Nat) : Int) by omega, u32_or_nat x (c * 16777216) (by omega) (by omega)]
          rw [show c * 16777216 = c * 2 ^ 24 by rfl, this]; simp; omega
        have e0 : ((c : Int) % 4294967296) = c := by omega
        have e2 : ((c : Int) * 16777216) % 4294967296 = (c : Int) * 16777216 := by omega
        go_wp2
        go_round
        case rel => exact ⟨4, by omega, by go_num, by rw [HN.out]; first | exact congrArg _ e1 | rfl | (simp; done)⟩
        case measure => simp [intOf]
    · obtain rfl : k = 4 := by omega
      go_wp2
      go_ret
      exact ⟨rfl, rfl⟩

/-- what l2Get makes of at most eight bytes -/
def satVal (zs : List Nat) : Nat := if 18014398509481984 ≤ leVal (zs.drop 1) then 4611686018427387904 else leVal zs
theorem leVal_drop (zs : List Nat) (k : Nat) (h : k < zs.length) : leVal (zs.drop k) = zs.getD k 0 + 256 * leVal (zs.drop (k + 1)) := by
  rw [List.drop_eq_getElem_cons h, leVal, List.getD_eq_getElem?_getD, List.getElem?_eq_getElem h]
  rfl
theorem leVal_drop_lt (zs : List Nat) (hb : ∀ z ∈ zs, z < 256) (h8 : zs.length ≤ 8) (k : Nat) (hk : 2 ≤ k) : leVal (zs.drop k) < 18014398509481984 := by
  have h1 := leVal_lt (zs.drop k) (fun z hz => hb z (List.mem_of_mem_drop hz))
  have h2 : (zs.drop k).length ≤ 6 := by simp; omega
  exact Nat.lt_of_lt_of_le h1 (Nat.le_trans (Nat.pow_le_pow_right (by decide) h2) (by decide))
theorem satVal_four (zs : List Nat) (hb : ∀ z ∈ zs, z < 256) (h4 : zs.length ≤ 4) : satVal zs = leVal zs := by
  have h1 := leVal_lt (zs.drop 1) (fun z hz => hb z (List.mem_of_mem_drop hz))
  have h2 : (zs.drop 1).length ≤ 3 := by simp; omega
  have h3 : leVal (zs.drop 1) < 16777216 := Nat.lt_of_lt_of_le h1 (Nat.le_trans (Nat.pow_le_pow_right (by decide) h2) (by decide))
  unfold satVal
  rw [if_neg (by omega)]

set_option maxRecDepth 100000 in
set_option maxHeartbeats 1000000 in
theorem l2Get_any (oa : Option Addr) (len cap : Nat) (zs : List Nat) (w : World) (hsl : SlB w oa len zs) (h8 : len ≤ 8) :
    Calls Tryd.prog 37 #[.slice oa len cap] w fun e w' => e = .returned (.int .i64 ((satVal zs : Nat) : Int)) ∧ w' = w := by
  obtain ⟨hl, hb, hc⟩ := hsl
  have HB : Hid (∀ z ∈ zs, z < 256) := hb
  have HC : Hid (len ≠ 0 → _) := hc
  clear hb hc
  go_enter Tryd.func37, Tryd.ntmps37
  go_wp2
  go_loop [3, 4] (fun v i => ∃ k : Nat, k ≤ len ∧ i = .int .i64 ((k : Int) - 1) ∧ v = .int .i64 ((leVal (zs.drop k) : Nat) : Int) ∧ (k = 0 → leVal (zs.drop 1) < 18014398509481984)) (fun _ i => (intOf i + 1).toNat)
  case atStart =>
    refine ⟨len, Nat.le_refl _, rfl, by rw [List.drop_of_length_le (by omega)]; rfl, fun h => ?_⟩
    rw [List.drop_of_length_le (by omega)]
    decide
  case round =>
    obtain ⟨k, hk, rfl, rfl, hs⟩ := hrel
    by_cases h0 : k = 0
    · subst h0
      have HS : Hid (satVal zs = leVal (zs.drop 0)) := by
        show _ = _
        unfold satVal
        rw [if_neg (by have := hs rfl; omega)]
        rfl
      obtain ⟨x, hx⟩ : ∃ x, leVal (zs.drop 0) = x := ⟨_, rfl⟩
      rw [hx] at HS ⊢
      clear hs hx
      go_wp2
      go_ret
      exact ⟨by rw [HS.out]; rfl, rfl⟩
    · obtain ⟨b, off, rfl, hcc⟩ := HC.out (by omega)
      obtain ⟨j, rfl⟩ : ∃ j, k = j + 1 := ⟨k - 1, by omega⟩
      have hck := hcc j (by omega)
      obtain ⟨c, hce⟩ : ∃ c, c = zs.getD j 0 := ⟨_, rfl⟩
      have hc256 : c < 256 := by rw [hce]; exact HB.out _ (Crc.getD_mem _ _ (by omega))
      rw [← hce] at hck
      have hn := leVal_drop zs j (by omega)
      rw [← hce] at hn
      obtain ⟨x, hx⟩ : ∃ x, leVal (zs.drop (j + 1)) = x := ⟨_, rfl⟩
      have HL : Hid (2 ≤ j + 1 → x < 18014398509481984) := fun h => by rw [← hx]; exact leVal_drop_lt zs HB.out (by omega) (j + 1) h
      have HX : Hid (leVal (zs.drop (j + 1)) = x) := hx
      have HN : Hid (leVal (zs.drop j) = c + 256 * x) := by show _ = _; rw [hn, hx]
      rw [hx]
      clear hn hx hce hcc HC hs
      have ej : ((j + 1 : Nat) : Int) - 1 = (j : Int) := by omega
      rw [ej]
      by_cases hbig : 18014398509481984 ≤ x
      · have hj : j = 0 := by
          apply Classical.byContradiction
          intro hj
          have := HL.out (by omega)
          omega
        have HS : Hid (satVal zs = 4611686018427387904) := by
          show _ = _
          unfold satVal
          subst hj
          rw [if_pos (by rw [HX.out]; omega)]
        have hbi : (18014398509481984 : Int) ≤ (x : Int) := by omega
        clear hbig
        go_wp2
        go_ret
        exact ⟨by rw [HS.out]; rfl, rfl⟩
      · obtain ⟨X, hX⟩ : ∃ X : Int, (x : Int) = X := ⟨_, rfl⟩
        have hX0 : 0 ≤ X := by omega
        have hX1 : X < 18014398509481984 := by omega
        have HB2 : Hid (x < 18014398509481984) := by show _ < _; omega
        have HXI : Hid ((x : Int) = X) := hX
        rw [hX]
        clear hbig hX
        go_wp2
        go_round
        case rel => exact ⟨j, by omega, by go_num, by rw [HN.out, Int.natCast_add, Int.natCast_mul, HXI.out]; go_num, fun h => by subst h; rw [HX.out]; exact HB2.out⟩
        case measure => simp [intOf]

/-- slices.Clone of bytes that aren't nil -/
theorem clone_some (a : Addr) (len cap : Nat) (zs : List Nat) (w : World) (hsl : SlB w (some a) len zs) (hm : len ≤ 1073741824) :
    Calls Tryd.prog 40 #[.slice (some a) len cap] w fun e w' => ∃ g cp, e = .returned (.slice (some ⟨g, 0, none⟩) len cp) ∧ w.heap.size ≤ g ∧ Own w' 5 g zs ∧ w.grownBy w' none := by
  obtain ⟨i0, TB⟩ := byteT
  have HS : Hid (SlB w (some a) len zs) := hsl
  have HZ : Hid (∀ z ∈ zs, z < 256) := hsl.2.1
  have heq : ∀ w', (binOp .eql 22 (.slice (some a) len cap) (.slice none 0 0)).run Tryd.prog w' = .ok (.bool false) w' := fun w' => Lib.run_eql_slice_some_nil w' a len cap Tryd.underlying22
  clear hsl
  go_enter Tryd.func40, Tryd.ntmps40
  go_wp2_with (at_builtin; refine wpList_append_b (by rfl) (.tmp 5) (.tmp 6) TB (by rfl) (base := w.heap.size) (g := w.heap.size) (n := 0) (cap := 0) (xs := []) (by rfl) (by exact World.ownsRow_made w #[] 0 (Nat.le_refl _) (Nat.zero_le _) rfl) (oa := some a) (m := len) (c := cap) (zs := zs) (by rfl) (by exact HS.out.grown0 (World.grownBy_alloc _ _ _)) (by omega) (by simp) ?_; intro g' cap' w1 hown' hgr hat hsz1)
  go_ret
  have C1 : w.grownBy w1 none := grown_next hgr.out (World.grownBy_alloc w _ _) ⟨rfl, rfl, rfl, rfl⟩ (Nat.le_refl _)
  have h1 := hown'.out
  rw [Nat.zero_add, List.nil_append] at h1
  exact ⟨g', cap', rfl, (h1.lt g' rfl).1, own_made h1 HZ.out, C1⟩
end Go.Proofs.YtodboipfddgffaaDoor
