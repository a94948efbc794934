/-
  SegNum, SegNum2, SegNum3, HeadW, SegW, SegW2
-/
import Derived.Test.YtjnegjgpkboocaaGreatDoorRows
import Derived.Test.YtjnegjgpkboocaaGreatDoorWal1
import Derived.Laws.DeepStrings4
import Derived.Lib.Strings
import Derived.Test.YtjnegjgpkboocaaGreatDoorWal6
import Derived.Test.YtjnegjgpkboocaaGreatDoorWal8
/-
  The number in a file's name: the model's l3Number and SegmentNumber, the program's nameNumber and SegmentNumber, walked.
-/
namespace Go.Proofs.YtjnegjgpkboocaaGreatDoor
open Go.RowKit

/-- the bytes of a string, as numbers -/
def bs (s : ByteArray) : List Nat := s.data.toList.map UInt8.toNat
theorem bs_len (s : ByteArray) : (bs s).length = s.size := by simp [bs]
theorem bs_get (s : ByteArray) (k : Nat) (h : k < s.size) : (s[k]'h).toNat = (bs s).getD k 0 := by
  have h2 : k < s.data.toList.length := by simpa using h
  have e : s[k]'h = s.data.toList[k]'h2 := by
    cases s; simp [ByteArray.getElem_eq_getElem_data]
  rw [e, bs, List.getD_eq_getElem?_getD, List.getElem?_map, List.getElem?_eq_getElem h2]
  rfl
theorem bs_lt (s : ByteArray) : ∀ z ∈ bs s, z < 256 := by
  intro z hz; obtain ⟨u, _, rfl⟩ := List.mem_map.1 hz; exact u.toNat_lt
def dig (c : Nat) : Bool := decide (48 ≤ c) && decide (c ≤ 57)
/-- decimal digits as a number -/
def numOf (l : List Nat) : Nat := l.foldl (fun v c => v * 10 + (c - 48)) 0
theorem numOf_snoc (l : List Nat) (c : Nat) : numOf (l ++ [c]) = numOf l * 10 + (c - 48) := by simp [numOf]
theorem numOf_from (l : List Nat) : ∀ v, l.all dig = true → l.foldl (fun v c => v * 10 + (c - 48)) v < (v + 1) * 10 ^ l.length := by
  induction l with
  | nil => intro v _; simp
  | cons c l ih =>
    intro v h; simp only [List.all_cons, Bool.and_eq_true, dig, decide_eq_true_eq] at h; have h1 := ih (v * 10 + (c - 48)) h.2; have h2 : (v * 10 + (c - 48) + 1) * 10 ^ l.length ≤ ((v + 1) * 10) * 10 ^ l.length := Nat.mul_le_mul_right _ (by omega); simp only [List.foldl_cons, List.length_cons, Nat.pow_succ]; rw [Nat.mul_comm (10 ^ l.length) 10, ← Nat.mul_assoc]
    omega
theorem numOf_lt (l : List Nat) (h : l.all dig = true) : numOf l < 10 ^ l.length := by
  have := numOf_from l 0 h
  simpa [numOf] using this
/-- the number behind a head, if the name is so made -/
abbrev nameOk (s p : ByteArray) : Prop := s.size = p.size + 8 ∧ ((s.extract 0 p.size).toList == p.toList) = true ∧ ((bs s).drop p.size).all dig = true
def nameNum (s p : ByteArray) : Nat := numOf ((bs s).drop p.size)

def nameR (s p : ByteArray) : Int := if nameOk s p then (nameNum s p : Int) else -1
theorem nameR_ok {s p : ByteArray} (h : nameOk s p) : nameR s p = (nameNum s p : Int) := if_pos h
theorem nameR_no {s p : ByteArray} (h : ¬ nameOk s p) : nameR s p = -1 := if_neg h

theorem take_snoc (l : List Nat) (k : Nat) (h : k < l.length) : l.take (k + 1) = l.take k ++ [l.getD k 0] := by
  rw [List.take_succ_eq_append_getElem h, List.getD_eq_getElem?_getD, List.getElem?_eq_getElem h]; rfl

set_option maxHeartbeats 1000000 in
theorem l3Number_any (s p : ByteArray) (w : World) (_hs : s.size ≤ 1048576) (hp : p.size ≤ 16) :
    Calls Tryz.prog 47 #[.string s, .string p] w fun e w' => e = .returned (.int .i64 (nameR s p)) ∧ w' = w := by
  by_cases h1 : s.size = p.size + 8
  · cases h2 : ((s.extract 0 p.size).toList == p.toList)
    · have hn : ¬ nameOk s p := fun h => by have := h.2.1; rw [h2] at this; cases this
      rw [nameR_no hn]
      have ht : p.size ≤ s.size := by omega
      go_enter Tryz.func47, Tryz.ntmps47
      go_wp2; go_ret; exact ⟨rfl, rfl⟩
    · have ht : p.size ≤ s.size := by omega
      have hL : ((bs s).drop p.size).length = 8 := by simp [bs_len]; omega
      go_enter Tryz.func47, Tryz.ntmps47
      go_wp2
      go_loop [5, 6] (fun v i => ∃ k : Nat, k ≤ 8 ∧ i = .int .i64 ((p.size + k : Nat) : Int) ∧ v = .int .i64 ((numOf (((bs s).drop p.size).take k) : Nat) : Int) ∧ (((bs s).drop p.size).take k).all dig = true) (fun _ i => s.size - (intOf i).toNat)
      case atStart => exact ⟨0, Nat.zero_le _, rfl, rfl, rfl⟩
      case round =>
        obtain ⟨k, hk, rfl, rfl, hd⟩ := hrel; have hb := numOf_lt _ hd
        have hb2 : numOf (((bs s).drop p.size).take k) < 100000000 := Nat.lt_of_lt_of_le hb (by
          have : (((bs s).drop p.size).take k).length ≤ 8 := by simp; omega
          exact Nat.le_trans (Nat.pow_le_pow_right (by decide) this) (by decide))
        by_cases hlt : k < 8
        · have hi : p.size + k < s.size := by omega
          have hc := bs_get s (p.size + k) hi; have hs1 := take_snoc ((bs s).drop p.size) k (by omega)
          have hg : ((bs s).drop p.size).getD k 0 = (bs s).getD (p.size + k) 0 := by simp [List.getD_eq_getElem?_getD]
          rw [hg] at hs1; have HS : Hid (((bs s).drop p.size).take (k + 1) = _) := hs1; have HD : Hid (_ = true) := hd; obtain ⟨c, hce⟩ : ∃ c, (bs s).getD (p.size + k) 0 = c := ⟨_, rfl⟩; rw [hce] at hc HS; obtain ⟨x, hx⟩ : ∃ x, numOf (((bs s).drop p.size).take k) = x := ⟨_, rfl⟩; have HX : Hid (numOf (((bs s).drop p.size).take k) = x) := hx; rw [hx] at hb2 ⊢
          have HN : Hid (dig c = false → ¬ nameOk s p) := by
            intro hf hn; have h8 := hn.2.2
            have hm : c ∈ (bs s).drop p.size := by
              have : c ∈ ((bs s).drop p.size).take (k + 1) := by rw [HS.out]; simp
              exact List.mem_of_mem_take this
            rw [List.all_eq_true.1 h8 c hm] at hf
            cases hf
          clear hd hs1 hg hx hb
          by_cases c1 : c < 48
          · go_wp2; go_ret; exact ⟨by rw [nameR_no (HN.out (by simp [dig]; omega))]; rfl, rfl⟩
          · by_cases c2 : 57 < c
            · go_wp2; go_ret; exact ⟨by rw [nameR_no (HN.out (by simp [dig]; omega))]; rfl, rfl⟩
            · go_wp2
              go_round
              case rel =>
                refine ⟨k + 1, by omega, by go_num, ?_, ?_⟩
                · rw [HS.out, numOf_snoc, HX.out]; go_num
                · rw [HS.out, List.all_append, HD.out]; simp [dig]; omega
              case measure => simp [intOf]; omega
        · obtain rfl : k = 8 := by omega
          have e8 : ((bs s).drop p.size).take 8 = (bs s).drop p.size := List.take_of_length_le (by omega); rw [e8] at hd; have hn : nameOk s p := ⟨h1, h2, hd⟩; have HN : Hid (nameOk s p) := hn; rw [e8]; have HX : Hid (nameNum s p = numOf ((bs s).drop p.size)) := rfl; obtain ⟨x, hx⟩ : ∃ x, numOf ((bs s).drop p.size) = x := ⟨_, rfl⟩; rw [hx] at HX ⊢; clear hd hb hb2 e8 hx hn; go_wp2; go_ret; exact ⟨by rw [nameR_ok HN.out, HX.out]; rfl, rfl⟩
  · have hn : ¬ nameOk s p := fun h => h1 h.1
    rw [nameR_no hn]
    go_enter Tryz.func47, Tryz.ntmps47
    go_wp2; go_ret; exact ⟨rfl, rfl⟩
set_option maxHeartbeats 1000000 in
theorem cut_hit (s p : ByteArray) (w : World) (h1 : p.size ≤ s.size) (h2 : ((s.extract 0 p.size).toList == p.toList) = true) :
    Calls Tryz.prog 74 #[.string s, .string p] w fun e w' => e = .returned (.tuple #[.string (s.extract p.size s.size), .bool true]) ∧ w' = w := by
  go_enter Tryz.func74, Tryz.ntmps74
  go_wp2
  go_ret2
  exact ⟨rfl, rfl⟩
set_option maxHeartbeats 1000000 in
theorem cut_miss (s p : ByteArray) (w : World) (h : ¬ p.size ≤ s.size ∨ ((s.extract 0 p.size).toList == p.toList) = false) :
    Calls Tryz.prog 74 #[.string s, .string p] w fun e w' => e = .returned (.tuple #[.string s, .bool false]) ∧ w' = w := by
  by_cases h1 : p.size ≤ s.size
  · have h2 : ((s.extract 0 p.size).toList == p.toList) = false := h.resolve_left (fun hn => hn h1); clear h
    go_enter Tryz.func74, Tryz.ntmps74
    go_wp2
    go_ret2
    exact ⟨rfl, rfl⟩
  · clear h
    go_enter Tryz.func74, Tryz.ntmps74
    go_wp2
    go_ret2
    exact ⟨rfl, rfl⟩

/-- what nameNumber tells -/
def nameR0 (s p : ByteArray) : Int := if nameOk s p then (nameNum s p : Int) else 0
theorem nameR0_ok {s p : ByteArray} (h : nameOk s p) : nameR0 s p = (nameNum s p : Int) := if_pos h
theorem nameR0_no {s p : ByteArray} (h : ¬ nameOk s p) : nameR0 s p = 0 := if_neg h
def nameB (s p : ByteArray) : Bool := decide (nameOk s p)
theorem nameB_ok {s p : ByteArray} (h : nameOk s p) : nameB s p = true := decide_eq_true h
theorem nameB_no {s p : ByteArray} (h : ¬ nameOk s p) : nameB s p = false := decide_eq_false h
theorem bs_extract (s : ByteArray) (i : Nat) : bs (s.extract i s.size) = (bs s).drop i := by
  have e : (s.extract i s.size).data.toList = s.data.toList.drop i := by
    rw [ByteArray.data_extract, Array.toList_extract, List.extract_eq_drop_take']
    congr 1
    exact List.take_of_length_le (by simp)
  unfold bs
  rw [e, List.map_drop]

set_option maxHeartbeats 1000000 in
theorem nameNumber_any (s p : ByteArray) (w : World) (_hs : s.size ≤ 1048576) (_hp : p.size ≤ 16) :
    Calls Tryz.prog 58 #[.string p, .string s] w fun e w' => e = .returned (.tuple #[.int .i64 (nameR0 s p), .bool (nameB s p)]) ∧ w' = w := by
  by_cases hm : ¬ p.size ≤ s.size ∨ ((s.extract 0 p.size).toList == p.toList) = false
  · have hn : ¬ nameOk s p := by
      rintro ⟨h1, h2, -⟩
      rcases hm with hm | hm
      · omega
      · rw [hm] at h2; cases h2
    rw [nameR0_no hn, nameB_no hn]; have HM : Hid (_ ∨ _) := hm; clear hm hn
    go_enter Tryz.func58, Tryz.ntmps58
    go_wp2_with fail; refine (cut_miss s p w HM.out).mono ?_; rintro e w1 ⟨rfl, rfl⟩; go_wp2
    go_ret2
    exact ⟨rfl, rfl⟩
  · have h1 : p.size ≤ s.size := Classical.byContradiction fun h => hm (.inl h)
    have h2 : ((s.extract 0 p.size).toList == p.toList) = true := by
      cases h : ((s.extract 0 p.size).toList == p.toList) with
      | true => rfl
      | false => exact absurd (.inr h) hm
    have hz : (s.extract p.size s.size).size = s.size - p.size := by simp
    have hbx := bs_extract s p.size; obtain ⟨d, hd⟩ : ∃ d, s.extract p.size s.size = d := ⟨_, rfl⟩; have HC : Hid (Calls _ _ _ _ _) := cut_hit s p w h1 h2; rw [hd] at hz hbx HC
    by_cases h3 : s.size = p.size + 8
    · have hz8 : d.size = 8 := by omega
      have hL : (bs d).length = 8 := by rw [bs_len]; exact hz8
      have HOK : Hid ((bs d).all dig = true → nameOk s p ∧ nameNum s p = numOf (bs d)) := fun h => ⟨⟨h3, h2, by rw [← hbx]; exact h⟩, by rw [nameNum, ← hbx]⟩
      have HNO : Hid (∀ c ∈ bs d, dig c = false → ¬ nameOk s p) := by
        intro c hc hf hn; have h8 := hn.2.2; rw [← hbx] at h8; rw [List.all_eq_true.1 h8 c hc] at hf
        cases hf
      clear h2 hm hd hz hbx h3 h1
      go_enter Tryz.func58, Tryz.ntmps58
      go_wp2_with fail; refine HC.out.mono ?_; clear HC; rintro e w1 ⟨rfl, rfl⟩; go_wp2
      go_loop [8, 25] (fun v i => ∃ k : Nat, k ≤ 8 ∧ i = .int .i64 (k : Int) ∧ v = .int .i64 ((numOf ((bs d).take k) : Nat) : Int) ∧ ((bs d).take k).all dig = true) (fun _ i => 8 - (intOf i).toNat)
      case atStart => exact ⟨0, Nat.zero_le _, rfl, rfl, rfl⟩
      case round =>
        obtain ⟨k, hk, rfl, rfl, hd⟩ := hrel; have hb := numOf_lt _ hd
        have hb2 : numOf ((bs d).take k) < 100000000 := Nat.lt_of_lt_of_le hb (by
          have : ((bs d).take k).length ≤ 8 := by simp; omega
          exact Nat.le_trans (Nat.pow_le_pow_right (by decide) this) (by decide))
        by_cases hlt : k < 8
        · have hi : k < d.size := by omega
          have hc := bs_get d k hi; have hs1 := take_snoc (bs d) k (by omega); have HS : Hid ((bs d).take (k + 1) = _) := hs1; have HD : Hid (_ = true) := hd; obtain ⟨c, hce⟩ : ∃ c, (bs d).getD k 0 = c := ⟨_, rfl⟩; rw [hce] at hc HS; obtain ⟨x, hx⟩ : ∃ x, numOf ((bs d).take k) = x := ⟨_, rfl⟩; have HX : Hid (numOf ((bs d).take k) = x) := hx; rw [hx] at hb2 ⊢
          have HN : Hid (dig c = false → ¬ nameOk s p) := HNO.out c (by
            have : c ∈ (bs d).take (k + 1) := by rw [HS.out]; simp
            exact List.mem_of_mem_take this)
          clear hd hs1 hx hb
          by_cases c1 : c < 48
          · go_wp2
            go_ret2
            exact ⟨by rw [nameR0_no (HN.out (by simp [dig]; omega)), nameB_no (HN.out (by simp [dig]; omega))]; rfl, rfl⟩
          · by_cases c2 : 57 < c
            · go_wp2
              go_ret2
              exact ⟨by rw [nameR0_no (HN.out (by simp [dig]; omega)), nameB_no (HN.out (by simp [dig]; omega))]; rfl, rfl⟩
            · go_wp2
              go_round
              case rel =>
                refine ⟨k + 1, by omega, by go_num, ?_, ?_⟩
                · rw [HS.out, numOf_snoc, HX.out]; go_num
                · rw [HS.out, List.all_append, HD.out]; simp [dig]; omega
              case measure => simp [intOf]; omega
        · obtain rfl : k = 8 := by omega
          have e8 : (bs d).take 8 = bs d := List.take_of_length_le (by omega); rw [e8] at hd; have HN : Hid (nameOk s p ∧ nameNum s p = numOf (bs d)) := HOK.out hd; rw [e8]; obtain ⟨x, hx⟩ : ∃ x, numOf (bs d) = x := ⟨_, rfl⟩; rw [hx] at HN ⊢; clear hd hb hb2 e8 hx; go_wp2
          go_ret2
          exact ⟨by rw [nameR0_ok HN.out.1, nameB_ok HN.out.1, HN.out.2]; rfl, rfl⟩
    · have hn : ¬ nameOk s p := fun h => h3 h.1
      rw [nameR0_no hn, nameB_no hn]
      have hz8 : d.size ≠ 8 := by omega
      clear h2 hm hd hbx hn
      go_enter Tryz.func58, Tryz.ntmps58
      go_wp2_with fail; refine HC.out.mono ?_; clear HC; rintro e w1 ⟨rfl, rfl⟩; go_wp2
      go_ret2
      exact ⟨rfl, rfl⟩
def walB : ByteArray := ⟨#[119, 97, 108]⟩
set_option maxHeartbeats 400000 in
theorem specSeg_any (s : ByteArray) (w : World) (hs : s.size ≤ 1048576) :
    Calls Tryz.prog 31 #[.string s] w fun e w' => e = .returned (.int .i64 (nameR0 s walB)) ∧ w' = w := by
  by_cases hn : nameOk s walB
  · have HC : Hid (Calls _ _ _ _ _) := l3Number_any s walB w hs (by decide); rw [nameR_ok hn] at HC; rw [nameR0_ok hn]; obtain ⟨x, hx⟩ : ∃ x, nameNum s walB = x := ⟨_, rfl⟩; rw [hx] at HC ⊢; clear hn hx
    go_enter Tryz.func31, Tryz.ntmps31
    go_wp2_with fail; refine HC.out.mono ?_; clear HC; rintro e w1 ⟨rfl, rfl⟩; go_wp2; go_ret; exact ⟨rfl, rfl⟩
  · have HC : Hid (Calls _ _ _ _ _) := l3Number_any s walB w hs (by decide); rw [nameR_no hn] at HC; rw [nameR0_no hn]; clear hn
    go_enter Tryz.func31, Tryz.ntmps31
    go_wp2_with fail; refine HC.out.mono ?_; clear HC; rintro e w1 ⟨rfl, rfl⟩; go_wp2; go_ret; exact ⟨rfl, rfl⟩
set_option maxHeartbeats 400000 in
theorem implSeg_any (s : ByteArray) (w : World) (hs : s.size ≤ 1048576) :
    Calls Tryz.prog 39 #[.string s] w fun e w' => e = .returned (.int .i64 (nameR0 s walB)) ∧ w' = w := by
  have HC : Hid (Calls _ _ _ _ _) := nameNumber_any s walB w hs (by decide)
  go_enter Tryz.func39, Tryz.ntmps39
  go_wp2_with fail; refine HC.out.mono ?_; clear HC; rintro e w1 ⟨rfl, rfl⟩; go_wp2; go_ret; exact ⟨rfl, rfl⟩
attribute [local go_sem] Oper.semAt_some

theorem putObj_grown {w0 w : World} {r : Nat} {o : Obj} (h : w0.grownBy w none) (hr : w0.heap.size ≤ r) : w0.grownBy (w.putObj r o) none :=
  ⟨h.os, h.tape, h.output, by simpa using h.size, fun k hk hne => (World.putObj_heap_other (by omega)).trans (h.block k hk hne)⟩
/-- the first record is a right head of this number -/
def HeadP (num : Nat) (recs : List (Nat × List Nat)) : Prop := ∃ ty d rest, recs = (ty, d) :: rest ∧ WOk (wb 1) (wroom 1) d ∧ ty = 1 ∧ wn 1 d 0 = num
set_option maxRecDepth 100000 in
set_option maxHeartbeats 4000000 in
theorem hasHead_any (S R B : Nat) (tl' : List Value) (L : Lg) (nm : ByteArray) (num b len cap : Nat) (zs : List Nat) (w : World) (h : LogIn w R B (formCs S ++ tl') L) (hF : Forms w S) (hn : nameR0 nm walB = (num : Int)) (hnm : nm.size ≤ 1048576)
    (hsl : SlB w (some ⟨b, 0, none⟩) len zs) (ht : Tab w) (hlc : len ≤ cap) (hm : cap ≤ maxLen) (hm2 : len ≤ 1048576) (hbl : b < w.heap.size) :
    Calls Tryz.prog 40 #[.pointer (some ⟨R, 0, none⟩), .agg #[.string nm, .slice (some ⟨b, 0, none⟩) len cap]] w fun e w' => ∃ bo, e = .returned (.bool bo) ∧ (bo = true ↔ HeadP num (scan zs).1) ∧ w.grownBy w' none := by
  have HH : Hid (SlB w (some ⟨b, 0, none⟩) len zs ∧ Tab w ∧ LogIn w R B (formCs S ++ tl') L ∧ Forms w S ∧ nameR0 nm walB = (num : Int)) := ⟨hsl, ht, h, hF, hn⟩; clear hsl ht h hF hn; refine (callsIn_wide (n := 0)).1 (callsIn_of_wp_marks Tryz.func40 rfl trivial ?_ rfl); refine wpIn_wide.2 ?_; simp only [Tryz.ntmps40, List.size_toArray, List.length_cons, List.length_nil, Nat.reduceAdd, Nat.reduceSub, Array.replicate_succ, Array.replicate_zero, List.push_toArray, List.append_toArray, List.nil_append, List.cons_append]; go_wp2
  have hsz : ((((w.alloc (.cells #[.pointer (some ⟨R, 0, none⟩)] 118)).alloc (.cells #[.string nm, .slice (some ⟨b, 0, none⟩) len cap] 48)).alloc (.cells #[.bool false] 4)).alloc (.cells #[.slice (some ⟨b, 0, none⟩) len cap, .int .i64 0, .int .i64 0] 120)).heap.size = w.heap.size + 4 := by simp
  have hG0 : w.grownBy ((((w.alloc (.cells #[.pointer (some ⟨R, 0, none⟩)] 118)).alloc (.cells #[.string nm, .slice (some ⟨b, 0, none⟩) len cap] 48)).alloc (.cells #[.bool false] 4)).alloc (.cells #[.slice (some ⟨b, 0, none⟩) len cap, .int .i64 0, .int .i64 0] 120)) none := grownBy_alloc (grownBy_alloc (grownBy_alloc (World.grownBy_alloc w _ _) _) _) _; have hP0 : ((((w.alloc (.cells #[.pointer (some ⟨R, 0, none⟩)] 118)).alloc (.cells #[.string nm, .slice (some ⟨b, 0, none⟩) len cap] 48)).alloc (.cells #[.bool false] 4)).alloc (.cells #[.slice (some ⟨b, 0, none⟩) len cap, .int .i64 0, .int .i64 0] 120)).heap[w.heap.size]? = some (.cells #[.pointer (some ⟨R, 0, none⟩)] 118 (0, 0)) := grown_blk (grownBy_alloc (grownBy_alloc (World.grownBy_alloc _ _ _) _) _) (heap_alloc_new w _); have hF0 : ((((w.alloc (.cells #[.pointer (some ⟨R, 0, none⟩)] 118)).alloc (.cells #[.string nm, .slice (some ⟨b, 0, none⟩) len cap] 48)).alloc (.cells #[.bool false] 4)).alloc (.cells #[.slice (some ⟨b, 0, none⟩) len cap, .int .i64 0, .int .i64 0] 120)).heap[w.heap.size + 1]? = some (.cells #[.string nm, .slice (some ⟨b, 0, none⟩) len cap] 48 (0, 0)) := grown_blk (grownBy_alloc (World.grownBy_alloc _ _ _) _) (heap_two w _ _)
  have hR0 : ((((w.alloc (.cells #[.pointer (some ⟨R, 0, none⟩)] 118)).alloc (.cells #[.string nm, .slice (some ⟨b, 0, none⟩) len cap] 48)).alloc (.cells #[.bool false] 4)).alloc (.cells #[.slice (some ⟨b, 0, none⟩) len cap, .int .i64 0, .int .i64 0] 120)).heap[w.heap.size + 2]? = some (.cells #[.bool false] 4 (0, 0)) := by
    have h9 := grown_blk (World.grownBy_alloc _ (.cells #[.slice (some ⟨b, 0, none⟩) len cap, .int .i64 0, .int .i64 0] 120) none) (heap_alloc_new ((w.alloc (.cells #[.pointer (some ⟨R, 0, none⟩)] 118)).alloc (.cells #[.string nm, .slice (some ⟨b, 0, none⟩) len cap] 48)) (.cells #[.bool false] 4 (0, 0)))
    simpa using h9
  have hS0 : ScanAt ((((w.alloc (.cells #[.pointer (some ⟨R, 0, none⟩)] 118)).alloc (.cells #[.string nm, .slice (some ⟨b, 0, none⟩) len cap] 48)).alloc (.cells #[.bool false] 4)).alloc (.cells #[.slice (some ⟨b, 0, none⟩) len cap, .int .i64 0, .int .i64 0] 120)) (w.heap.size + 3) (some ⟨b, 0, none⟩) len cap 0 0 := by
    have h9 := heap_alloc_new (((w.alloc (.cells #[.pointer (some ⟨R, 0, none⟩)] 118)).alloc (.cells #[.string nm, .slice (some ⟨b, 0, none⟩) len cap] 48)).alloc (.cells #[.bool false] 4)) (.cells #[.slice (some ⟨b, 0, none⟩) len cap, .int .i64 0, .int .i64 0] 120 (0, 0))
    unfold ScanAt
    simpa using h9
  generalize (((w.alloc (.cells #[.pointer (some ⟨R, 0, none⟩)] 118)).alloc (.cells #[.string nm, .slice (some ⟨b, 0, none⟩) len cap] 48)).alloc (.cells #[.bool false] 4)).alloc (.cells #[.slice (some ⟨b, 0, none⟩) len cap, .int .i64 0, .int .i64 0] 120) = W0 at hsz hG0 hP0 hF0 hR0 hS0 ⊢
  refine wp_range_bound rfl (enters_of Tryz.func59 (by kernel_rfl) rfl) fun fn => ?_
  generalize hL : loopRec fn _ _ _ _ W0.heap.size LoopState.ready = L0
  have hW1s : ((W0.alloc (.deferred (some []))).alloc (.loop L0)).heap.size = w.heap.size + 6 := by simp [hsz]
  have hG1 : W0.grownBy ((W0.alloc (.deferred (some []))).alloc (.loop L0)) none := grownBy_alloc (World.grownBy_alloc W0 _ _) _; have hl1 : ((W0.alloc (.deferred (some []))).alloc (.loop L0)).heap[W0.heap.size + 1]? = some (.loop L0) := heap_two W0 _ _; have hD1 : ((W0.alloc (.deferred (some []))).alloc (.loop L0)).heap[W0.heap.size]? = some (.deferred (some [])) := (Below.heap_alloc _ _ _ (by simp)).trans (heap_alloc_new W0 _); generalize (W0.alloc (.deferred (some []))).alloc (.loop L0) = W1 at hW1s hG1 hl1 hD1 ⊢; have hG01 : w.grownBy W1 none := grownBy_trans hG0 hG1; rw [hsz] at hl1 hD1 hL ⊢
  refine (records_wide (w.heap.size + 4 + 1) (w.heap.size + 3) b 0 len cap zs
    (fun pre W => pre = [] ∧ W.heap[w.heap.size + 4 + 1]? = some (.loop L0) ∧ W.heap[w.heap.size + 4]? = some (.deferred (some [])) ∧ W.heap[w.heap.size]? = some (.cells #[.pointer (some ⟨R, 0, none⟩)] 118 (0, 0)) ∧ W.heap[w.heap.size + 1]? = some (.cells #[.string nm, .slice (some ⟨b, 0, none⟩) len cap] 48 (0, 0)) ∧ W.heap[w.heap.size + 2]? = some (.cells #[.bool false] 4 (0, 0)) ∧ w.grownBy W none ∧ w.heap.size + 6 ≤ W.heap.size)
    (fun W => ∃ Ld : Loop, ∃ bo : Bool, (Ld.pending = some .ret ∧ Ld.state = .done) ∧ W.heap[w.heap.size + 4 + 1]? = some (.loop Ld) ∧ W.heap[w.heap.size + 4]? = some (.deferred (some [])) ∧ W.heap[w.heap.size + 2]? = some (.cells #[.bool bo] 4 (0, 0)) ∧ w.grownBy W none ∧ (bo = true ↔ HeadP num (scan zs).1)) hlc hm hm2 (by omega) ?_ ?_ ?_ W1 0
    ((hG1.block (w.heap.size + 3) (by omega) (by simp)).trans hS0) (HH.out.1.grown0 hG01) (Tab_grown HH.out.2.1 hG01)
    ⟨rfl, hl1, hD1, grown_blk hG1 hP0, grown_blk hG1 hF0, grown_blk hG1 hR0, hG01, by omega⟩).mono ?_
  · have := cell_block_lt (HH.out.2.1 0 (by decide)); simp only at this
    omega
  · rintro pre W W' ⟨h0, h1, h2, h3, h4, h5, h6, h7⟩ hg
    have hb : ∀ k, k < w.heap.size + 6 → k ≠ w.heap.size + 3 → W'.heap[k]? = W.heap[k]? := fun k hk hne => hg.block k (by omega) (by simp; omega)
    exact ⟨h0, (hb _ (by omega) (by omega)).trans h1, (hb _ (by omega) (by omega)).trans h2, (hb _ (by omega) (by omega)).trans h3, (hb _ (by omega) (by omega)).trans h4, (hb _ (by omega) (by omega)).trans h5, grownBy_new h6 hg (by omega), Nat.le_trans h7 hg.size⟩
  · rintro pre ty data g cp W2 W hpre hty hty2 hd8 hdc hdm hdz ⟨rfl, h1, h2, h3, h4, h5, h6, h7⟩ hg hgs hOwn hslW hTW _
    have hb : ∀ k, k < w.heap.size + 6 → k ≠ w.heap.size + 3 → W.heap[k]? = W2.heap[k]? := fun k hk hne => hg.block k (by omega) (by simp; omega)
    have hl2 := (hb _ (by omega) (by omega)).trans h1; have hGW : w.grownBy W none := grownBy_new h6 hg (by omega); have hz2 : w.heap.size + 6 ≤ W.heap.size := Nat.le_trans h7 hg.size; have HB : Hid (_ ∧ _ ∧ _ ∧ _ ∧ _ ∧ _) := And.intro ((hb _ (by omega) (by omega)).trans h2) (And.intro ((hb _ (by omega) (by omega)).trans h3) (And.intro ((hb _ (by omega) (by omega)).trans h4) (And.intro ((hb _ (by omega) (by omega)).trans h5) (And.intro hGW hOwn))))
    have HGNE : Hid (g ≠ w.heap.size + 4 + 1) := by show _ ≠ _; omega
    have HPR : Hid (∃ rest, (scan zs).1 = (ty, data) :: rest) := by
      obtain ⟨t, ht⟩ := hpre; exact ⟨t, by rw [← ht]; rfl⟩
    clear h1 h2 h3 h4 h5 h6 h7 hg hb hpre hslW hTW hGW hOwn hdz hD1 hl1 hW1s hG1 hsz hG0 hP0 hF0 hR0 hS0 hG01 hgs
    suffices HRR : ∀ RR : Ending → World → Prop, (∀ W' : World, (∃ Lq : Loop, ∃ bo : Bool, (Lq.pending = some .ret ∧ Lq.state = .done) ∧ W'.heap[w.heap.size + 4 + 1]? = some (.loop Lq) ∧ W'.heap[w.heap.size + 4]? = some (.deferred (some [])) ∧ W'.heap[w.heap.size + 2]? = some (.cells #[.bool bo] 4 (0, 0)) ∧ w.grownBy W' none ∧ (bo = true ↔ HeadP num (scan zs).1)) → RR (.returned (.bool false)) W') → YieldAt Fence.wide 0 Tryz.prog (w.heap.size + 4 + 1) #[.agg #[.int .i64 (ty : Int), .slice (some ⟨g, 0, none⟩) data.length cp]] W RR from HRR _ (fun W' h => ⟨false, rfl, .inr ⟨rfl, h⟩⟩)
    intro RR hRR; have HRR : Hid (∀ W' : World, (∃ Lq : Loop, ∃ bo : Bool, (Lq.pending = some .ret ∧ Lq.state = .done) ∧ W'.heap[w.heap.size + 4 + 1]? = some (.loop Lq) ∧ W'.heap[w.heap.size + 4]? = some (.deferred (some [])) ∧ W'.heap[w.heap.size + 2]? = some (.cells #[.bool bo] 4 (0, 0)) ∧ w.grownBy W' none ∧ (bo = true ↔ HeadP num (scan zs).1)) → RR (.returned (.bool false)) W') := hRR; clear hRR
    refine yield_roundW hL hl2 rfl fun Lb Ld hLd1 hLd2 => ?_
    gi_wp2
    refine ⟨(Below.heap_alloc _ _ _ (by omega)).trans hl2, ?_⟩; obtain ⟨n, hn⟩ : ∃ n, data.length = n := ⟨_, rfl⟩; have HN : Hid (data.length = n) := hn; rw [hn] at hd8 hdc ⊢; clear hn
    have hBk : ((W.alloc (.cells #[.int .i64 (ty : Int), .slice (some ⟨g, 0, none⟩) n cp] 85)).putObj (w.heap.size + 4 + 1) (.loop Lb)).heap[W.heap.size]? = some (.cells #[.int .i64 (ty : Int), .slice (some ⟨g, 0, none⟩) n cp] 85 (0, 0)) :=
      (World.putObj_heap_other (by omega)).trans (heap_alloc_new W _)
    have hold : ∀ k, k < W.heap.size → k ≠ w.heap.size + 4 + 1 → ((W.alloc (.cells #[.int .i64 (ty : Int), .slice (some ⟨g, 0, none⟩) n cp] 85)).putObj (w.heap.size + 4 + 1) (.loop Lb)).heap[k]? = W.heap[k]? :=
      fun k hk hne => (World.putObj_heap_other hne).trans (Below.heap_alloc _ _ _ hk)
    have hlb : ((W.alloc (.cells #[.int .i64 (ty : Int), .slice (some ⟨g, 0, none⟩) n cp] 85)).putObj (w.heap.size + 4 + 1) (.loop Lb)).heap[w.heap.size + 4 + 1]? = some (.loop Lb) := World.putObj_heap_same (by simp; omega)
    have hs3 : ((W.alloc (.cells #[.int .i64 (ty : Int), .slice (some ⟨g, 0, none⟩) n cp] 85)).putObj (w.heap.size + 4 + 1) (.loop Lb)).heap.size = W.heap.size + 1 := by simp
    have hg3 : w.grownBy ((W.alloc (.cells #[.int .i64 (ty : Int), .slice (some ⟨g, 0, none⟩) n cp] 85)).putObj (w.heap.size + 4 + 1) (.loop Lb)) none := putObj_grown (grownBy_alloc HB.out.2.2.2.2.1 _) (by omega); generalize (W.alloc (.cells #[.int .i64 (ty : Int), .slice (some ⟨g, 0, none⟩) n cp] 85)).putObj (w.heap.size + 4 + 1) (.loop Lb) = W3 at hBk hold hlb hs3 hg3 ⊢; have hgl := HB.out.2.2.2.2.2.lt
    have H3 : Hid (W3.heap[W.heap.size]? = some (.cells #[.int .i64 (ty : Int), .slice (some ⟨g, 0, none⟩) n cp] 85 (0, 0)) ∧ W3.heap[w.heap.size + 4 + 1]? = some (.loop Lb) ∧ w.grownBy W3 none ∧ W3.heap[w.heap.size]? = some (.cells #[.pointer (some ⟨R, 0, none⟩)] 118 (0, 0)) ∧ W3.heap[w.heap.size + 1]? = some (.cells #[.string nm, .slice (some ⟨b, 0, none⟩) len cap] 48 (0, 0)) ∧ W3.heap[w.heap.size + 2]? = some (.cells #[.bool false] 4 (0, 0)) ∧ W3.heap[w.heap.size + 4]? = some (.deferred (some [])) ∧ LogIn W3 R B (formCs S ++ tl') L ∧ Forms W3 S ∧ SlB W3 (some ⟨g, 0, none⟩) n data) :=
      ⟨hBk, hlb, hg3, (hold _ (by omega) (by omega)).trans HB.out.2.1, (hold _ (by omega) (by omega)).trans HB.out.2.2.1, (hold _ (by omega) (by omega)).trans HB.out.2.2.2.1, (hold _ (by omega) (by omega)).trans HB.out.1, HH.out.2.2.1.grown0 hg3, HH.out.2.2.2.1.grown0 hg3, (HB.out.2.2.2.2.2.of_block (hold _ hgl HGNE.out)).sl n HN.out⟩
    obtain ⟨gS, hgS⟩ : ∃ x, S + (1 - 1) = x := ⟨_, rfl⟩; obtain ⟨q0, q1, q2⟩ := H3.out.2.2.2.2.2.2.2.1.formAt (ty := 1) (by omega) (by omega); rw [hgS] at q0
    have HTK : Hid (∀ w' : World, W3.grownBy w' none → Calls Tryz.prog 60 #[.agg #[.slice (some ⟨gS, 0, none⟩) 3 3, .int .i64 0, .func (.func 53) #[] #[]], .slice (some ⟨g, 0, none⟩) n cp] w' fun e w'' => ∃ (bo : Bool) (y0 y1 y2 : Nat) (dv : Value), e = .returned (.tuple #[.agg #[.int .i64 (y0 : Int), .int .i64 (y1 : Int), .int .i64 (y2 : Int)], dv, .bool bo]) ∧ w'.grownBy w'' none ∧ (bo = true ↔ WOk (wb 1) (wroom 1) data) ∧ (bo = true → y0 = wn 1 data 0)) := fun w' hg9 => by
      rw [← hgS]; refine (take_any (S + (1 - 1)) (wb 1) (wroom 1) (wfn 1) g 0 n cp data w' (grown_blk hg9 (H3.out.2.2.2.2.2.2.2.2.1 1 (by omega) (by omega))) (by decide) (by decide) (by decide) (by decide) (H3.out.2.2.2.2.2.2.2.2.2.grown0 hg9) hdc hdm (by omega)).mono ?_; rintro e w'' ⟨hgr, ⟨hok, rfl⟩ | ⟨hno, rfl⟩⟩
      · exact ⟨true, _, _, _, _, rfl, hgr, by simp [hok], fun _ => rfl⟩
      · exact ⟨false, 0, 0, 0, _, rfl, hgr, by simp [hno], fun hc => by cases hc⟩
    have HQ : Hid (W3.cell? ⟨R, 7, none⟩ = some (.slice (some ⟨gS, 0, none⟩) 3 3) ∧ W3.cell? ⟨R, 8, none⟩ = some (.int .i64 0) ∧ W3.cell? ⟨R, 9, none⟩ = some (.func (.func 53) #[] #[])) := ⟨q0, q1, q2⟩; have hRl : R < w.heap.size := HH.out.2.2.1.cells.2.2.2.2.2; clear q0 q1 q2 hgS hBk hold hlb hg3 hl2
    gi_wp2
    obtain ⟨Wz, hWz⟩ : ∃ x, W.heap.size = x := ⟨_, rfl⟩; rw [hWz] at H3 hs3 ⊢
    have hz3 : w.heap.size + 6 ≤ Wz := by omega
    have HS3 : Hid (W3.heap.size = Wz + 1) := hs3
    have hz4 : w.heap.size + 6 < W3.heap.size := by omega
    have hsw3 := H3.out.2.2.1.size; clear hs3 hWz hz2
    have HSEG : Hid (∀ w' : World, Calls Tryz.prog 39 #[.string nm] w' fun e w'' => e = .returned (.int .i64 (num : Int)) ∧ w'' = w') := fun w' => by have h9 := implSeg_any nm w' hnm; rw [HH.out.2.2.2.2] at h9; exact h9
    refine wpIn_region_Z (fun V => V.heap[w.heap.size]? = some (.cells #[.pointer (some ⟨R, 0, none⟩)] 118 (0, 0)) ∧ V.heap[Wz]? = some (.cells #[.int .i64 (ty : Int), .slice (some ⟨g, 0, none⟩) n cp] 85 (0, 0)) ∧ V.heap[R]? = W3.heap[R]?) (fun _ => false) (by kernel_rfl) (by kernel_rfl) (by rintro ⟨_, _, hq⟩; rcases hq with ⟨hq, _⟩ | ⟨hq, _⟩ <;> cases hq) ?_; have hS : W3.drew.heap[w.heap.size]? = some (.cells #[.pointer (some ⟨R, 0, none⟩)] 118 (0, 0)) ∧ W3.drew.heap[Wz]? = some (.cells #[.int .i64 (ty : Int), .slice (some ⟨g, 0, none⟩) n cp] 85 (0, 0)) ∧ W3.drew.heap[R]? = W3.heap[R]? := ⟨H3.out.2.2.2.1, H3.out.1, rfl⟩; refine wpAnyZ_loadS (i := 0) (v := ?vz1) rfl (by kernel_rfl) (by kernel_rfl) (by kernel_rfl) (fun _ _ _ h => h) (fun _ => rfl) (Or.inl ⟨by rfl, ?yz1⟩) hS ?rz1
    case yz1 => (intro W hW; have c0 : W.cell? ⟨w.heap.size, 0, none⟩ = some (.pointer (some ⟨R, 0, none⟩)) := (cell_of_row W _ _ _ _ _ hW.1).trans rfl; go_simp; first | done | with_reducible rfl)
    simp only [Act.put, List.setIfInBounds_toArray, List.set_cons_zero, List.set_cons_succ]; refine wpAnyZ_take' (i := 1) (v := ?vz2) rfl (by kernel_rfl) (by kernel_rfl) (by kernel_rfl) (fun _ _ _ h => h) (Or.inl ⟨by rfl, ?yz2⟩) ?rz2
    case yz2 => (intro w _; go_simp; first | done | with_reducible rfl)
    simp only [Act.put, List.setIfInBounds_toArray, List.set_cons_zero, List.set_cons_succ]; refine wpAnyZ_take' (i := 2) (v := ?vz3) rfl (by kernel_rfl) (by kernel_rfl) (by kernel_rfl) (fun _ _ _ h => h) (Or.inl ⟨by rfl, ?yz3⟩) ?rz3
    case yz3 => (intro w _; go_simp; first | done | with_reducible rfl)
    simp only [Act.put, List.setIfInBounds_toArray, List.set_cons_zero, List.set_cons_succ]; refine wpAnyZ_take' (i := 3) (v := ?vz4) rfl (by kernel_rfl) (by kernel_rfl) (by kernel_rfl) (fun _ _ _ h => h) (Or.inl ⟨by rfl, ?yz4⟩) ?rz4
    case yz4 => (intro w _; go_simp; first | done | with_reducible rfl)
    simp only [Act.put, List.setIfInBounds_toArray, List.set_cons_zero, List.set_cons_succ]; refine wpAnyZ_loadS (i := 4) (v := ?vz5) rfl (by kernel_rfl) (by kernel_rfl) (by kernel_rfl) (fun _ _ _ h => h) (fun _ => rfl) (Or.inl ⟨by rfl, ?yz5⟩) hS ?rz5
    case yz5 => (intro W hW; have c0 : W.cell? ⟨R, 7, none⟩ = _ := (World.cell?_of_block (w := W3) (a := ⟨R, 7, none⟩) hW.2.2).trans HQ.out.1; have c1 : W.cell? ⟨R, 8, none⟩ = _ := (World.cell?_of_block (w := W3) (a := ⟨R, 8, none⟩) hW.2.2).trans HQ.out.2.1; have c2 : W.cell? ⟨R, 9, none⟩ = _ := (World.cell?_of_block (w := W3) (a := ⟨R, 9, none⟩) hW.2.2).trans HQ.out.2.2; go_simp; first | done | with_reducible rfl)
    simp only [Act.put, List.setIfInBounds_toArray, List.set_cons_zero, List.set_cons_succ]; refine wpAnyZ_take' (i := 5) (v := ?vz6) rfl (by kernel_rfl) (by kernel_rfl) (by kernel_rfl) (fun _ _ _ h => h) (Or.inl ⟨by rfl, ?yz6⟩) ?rz6
    case yz6 => (intro w _; go_simp; first | done | with_reducible rfl)
    simp only [Act.put, List.setIfInBounds_toArray, List.set_cons_zero, List.set_cons_succ]; refine wpAnyZ_loadS (i := 6) (v := ?vz7) rfl (by kernel_rfl) (by kernel_rfl) (by kernel_rfl) (fun _ _ _ h => h) (fun _ => rfl) (Or.inl ⟨by rfl, ?yz7⟩) hS ?rz7
    case yz7 => (intro W hW; have c0 : W.cell? ⟨Wz, 1, none⟩ = some (.slice (some ⟨g, 0, none⟩) n cp) := (cell_of_row W _ _ _ _ _ hW.2.1).trans rfl; go_simp; first | done | with_reducible rfl)
    simp only [Act.put, List.setIfInBounds_toArray, List.set_cons_zero, List.set_cons_succ]; refine wpAnyZ_two' (i := 7) (k := 12) (by kernel_rfl) rfl rfl (fun K hK => ?_) (fun K hK => ?_)
    · go_simp; go_at_call 60; refine (HTK.out (W3.drew) (grownBy_drew (grownBy_refl W3 none))).mono ?_; rintro e w1 ⟨bo, y0, y1, y2, dv, rfl, hgr, hbo, hy0⟩; have HBO : Hid ((bo = true ↔ WOk (wb 1) (wroom 1) data) ∧ (bo = true → y0 = wn 1 data 0)) := ⟨hbo, hy0⟩; have hg1 : W3.grownBy w1 none := grownBy_trans (grownBy_drew (grownBy_refl W3 none)) hgr; have HG1 : Hid (W3.grownBy w1 none) := hg1; have hsz1 := hg1.size; have HS1 : Hid (w1.heap[w.heap.size]? = some (.cells #[.pointer (some ⟨R, 0, none⟩)] 118 (0, 0)) ∧ w1.heap[Wz]? = some (.cells #[.int .i64 (ty : Int), .slice (some ⟨g, 0, none⟩) n cp] 85 (0, 0)) ∧ w1.heap[R]? = W3.heap[R]?) := ⟨grown_blk hg1 H3.out.2.2.2.1, grown_blk hg1 H3.out.1, hg1.block R (by omega) (by simp)⟩; clear hbo hy0 hgr hg1; refine hK.out _ _ (fun _ _ => HS1.out) ?_; clear hK K; (try simp only [Act.put, List.setIfInBounds_toArray, List.set_cons_zero, List.set_cons_succ]); refine wpAnyZ_take' (i := 8) (v := ?vz8) rfl (by kernel_rfl) (by kernel_rfl) (by kernel_rfl) (fun _ _ _ h => h) (Or.inl ⟨by rfl, ?yz8⟩) ?rz8
      case yz8 => (intro w _; go_simp; first | done | with_reducible rfl)
      simp only [Act.put, List.setIfInBounds_toArray, List.set_cons_zero, List.set_cons_succ]; refine wpAnyZ_take' (i := 9) (v := ?vz9) rfl (by kernel_rfl) (by kernel_rfl) (by kernel_rfl) (fun _ _ _ h => h) (Or.inl ⟨by rfl, ?yz9⟩) ?rz9
      case yz9 => (intro w _; go_simp; first | done | with_reducible rfl)
      simp only [Act.put, List.setIfInBounds_toArray, List.set_cons_zero, List.set_cons_succ]; refine wpAnyZ_take' (i := 10) (v := ?vz10) rfl (by kernel_rfl) (by kernel_rfl) (by kernel_rfl) (fun _ _ _ h => h) (Or.inl ⟨by rfl, ?yz10⟩) ?rz10
      case yz10 => (intro w _; go_simp; first | done | with_reducible rfl)
      simp only [Act.put, List.setIfInBounds_toArray, List.set_cons_zero, List.set_cons_succ]; refine wpAnyZ_take' (i := 11) (v := ?vz11) rfl (by kernel_rfl) (by kernel_rfl) (by kernel_rfl) (fun _ _ _ h => h) (Or.inl ⟨by rfl, ?yz11⟩) ?rz11
      case yz11 => (intro w _; go_simp; first | done | with_reducible rfl)
      simp only [Act.put, List.setIfInBounds_toArray, List.set_cons_zero, List.set_cons_succ]; refine wpAnyZ_one' (i := 12) (by kernel_rfl) rfl (fun K hK => ?_); go_simp; refine hK.out _ _ (fun _ _ => ⟨grown_blk (World.grownBy_alloc _ _ _) HS1.out.1, grown_blk (World.grownBy_alloc _ _ _) HS1.out.2.1, ((World.grownBy_alloc w1 _ none).block R (by omega) (by simp)).trans HS1.out.2.2⟩) ?_; clear hK K; (try simp only [Act.put, List.setIfInBounds_toArray, List.set_cons_zero, List.set_cons_succ]); refine wpAnyZ_one' (i := 13) (by kernel_rfl) rfl (fun K hK => ?_); go_simp; refine hK.out _ _ (fun _ _ => ⟨grown_blk (World.grownBy_alloc _ _ _) HS1.out.1, grown_blk (World.grownBy_alloc _ _ _) HS1.out.2.1, ((World.grownBy_alloc w1 _ none).block R (by omega) (by simp)).trans HS1.out.2.2⟩) ?_; clear hK K; (try simp only [Act.put, List.setIfInBounds_toArray, List.set_cons_zero, List.set_cons_succ]); refine wpAnyZ_one' (i := 14) (by kernel_rfl) rfl (fun K hK => ?_); go_simp; refine hK.out _ _ (fun _ h => h) ?_; clear hK K; (try simp only [Act.put, List.setIfInBounds_toArray, List.set_cons_zero, List.set_cons_succ]); refine wpAnyZ_one' (i := 15) (by kernel_rfl) rfl (fun K hK => ?_); go_simp; refine hK.out _ _ (fun _ h => h) ?_; clear hK K; (try simp only [Act.put, List.setIfInBounds_toArray, List.set_cons_zero, List.set_cons_succ]); refine wpAnyZ_done (by kernel_rfl) ?_ _
      gi_wp2
      have hbF : (w1.alloc (.cells #[.int .i64 (y0 : Int), .int .i64 (y1 : Int), .int .i64 (y2 : Int)] 123)).heap[w1.heap.size]? = some (.cells #[.int .i64 (y0 : Int), .int .i64 (y1 : Int), .int .i64 (y2 : Int)] 123 (0, 0)) := heap_alloc_new w1 _; have hgF : W3.grownBy (w1.alloc (.cells #[.int .i64 (y0 : Int), .int .i64 (y1 : Int), .int .i64 (y2 : Int)] 123)) none := grownBy_alloc HG1.out _; have hfne : W3.heap.size ≤ w1.heap.size := hsz1; generalize w1.alloc (.cells #[.int .i64 (y0 : Int), .int .i64 (y1 : Int), .int .i64 (y2 : Int)] 123) = W5 at hbF hgF ⊢; have H5 : Hid (W5.heap[Wz]? = some (.cells #[.int .i64 (ty : Int), .slice (some ⟨g, 0, none⟩) n cp] 85 (0, 0)) ∧ W5.heap[w.heap.size + 1]? = some (.cells #[.string nm, .slice (some ⟨b, 0, none⟩) len cap] 48 (0, 0)) ∧ W5.heap[w1.heap.size]? = some (.cells #[.int .i64 (y0 : Int), .int .i64 (y1 : Int), .int .i64 (y2 : Int)] 123 (0, 0))) := ⟨grown_blk hgF H3.out.1, grown_blk hgF H3.out.2.2.2.2.1, hbF⟩; have HR5 : Hid (W5.heap[w.heap.size + 1 + 1]? = some (.cells #[.bool false] 4 (0, 0)) ∧ W5.heap[w.heap.size + 4 + 1]? = some (.loop Lb) ∧ W5.heap[w.heap.size + 4]? = some (.deferred (some [])) ∧ w.grownBy W5 none) := ⟨grown_blk hgF H3.out.2.2.2.2.2.1, grown_blk hgF H3.out.2.1, grown_blk hgF H3.out.2.2.2.2.2.2.1, grownBy_trans H3.out.2.2.1 hgF⟩; have hc5 : W5.cell? ⟨w.heap.size + 1 + 1, 0, none⟩ = some (.bool false) := (cell_of_row W5 _ _ _ _ _ HR5.out.1).trans rfl
      have hf5 : W5.frozen? ⟨w.heap.size + 1 + 1, 0, none⟩ = false := by simp [World.frozen?, HR5.out.1]
      have HLZ5 : Hid (w.heap.size + 4 + 1 < W5.heap.size) := (Array.getElem?_eq_some_iff.1 HR5.out.2.1).1; clear hgF hbF
      have HFIN : Hid (∀ r : Bool, (r = true ↔ HeadP num (scan zs).1) → (W5.drew.setCell ⟨w.heap.size + 1 + 1, 0, none⟩ (.bool r)).heap[w.heap.size + 4 + 1]? = some (.loop Lb) ∧ ∃ Lq : Loop, ∃ bo : Bool, (Lq.pending = some .ret ∧ Lq.state = .done) ∧ ((W5.drew.setCell ⟨w.heap.size + 1 + 1, 0, none⟩ (.bool r)).putObj (w.heap.size + 4 + 1) (.loop Ld)).heap[w.heap.size + 4 + 1]? = some (.loop Lq) ∧ ((W5.drew.setCell ⟨w.heap.size + 1 + 1, 0, none⟩ (.bool r)).putObj (w.heap.size + 4 + 1) (.loop Ld)).heap[w.heap.size + 4]? = some (.deferred (some [])) ∧ ((W5.drew.setCell ⟨w.heap.size + 1 + 1, 0, none⟩ (.bool r)).putObj (w.heap.size + 4 + 1) (.loop Ld)).heap[w.heap.size + 2]? = some (.cells #[.bool bo] 4 (0, 0)) ∧ w.grownBy ((W5.drew.setCell ⟨w.heap.size + 1 + 1, 0, none⟩ (.bool r)).putObj (w.heap.size + 4 + 1) (.loop Ld)) none ∧ (bo = true ↔ HeadP num (scan zs).1)) := fun r hr => ⟨set_oth 0 (.bool r) (by omega) (show W5.drew.heap[w.heap.size + 4 + 1]? = _ from HR5.out.2.1), Ld, r, ⟨hLd1, hLd2⟩, World.putObj_heap_same (by simp [World.setCell]; exact HLZ5.out), (World.putObj_heap_other (by omega)).trans (set_oth 0 (.bool r) (by omega) (show W5.drew.heap[w.heap.size + 4]? = _ from HR5.out.2.2.1)), (World.putObj_heap_other (by omega)).trans (set_blk (W := W5.drew) 0 (.bool r) HR5.out.1), putObj_grown (grownBy_setNew (grownBy_drew HR5.out.2.2.2) (Nat.le_trans (Nat.le_succ _) (Nat.le_succ _))) (by omega), hr⟩
      cases bo with
      | false =>
        refine wpIn_region_Z (fun V => V.heap[Wz]? = some (.cells #[.int .i64 (ty : Int), .slice (some ⟨g, 0, none⟩) n cp] 85 (0, 0)) ∧ V.heap[w.heap.size + 1]? = some (.cells #[.string nm, .slice (some ⟨b, 0, none⟩) len cap] 48 (0, 0)) ∧ V.heap[w1.heap.size]? = some (.cells #[.int .i64 (y0 : Int), .int .i64 (y1 : Int), .int .i64 (y2 : Int)] 123 (0, 0))) (fun _ => false) (by kernel_rfl) (by kernel_rfl) (by rintro ⟨_, _, hq⟩; rcases hq with ⟨hq, _⟩ | ⟨hq, _⟩ <;> cases hq) ?_; have hS : W5.drew.heap[Wz]? = some (.cells #[.int .i64 (ty : Int), .slice (some ⟨g, 0, none⟩) n cp] 85 (0, 0)) ∧ W5.drew.heap[w.heap.size + 1]? = some (.cells #[.string nm, .slice (some ⟨b, 0, none⟩) len cap] 48 (0, 0)) ∧ W5.drew.heap[w1.heap.size]? = some (.cells #[.int .i64 (y0 : Int), .int .i64 (y1 : Int), .int .i64 (y2 : Int)] 123 (0, 0)) := H5.out; have hc5d : W5.drew.cell? ⟨w.heap.size + 1 + 1, 0, none⟩ = some (.bool false) := hc5; have hf5d : W5.drew.frozen? ⟨w.heap.size + 1 + 1, 0, none⟩ = false := hf5; refine wpAnyZ_take' (i := 0) (v := ?vz12) rfl (by kernel_rfl) (by kernel_rfl) (by kernel_rfl) (fun _ _ _ h => h) (Or.inl ⟨by rfl, ?yz12⟩) ?rz12
        case yz12 => (intro w _; go_simp; first | done | with_reducible rfl)
        simp only [Act.put, List.setIfInBounds_toArray, List.set_cons_zero, List.set_cons_succ]; refine wpAnyZ_take' (i := 1) (v := ?vz13) rfl (by kernel_rfl) (by kernel_rfl) (by kernel_rfl) (fun _ _ _ h => h) (Or.inl ⟨by rfl, ?yz13⟩) ?rz13
        case yz13 => (intro w _; go_simp; first | done | with_reducible rfl)
        simp only [Act.put, List.setIfInBounds_toArray, List.set_cons_zero, List.set_cons_succ]; refine wpAnyZ_take' (i := 2) (v := undef) rfl (by kernel_rfl) (by kernel_rfl) (by kernel_rfl) (fun _ _ _ h => h) (Or.inr ⟨by rfl, rfl⟩) ?_; simp only [Act.put, List.setIfInBounds_toArray, List.set_cons_zero, List.set_cons_succ]; refine wpAnyZ_take' (i := 3) (v := undef) rfl (by kernel_rfl) (by kernel_rfl) (by kernel_rfl) (fun _ _ _ h => h) (Or.inr ⟨by rfl, rfl⟩) ?_; simp only [Act.put, List.setIfInBounds_toArray, List.set_cons_zero, List.set_cons_succ]; refine wpAnyZ_take' (i := 4) (v := undef) rfl (by kernel_rfl) (by kernel_rfl) (by kernel_rfl) (fun _ _ _ h => h) (Or.inr ⟨by rfl, rfl⟩) ?_; simp only [Act.put, List.setIfInBounds_toArray, List.set_cons_zero, List.set_cons_succ]; refine wpAnyZ_take' (i := 5) (v := ?vz14) rfl (by kernel_rfl) (by kernel_rfl) (by kernel_rfl) (fun _ _ _ h => h) (Or.inl ⟨by rfl, ?yz14⟩) ?rz14
        case yz14 => (intro w _; go_simp; first | done | with_reducible rfl)
        simp only [Act.put, List.setIfInBounds_toArray, List.set_cons_zero, List.set_cons_succ]; refine wpAnyZ_take' (i := 6) (v := ?vz15) rfl (by kernel_rfl) (by kernel_rfl) (by kernel_rfl) (fun _ _ _ h => h) (Or.inl ⟨by rfl, ?yz15⟩) ?rz15
        case yz15 => (intro w _; go_simp; first | done | with_reducible rfl)
        simp only [Act.put, List.setIfInBounds_toArray, List.set_cons_zero, List.set_cons_succ]; refine wpAnyZ_take' (i := 7) (v := undef) rfl (by kernel_rfl) (by kernel_rfl) (by kernel_rfl) (fun _ _ _ h => h) (Or.inr ⟨by rfl, rfl⟩) ?_; simp only [Act.put, List.setIfInBounds_toArray, List.set_cons_zero, List.set_cons_succ]; refine wpAnyZ_take' (i := 8) (v := undef) rfl (by kernel_rfl) (by kernel_rfl) (by kernel_rfl) (fun _ _ _ h => h) (Or.inr ⟨by rfl, rfl⟩) ?_; simp only [Act.put, List.setIfInBounds_toArray, List.set_cons_zero, List.set_cons_succ]; refine wpAnyZ_take' (i := 9) (v := undef) rfl (by kernel_rfl) (by kernel_rfl) (by kernel_rfl) (fun _ _ _ h => h) (Or.inr ⟨by rfl, rfl⟩) ?_; simp only [Act.put, List.setIfInBounds_toArray, List.set_cons_zero, List.set_cons_succ]; refine wpAnyZ_take' (i := 10) (v := undef) rfl (by kernel_rfl) (by kernel_rfl) (by kernel_rfl) (fun _ _ _ h => h) (Or.inr ⟨by rfl, rfl⟩) ?_; simp only [Act.put, List.setIfInBounds_toArray, List.set_cons_zero, List.set_cons_succ]; refine wpAnyZ_take' (i := 11) (v := undef) rfl (by kernel_rfl) (by kernel_rfl) (by kernel_rfl) (fun _ _ _ h => h) (Or.inr ⟨by rfl, rfl⟩) ?_; simp only [Act.put, List.setIfInBounds_toArray, List.set_cons_zero, List.set_cons_succ]; refine wpAnyZ_take' (i := 12) (v := undef) rfl (by kernel_rfl) (by kernel_rfl) (by kernel_rfl) (fun _ _ _ h => h) (Or.inr ⟨by rfl, rfl⟩) ?_; simp only [Act.put, List.setIfInBounds_toArray, List.set_cons_zero, List.set_cons_succ]; refine wpAnyZ_take' (i := 13) (v := ?vz16) rfl (by kernel_rfl) (by kernel_rfl) (by kernel_rfl) (fun _ _ _ h => h) (Or.inl ⟨by rfl, ?yz16⟩) ?rz16
        case yz16 => (intro w _; go_simp; first | done | with_reducible rfl)
        simp only [Act.put, List.setIfInBounds_toArray, List.set_cons_zero, List.set_cons_succ]; refine wpAnyZ_one' (i := 14) (by kernel_rfl) rfl (fun K hK => ?_); go_simp; refine hK.out _ _ (fun _ h => ⟨set_oth 0 _ (by omega) h.1, set_oth 0 _ (by omega) h.2.1, set_oth 0 _ (by omega) h.2.2⟩) ?_; clear hK K; (try simp only [Act.put, List.setIfInBounds_toArray, List.set_cons_zero, List.set_cons_succ]); refine wpAnyZ_done (by kernel_rfl) ?_ _
        gi_wp2
        have hX := HFIN.out false (by
          obtain ⟨rest, hrest⟩ := HPR.out
          constructor
          · intro hc; cases hc
          · rintro ⟨t9, d9, r9, h9, h10, h11, h12⟩; rw [hrest] at h9; simp only [List.cons.injEq, Prod.mk.injEq] at h9; obtain ⟨⟨rfl, rfl⟩, -⟩ := h9
            exact absurd (HBO.out.1.2 h10) (by simp))
        first | exact .inr ⟨rfl, hX.1, HRR.out _ hX.2⟩ | exact ⟨hX.1, HRR.out _ hX.2⟩
      | true =>
        rcases Classical.em (ty = 1) with h1n | h1n
        · have dty : ((ty : Int) == 1) = true := by rw [beq_iff_eq]; omega
          have HTY : Hid (ty = 1) := h1n; clear h1n
          rcases Classical.em (y0 = num) with hyn | hyn
          · have HYN : Hid (y0 = num) := hyn
            have dy : ((y0 : Int) == (num : Int)) = true := by simp; omega
            clear hyn; refine wpIn_region_Z (fun V => V.heap[Wz]? = some (.cells #[.int .i64 (ty : Int), .slice (some ⟨g, 0, none⟩) n cp] 85 (0, 0)) ∧ V.heap[w.heap.size + 1]? = some (.cells #[.string nm, .slice (some ⟨b, 0, none⟩) len cap] 48 (0, 0)) ∧ V.heap[w1.heap.size]? = some (.cells #[.int .i64 (y0 : Int), .int .i64 (y1 : Int), .int .i64 (y2 : Int)] 123 (0, 0))) (fun _ => false) (by kernel_rfl) (by kernel_rfl) (by rintro ⟨_, _, hq⟩; rcases hq with ⟨hq, _⟩ | ⟨hq, _⟩ <;> cases hq) ?_; have hS : W5.drew.heap[Wz]? = some (.cells #[.int .i64 (ty : Int), .slice (some ⟨g, 0, none⟩) n cp] 85 (0, 0)) ∧ W5.drew.heap[w.heap.size + 1]? = some (.cells #[.string nm, .slice (some ⟨b, 0, none⟩) len cap] 48 (0, 0)) ∧ W5.drew.heap[w1.heap.size]? = some (.cells #[.int .i64 (y0 : Int), .int .i64 (y1 : Int), .int .i64 (y2 : Int)] 123 (0, 0)) := H5.out; have hc5d : W5.drew.cell? ⟨w.heap.size + 1 + 1, 0, none⟩ = some (.bool false) := hc5; have hf5d : W5.drew.frozen? ⟨w.heap.size + 1 + 1, 0, none⟩ = false := hf5; refine wpAnyZ_take' (i := 0) (v := ?vz25) rfl (by kernel_rfl) (by kernel_rfl) (by kernel_rfl) (fun _ _ _ h => h) (Or.inl ⟨by rfl, ?yz25⟩) ?rz25
            case yz25 => (intro w _; go_simp; first | done | with_reducible rfl)
            simp only [Act.put, List.setIfInBounds_toArray, List.set_cons_zero, List.set_cons_succ]; refine wpAnyZ_take' (i := 1) (v := ?vz26) rfl (by kernel_rfl) (by kernel_rfl) (by kernel_rfl) (fun _ _ _ h => h) (Or.inl ⟨by rfl, ?yz26⟩) ?rz26
            case yz26 => (intro w _; go_simp; first | done | with_reducible rfl)
            simp only [Act.put, List.setIfInBounds_toArray, List.set_cons_zero, List.set_cons_succ]; refine wpAnyZ_take' (i := 2) (v := ?vz27) rfl (by kernel_rfl) (by kernel_rfl) (by kernel_rfl) (fun _ _ _ h => h) (Or.inl ⟨by rfl, ?yz27⟩) ?rz27
            case yz27 => (intro w _; go_simp; first | done | with_reducible rfl)
            simp only [Act.put, List.setIfInBounds_toArray, List.set_cons_zero, List.set_cons_succ]; refine wpAnyZ_loadS (i := 3) (v := ?vz28) rfl (by kernel_rfl) (by kernel_rfl) (by kernel_rfl) (fun _ _ _ h => h) (fun _ => rfl) (Or.inl ⟨by rfl, ?yz28⟩) hS ?rz28
            case yz28 => (intro W hW; have c0 : W.cell? ⟨Wz, 0, none⟩ = some (.int .i64 (ty : Int)) := (cell_of_row W _ _ _ _ _ hW.1).trans rfl; go_simp; first | done | with_reducible rfl)
            simp only [Act.put, List.setIfInBounds_toArray, List.set_cons_zero, List.set_cons_succ]; refine wpAnyZ_take' (i := 4) (v := ?vz29) rfl (by kernel_rfl) (by kernel_rfl) (by kernel_rfl) (fun _ _ _ h => h) (Or.inl ⟨by rfl, ?yz29⟩) ?rz29
            case yz29 => (intro w _; go_simp; first | done | with_reducible rfl)
            simp only [Act.put, List.setIfInBounds_toArray, List.set_cons_zero, List.set_cons_succ]; refine wpAnyZ_take' (i := 5) (v := ?vz30) rfl (by kernel_rfl) (by kernel_rfl) (by kernel_rfl) (fun _ _ _ h => h) (Or.inl ⟨by rfl, ?yz30⟩) ?rz30
            case yz30 => (intro w _; go_simp; first | done | with_reducible rfl)
            simp only [Act.put, List.setIfInBounds_toArray, List.set_cons_zero, List.set_cons_succ]; refine wpAnyZ_take' (i := 6) (v := ?vz31) rfl (by kernel_rfl) (by kernel_rfl) (by kernel_rfl) (fun _ _ _ h => h) (Or.inl ⟨by rfl, ?yz31⟩) ?rz31
            case yz31 => (intro w _; go_simp; first | done | with_reducible rfl)
            simp only [Act.put, List.setIfInBounds_toArray, List.set_cons_zero, List.set_cons_succ]; refine wpAnyZ_take' (i := 7) (v := ?vz32) rfl (by kernel_rfl) (by kernel_rfl) (by kernel_rfl) (fun _ _ _ h => h) (Or.inl ⟨by rfl, ?yz32⟩) ?rz32
            case yz32 => (intro w _; go_simp; first | done | with_reducible rfl)
            simp only [Act.put, List.setIfInBounds_toArray, List.set_cons_zero, List.set_cons_succ]; refine wpAnyZ_loadS (i := 8) (v := ?vz33) rfl (by kernel_rfl) (by kernel_rfl) (by kernel_rfl) (fun _ _ _ h => h) (fun _ => rfl) (Or.inl ⟨by rfl, ?yz33⟩) hS ?rz33
            case yz33 => (intro W hW; have c0 : W.cell? ⟨w1.heap.size, 0, none⟩ = some (.int .i64 (y0 : Int)) := (cell_of_row W _ _ _ _ _ hW.2.2).trans rfl; go_simp; first | done | with_reducible rfl)
            simp only [Act.put, List.setIfInBounds_toArray, List.set_cons_zero, List.set_cons_succ]; refine wpAnyZ_take' (i := 9) (v := ?vz34) rfl (by kernel_rfl) (by kernel_rfl) (by kernel_rfl) (fun _ _ _ h => h) (Or.inl ⟨by rfl, ?yz34⟩) ?rz34
            case yz34 => (intro w _; go_simp; first | done | with_reducible rfl)
            simp only [Act.put, List.setIfInBounds_toArray, List.set_cons_zero, List.set_cons_succ]; refine wpAnyZ_loadS (i := 10) (v := ?vz35) rfl (by kernel_rfl) (by kernel_rfl) (by kernel_rfl) (fun _ _ _ h => h) (fun _ => rfl) (Or.inl ⟨by rfl, ?yz35⟩) hS ?rz35
            case yz35 => (intro W hW; have c0 : W.cell? ⟨w.heap.size + 1, 0, none⟩ = some (.string nm) := (cell_of_row W _ _ _ _ _ hW.2.1).trans rfl; go_simp; first | done | with_reducible rfl)
            simp only [Act.put, List.setIfInBounds_toArray, List.set_cons_zero, List.set_cons_succ]; refine wpAnyZ_one' (i := 11) (by kernel_rfl) rfl (fun K hK => ?_); go_simp; go_at_call 39; refine (HSEG.out _).mono ?_; rintro e w9 ⟨rfl, rfl⟩; refine hK.out _ _ (fun _ h => h) ?_; clear hK K; (try simp only [Act.put, List.setIfInBounds_toArray, List.set_cons_zero, List.set_cons_succ]); refine wpAnyZ_take' (i := 12) (v := ?vz36) rfl (by kernel_rfl) (by kernel_rfl) (by kernel_rfl) (fun _ _ _ h => h) (Or.inl ⟨by rfl, ?yz36⟩) ?rz36
            case yz36 => (intro w _; go_simp; first | done | with_reducible rfl)
            simp only [Act.put, List.setIfInBounds_toArray, List.set_cons_zero, List.set_cons_succ]; refine wpAnyZ_take' (i := 13) (v := ?vz37) rfl (by kernel_rfl) (by kernel_rfl) (by kernel_rfl) (fun _ _ _ h => h) (Or.inl ⟨by rfl, ?yz37⟩) ?rz37
            case yz37 => (intro w _; go_simp; first | done | with_reducible rfl)
            simp only [Act.put, List.setIfInBounds_toArray, List.set_cons_zero, List.set_cons_succ]; refine wpAnyZ_one' (i := 14) (by kernel_rfl) rfl (fun K hK => ?_); go_simp; refine hK.out _ _ (fun _ h => ⟨set_oth 0 _ (by omega) h.1, set_oth 0 _ (by omega) h.2.1, set_oth 0 _ (by omega) h.2.2⟩) ?_; clear hK K; (try simp only [Act.put, List.setIfInBounds_toArray, List.set_cons_zero, List.set_cons_succ]); refine wpAnyZ_done (by kernel_rfl) ?_ _
            gi_wp2
            have hX := HFIN.out true (by
              obtain ⟨rest, hrest⟩ := HPR.out
              refine ⟨fun _ => ⟨ty, data, rest, hrest, HBO.out.1.1 (by simp), HTY.out, (HBO.out.2 (by simp)).symm.trans HYN.out⟩, fun _ => rfl⟩)
            first | exact .inr ⟨rfl, hX.1, HRR.out _ hX.2⟩ | exact ⟨hX.1, HRR.out _ hX.2⟩
          · have dy : ((y0 : Int) == (num : Int)) = false := by simp; omega
            refine wpIn_region_Z (fun V => V.heap[Wz]? = some (.cells #[.int .i64 (ty : Int), .slice (some ⟨g, 0, none⟩) n cp] 85 (0, 0)) ∧ V.heap[w.heap.size + 1]? = some (.cells #[.string nm, .slice (some ⟨b, 0, none⟩) len cap] 48 (0, 0)) ∧ V.heap[w1.heap.size]? = some (.cells #[.int .i64 (y0 : Int), .int .i64 (y1 : Int), .int .i64 (y2 : Int)] 123 (0, 0))) (fun _ => false) (by kernel_rfl) (by kernel_rfl) (by rintro ⟨_, _, hq⟩; rcases hq with ⟨hq, _⟩ | ⟨hq, _⟩ <;> cases hq) ?_; have hS : W5.drew.heap[Wz]? = some (.cells #[.int .i64 (ty : Int), .slice (some ⟨g, 0, none⟩) n cp] 85 (0, 0)) ∧ W5.drew.heap[w.heap.size + 1]? = some (.cells #[.string nm, .slice (some ⟨b, 0, none⟩) len cap] 48 (0, 0)) ∧ W5.drew.heap[w1.heap.size]? = some (.cells #[.int .i64 (y0 : Int), .int .i64 (y1 : Int), .int .i64 (y2 : Int)] 123 (0, 0)) := H5.out; have hc5d : W5.drew.cell? ⟨w.heap.size + 1 + 1, 0, none⟩ = some (.bool false) := hc5; have hf5d : W5.drew.frozen? ⟨w.heap.size + 1 + 1, 0, none⟩ = false := hf5; refine wpAnyZ_take' (i := 0) (v := ?vz38) rfl (by kernel_rfl) (by kernel_rfl) (by kernel_rfl) (fun _ _ _ h => h) (Or.inl ⟨by rfl, ?yz38⟩) ?rz38
            case yz38 => (intro w _; go_simp; first | done | with_reducible rfl)
            simp only [Act.put, List.setIfInBounds_toArray, List.set_cons_zero, List.set_cons_succ]; refine wpAnyZ_take' (i := 1) (v := ?vz39) rfl (by kernel_rfl) (by kernel_rfl) (by kernel_rfl) (fun _ _ _ h => h) (Or.inl ⟨by rfl, ?yz39⟩) ?rz39
            case yz39 => (intro w _; go_simp; first | done | with_reducible rfl)
            simp only [Act.put, List.setIfInBounds_toArray, List.set_cons_zero, List.set_cons_succ]; refine wpAnyZ_take' (i := 2) (v := ?vz40) rfl (by kernel_rfl) (by kernel_rfl) (by kernel_rfl) (fun _ _ _ h => h) (Or.inl ⟨by rfl, ?yz40⟩) ?rz40
            case yz40 => (intro w _; go_simp; first | done | with_reducible rfl)
            simp only [Act.put, List.setIfInBounds_toArray, List.set_cons_zero, List.set_cons_succ]; refine wpAnyZ_loadS (i := 3) (v := ?vz41) rfl (by kernel_rfl) (by kernel_rfl) (by kernel_rfl) (fun _ _ _ h => h) (fun _ => rfl) (Or.inl ⟨by rfl, ?yz41⟩) hS ?rz41
            case yz41 => (intro W hW; have c0 : W.cell? ⟨Wz, 0, none⟩ = some (.int .i64 (ty : Int)) := (cell_of_row W _ _ _ _ _ hW.1).trans rfl; go_simp; first | done | with_reducible rfl)
            simp only [Act.put, List.setIfInBounds_toArray, List.set_cons_zero, List.set_cons_succ]; refine wpAnyZ_take' (i := 4) (v := ?vz42) rfl (by kernel_rfl) (by kernel_rfl) (by kernel_rfl) (fun _ _ _ h => h) (Or.inl ⟨by rfl, ?yz42⟩) ?rz42
            case yz42 => (intro w _; go_simp; first | done | with_reducible rfl)
            simp only [Act.put, List.setIfInBounds_toArray, List.set_cons_zero, List.set_cons_succ]; refine wpAnyZ_take' (i := 5) (v := ?vz43) rfl (by kernel_rfl) (by kernel_rfl) (by kernel_rfl) (fun _ _ _ h => h) (Or.inl ⟨by rfl, ?yz43⟩) ?rz43
            case yz43 => (intro w _; go_simp; first | done | with_reducible rfl)
            simp only [Act.put, List.setIfInBounds_toArray, List.set_cons_zero, List.set_cons_succ]; refine wpAnyZ_take' (i := 6) (v := ?vz44) rfl (by kernel_rfl) (by kernel_rfl) (by kernel_rfl) (fun _ _ _ h => h) (Or.inl ⟨by rfl, ?yz44⟩) ?rz44
            case yz44 => (intro w _; go_simp; first | done | with_reducible rfl)
            simp only [Act.put, List.setIfInBounds_toArray, List.set_cons_zero, List.set_cons_succ]; refine wpAnyZ_take' (i := 7) (v := ?vz45) rfl (by kernel_rfl) (by kernel_rfl) (by kernel_rfl) (fun _ _ _ h => h) (Or.inl ⟨by rfl, ?yz45⟩) ?rz45
            case yz45 => (intro w _; go_simp; first | done | with_reducible rfl)
            simp only [Act.put, List.setIfInBounds_toArray, List.set_cons_zero, List.set_cons_succ]; refine wpAnyZ_loadS (i := 8) (v := ?vz46) rfl (by kernel_rfl) (by kernel_rfl) (by kernel_rfl) (fun _ _ _ h => h) (fun _ => rfl) (Or.inl ⟨by rfl, ?yz46⟩) hS ?rz46
            case yz46 => (intro W hW; have c0 : W.cell? ⟨w1.heap.size, 0, none⟩ = some (.int .i64 (y0 : Int)) := (cell_of_row W _ _ _ _ _ hW.2.2).trans rfl; go_simp; first | done | with_reducible rfl)
            simp only [Act.put, List.setIfInBounds_toArray, List.set_cons_zero, List.set_cons_succ]; refine wpAnyZ_take' (i := 9) (v := ?vz47) rfl (by kernel_rfl) (by kernel_rfl) (by kernel_rfl) (fun _ _ _ h => h) (Or.inl ⟨by rfl, ?yz47⟩) ?rz47
            case yz47 => (intro w _; go_simp; first | done | with_reducible rfl)
            simp only [Act.put, List.setIfInBounds_toArray, List.set_cons_zero, List.set_cons_succ]; refine wpAnyZ_loadS (i := 10) (v := ?vz48) rfl (by kernel_rfl) (by kernel_rfl) (by kernel_rfl) (fun _ _ _ h => h) (fun _ => rfl) (Or.inl ⟨by rfl, ?yz48⟩) hS ?rz48
            case yz48 => (intro W hW; have c0 : W.cell? ⟨w.heap.size + 1, 0, none⟩ = some (.string nm) := (cell_of_row W _ _ _ _ _ hW.2.1).trans rfl; go_simp; first | done | with_reducible rfl)
            simp only [Act.put, List.setIfInBounds_toArray, List.set_cons_zero, List.set_cons_succ]; refine wpAnyZ_one' (i := 11) (by kernel_rfl) rfl (fun K hK => ?_); go_simp; go_at_call 39; refine (HSEG.out _).mono ?_; rintro e w9 ⟨rfl, rfl⟩; refine hK.out _ _ (fun _ h => h) ?_; clear hK K; (try simp only [Act.put, List.setIfInBounds_toArray, List.set_cons_zero, List.set_cons_succ]); refine wpAnyZ_take' (i := 12) (v := ?vz49) rfl (by kernel_rfl) (by kernel_rfl) (by kernel_rfl) (fun _ _ _ h => h) (Or.inl ⟨by rfl, ?yz49⟩) ?rz49
            case yz49 => (intro w _; go_simp; first | done | with_reducible rfl)
            simp only [Act.put, List.setIfInBounds_toArray, List.set_cons_zero, List.set_cons_succ]; refine wpAnyZ_take' (i := 13) (v := ?vz50) rfl (by kernel_rfl) (by kernel_rfl) (by kernel_rfl) (fun _ _ _ h => h) (Or.inl ⟨by rfl, ?yz50⟩) ?rz50
            case yz50 => (intro w _; go_simp; first | done | with_reducible rfl)
            simp only [Act.put, List.setIfInBounds_toArray, List.set_cons_zero, List.set_cons_succ]; refine wpAnyZ_one' (i := 14) (by kernel_rfl) rfl (fun K hK => ?_); go_simp; refine hK.out _ _ (fun _ h => ⟨set_oth 0 _ (by omega) h.1, set_oth 0 _ (by omega) h.2.1, set_oth 0 _ (by omega) h.2.2⟩) ?_; clear hK K; (try simp only [Act.put, List.setIfInBounds_toArray, List.set_cons_zero, List.set_cons_succ]); refine wpAnyZ_done (by kernel_rfl) ?_ _
            gi_wp2
            have hX := HFIN.out false (by
              obtain ⟨rest, hrest⟩ := HPR.out
              constructor
              · intro hc; cases hc
              · rintro ⟨t9, d9, r9, h9, h10, h11, h12⟩; rw [hrest] at h9; simp only [List.cons.injEq, Prod.mk.injEq] at h9; obtain ⟨⟨rfl, rfl⟩, -⟩ := h9
                exact absurd h12 (fun hc => hyn (by rw [HBO.out.2 (by simp)]; exact hc)))
            first | exact .inr ⟨rfl, hX.1, HRR.out _ hX.2⟩ | exact ⟨hX.1, HRR.out _ hX.2⟩
        · have dty : ((ty : Int) == 1) = false := by rw [beq_eq_false_iff_ne]; omega
          refine wpIn_region_Z (fun V => V.heap[Wz]? = some (.cells #[.int .i64 (ty : Int), .slice (some ⟨g, 0, none⟩) n cp] 85 (0, 0)) ∧ V.heap[w.heap.size + 1]? = some (.cells #[.string nm, .slice (some ⟨b, 0, none⟩) len cap] 48 (0, 0)) ∧ V.heap[w1.heap.size]? = some (.cells #[.int .i64 (y0 : Int), .int .i64 (y1 : Int), .int .i64 (y2 : Int)] 123 (0, 0))) (fun _ => false) (by kernel_rfl) (by kernel_rfl) (by rintro ⟨_, _, hq⟩; rcases hq with ⟨hq, _⟩ | ⟨hq, _⟩ <;> cases hq) ?_; have hS : W5.drew.heap[Wz]? = some (.cells #[.int .i64 (ty : Int), .slice (some ⟨g, 0, none⟩) n cp] 85 (0, 0)) ∧ W5.drew.heap[w.heap.size + 1]? = some (.cells #[.string nm, .slice (some ⟨b, 0, none⟩) len cap] 48 (0, 0)) ∧ W5.drew.heap[w1.heap.size]? = some (.cells #[.int .i64 (y0 : Int), .int .i64 (y1 : Int), .int .i64 (y2 : Int)] 123 (0, 0)) := H5.out; have hc5d : W5.drew.cell? ⟨w.heap.size + 1 + 1, 0, none⟩ = some (.bool false) := hc5; have hf5d : W5.drew.frozen? ⟨w.heap.size + 1 + 1, 0, none⟩ = false := hf5; refine wpAnyZ_take' (i := 0) (v := ?vz18) rfl (by kernel_rfl) (by kernel_rfl) (by kernel_rfl) (fun _ _ _ h => h) (Or.inl ⟨by rfl, ?yz18⟩) ?rz18
          case yz18 => (intro w _; go_simp; first | done | with_reducible rfl)
          simp only [Act.put, List.setIfInBounds_toArray, List.set_cons_zero, List.set_cons_succ]; refine wpAnyZ_take' (i := 1) (v := ?vz19) rfl (by kernel_rfl) (by kernel_rfl) (by kernel_rfl) (fun _ _ _ h => h) (Or.inl ⟨by rfl, ?yz19⟩) ?rz19
          case yz19 => (intro w _; go_simp; first | done | with_reducible rfl)
          simp only [Act.put, List.setIfInBounds_toArray, List.set_cons_zero, List.set_cons_succ]; refine wpAnyZ_take' (i := 2) (v := ?vz20) rfl (by kernel_rfl) (by kernel_rfl) (by kernel_rfl) (fun _ _ _ h => h) (Or.inl ⟨by rfl, ?yz20⟩) ?rz20
          case yz20 => (intro w _; go_simp; first | done | with_reducible rfl)
          simp only [Act.put, List.setIfInBounds_toArray, List.set_cons_zero, List.set_cons_succ]; refine wpAnyZ_loadS (i := 3) (v := ?vz17) rfl (by kernel_rfl) (by kernel_rfl) (by kernel_rfl) (fun _ _ _ h => h) (fun _ => rfl) (Or.inl ⟨by rfl, ?yz17⟩) hS ?rz17
          case yz17 => (intro W hW; have c0 : W.cell? ⟨Wz, 0, none⟩ = some (.int .i64 (ty : Int)) := (cell_of_row W _ _ _ _ _ hW.1).trans rfl; go_simp; first | done | with_reducible rfl)
          simp only [Act.put, List.setIfInBounds_toArray, List.set_cons_zero, List.set_cons_succ]; refine wpAnyZ_take' (i := 4) (v := ?vz21) rfl (by kernel_rfl) (by kernel_rfl) (by kernel_rfl) (fun _ _ _ h => h) (Or.inl ⟨by rfl, ?yz21⟩) ?rz21
          case yz21 => (intro w _; go_simp; first | done | with_reducible rfl)
          simp only [Act.put, List.setIfInBounds_toArray, List.set_cons_zero, List.set_cons_succ]; refine wpAnyZ_take' (i := 5) (v := ?vz22) rfl (by kernel_rfl) (by kernel_rfl) (by kernel_rfl) (fun _ _ _ h => h) (Or.inl ⟨by rfl, ?yz22⟩) ?rz22
          case yz22 => (intro w _; go_simp; first | done | with_reducible rfl)
          simp only [Act.put, List.setIfInBounds_toArray, List.set_cons_zero, List.set_cons_succ]; refine wpAnyZ_take' (i := 6) (v := ?vz23) rfl (by kernel_rfl) (by kernel_rfl) (by kernel_rfl) (fun _ _ _ h => h) (Or.inl ⟨by rfl, ?yz23⟩) ?rz23
          case yz23 => (intro w _; go_simp; first | done | with_reducible rfl)
          simp only [Act.put, List.setIfInBounds_toArray, List.set_cons_zero, List.set_cons_succ]; refine wpAnyZ_take' (i := 7) (v := undef) rfl (by kernel_rfl) (by kernel_rfl) (by kernel_rfl) (fun _ _ _ h => h) (Or.inr ⟨by rfl, rfl⟩) ?_; simp only [Act.put, List.setIfInBounds_toArray, List.set_cons_zero, List.set_cons_succ]; refine wpAnyZ_take' (i := 8) (v := undef) rfl (by kernel_rfl) (by kernel_rfl) (by kernel_rfl) (fun _ _ _ h => h) (Or.inr ⟨by rfl, rfl⟩) ?_; simp only [Act.put, List.setIfInBounds_toArray, List.set_cons_zero, List.set_cons_succ]; refine wpAnyZ_take' (i := 9) (v := undef) rfl (by kernel_rfl) (by kernel_rfl) (by kernel_rfl) (fun _ _ _ h => h) (Or.inr ⟨by rfl, rfl⟩) ?_; simp only [Act.put, List.setIfInBounds_toArray, List.set_cons_zero, List.set_cons_succ]; refine wpAnyZ_take' (i := 10) (v := undef) rfl (by kernel_rfl) (by kernel_rfl) (by kernel_rfl) (fun _ _ _ h => h) (Or.inr ⟨by rfl, rfl⟩) ?_; simp only [Act.put, List.setIfInBounds_toArray, List.set_cons_zero, List.set_cons_succ]; refine wpAnyZ_take' (i := 11) (v := undef) rfl (by kernel_rfl) (by kernel_rfl) (by kernel_rfl) (fun _ _ _ h => h) (Or.inr ⟨by rfl, rfl⟩) ?_; simp only [Act.put, List.setIfInBounds_toArray, List.set_cons_zero, List.set_cons_succ]; refine wpAnyZ_take' (i := 12) (v := undef) rfl (by kernel_rfl) (by kernel_rfl) (by kernel_rfl) (fun _ _ _ h => h) (Or.inr ⟨by rfl, rfl⟩) ?_; simp only [Act.put, List.setIfInBounds_toArray, List.set_cons_zero, List.set_cons_succ]; refine wpAnyZ_take' (i := 13) (v := ?vz24) rfl (by kernel_rfl) (by kernel_rfl) (by kernel_rfl) (fun _ _ _ h => h) (Or.inl ⟨by rfl, ?yz24⟩) ?rz24
          case yz24 => (intro w _; go_simp; first | done | with_reducible rfl)
          simp only [Act.put, List.setIfInBounds_toArray, List.set_cons_zero, List.set_cons_succ]; refine wpAnyZ_one' (i := 14) (by kernel_rfl) rfl (fun K hK => ?_); go_simp; refine hK.out _ _ (fun _ h => ⟨set_oth 0 _ (by omega) h.1, set_oth 0 _ (by omega) h.2.1, set_oth 0 _ (by omega) h.2.2⟩) ?_; clear hK K; (try simp only [Act.put, List.setIfInBounds_toArray, List.set_cons_zero, List.set_cons_succ]); refine wpAnyZ_done (by kernel_rfl) ?_ _
          gi_wp2
          have hX := HFIN.out false (by
            obtain ⟨rest, hrest⟩ := HPR.out
            constructor
            · intro hc; cases hc
            · rintro ⟨t9, d9, r9, h9, h10, h11, h12⟩; rw [hrest] at h9; simp only [List.cons.injEq, Prod.mk.injEq] at h9; obtain ⟨⟨rfl, rfl⟩, -⟩ := h9
              exact absurd h11 h1n)
          first | exact .inr ⟨rfl, hX.1, HRR.out _ hX.2⟩ | exact ⟨hX.1, HRR.out _ hX.2⟩
    · go_simp; refine hK.out _ _ (fun _ h => ⟨grown_blk (World.grownBy_alloc _ _ _) h.1, grown_blk (World.grownBy_alloc _ _ _) h.2.1, ((World.grownBy_alloc W3.drew _ none).block R (by have := H3.out.2.2.1.size; show R < W3.heap.size; omega) (by simp)).trans h.2.2⟩) ?_; clear hK K; (try simp only [Act.put, List.setIfInBounds_toArray, List.set_cons_zero, List.set_cons_succ]); refine wpAnyZ_one' (i := 7) (by kernel_rfl) rfl (fun K hK => ?_); go_simp; go_at_call 60; refine (HTK.out (W3.drew.alloc (.cells #[.int .i64 0, .int .i64 0, .int .i64 0] 123)) (grownBy_alloc (grownBy_drew (grownBy_refl W3 none)) _)).mono ?_; rintro e w1 ⟨bo, y0, y1, y2, dv, rfl, hgr, hbo, hy0⟩; have HBO : Hid ((bo = true ↔ WOk (wb 1) (wroom 1) data) ∧ (bo = true → y0 = wn 1 data 0)) := ⟨hbo, hy0⟩; have hg1 : W3.grownBy w1 none := grownBy_trans (grownBy_alloc (grownBy_drew (grownBy_refl W3 none)) _) hgr; have HG1 : Hid (W3.grownBy w1 none) := hg1; have hsz1 := hg1.size; have HS1 : Hid (w1.heap[w.heap.size]? = some (.cells #[.pointer (some ⟨R, 0, none⟩)] 118 (0, 0)) ∧ w1.heap[Wz]? = some (.cells #[.int .i64 (ty : Int), .slice (some ⟨g, 0, none⟩) n cp] 85 (0, 0)) ∧ w1.heap[R]? = W3.heap[R]?) := ⟨grown_blk hg1 H3.out.2.2.2.1, grown_blk hg1 H3.out.1, hg1.block R (by omega) (by simp)⟩; have hb0 : w1.heap[W3.heap.size]? = some (.cells #[.int .i64 0, .int .i64 0, .int .i64 0] 123 (0, 0)) := grown_blk hgr (heap_alloc_new W3.drew _); clear hbo hy0 hgr hg1; refine hK.out _ _ (fun _ _ => HS1.out) ?_; clear hK K; (try simp only [Act.put, List.setIfInBounds_toArray, List.set_cons_zero, List.set_cons_succ]); refine wpAnyZ_take' (i := 8) (v := ?vz51) rfl (by kernel_rfl) (by kernel_rfl) (by kernel_rfl) (fun _ _ _ h => h) (Or.inl ⟨by rfl, ?yz51⟩) ?rz51
      case yz51 => (intro w _; go_simp; first | done | with_reducible rfl)
      simp only [Act.put, List.setIfInBounds_toArray, List.set_cons_zero, List.set_cons_succ]; refine wpAnyZ_take' (i := 9) (v := ?vz52) rfl (by kernel_rfl) (by kernel_rfl) (by kernel_rfl) (fun _ _ _ h => h) (Or.inl ⟨by rfl, ?yz52⟩) ?rz52
      case yz52 => (intro w _; go_simp; first | done | with_reducible rfl)
      simp only [Act.put, List.setIfInBounds_toArray, List.set_cons_zero, List.set_cons_succ]; refine wpAnyZ_take' (i := 10) (v := ?vz53) rfl (by kernel_rfl) (by kernel_rfl) (by kernel_rfl) (fun _ _ _ h => h) (Or.inl ⟨by rfl, ?yz53⟩) ?rz53
      case yz53 => (intro w _; go_simp; first | done | with_reducible rfl)
      simp only [Act.put, List.setIfInBounds_toArray, List.set_cons_zero, List.set_cons_succ]; refine wpAnyZ_take' (i := 11) (v := ?vz54) rfl (by kernel_rfl) (by kernel_rfl) (by kernel_rfl) (fun _ _ _ h => h) (Or.inl ⟨by rfl, ?yz54⟩) ?rz54
      case yz54 => (intro w _; go_simp; first | done | with_reducible rfl)
      simp only [Act.put, List.setIfInBounds_toArray, List.set_cons_zero, List.set_cons_succ]; have z0 : w1.cell? ⟨W3.heap.size, 0, none⟩ = some (.int .i64 0) := (cell_of_row w1 _ _ _ _ _ hb0).trans rfl
      have zf0 : w1.frozen? ⟨W3.heap.size, 0, none⟩ = false := by simp [World.frozen?, hb0]
      have z1 : w1.cell? ⟨W3.heap.size, 1, none⟩ = some (.int .i64 0) := (cell_of_row w1 _ _ _ _ _ hb0).trans rfl
      have zf1 : w1.frozen? ⟨W3.heap.size, 1, none⟩ = false := by simp [World.frozen?, hb0]
      have z2 : w1.cell? ⟨W3.heap.size, 2, none⟩ = some (.int .i64 0) := (cell_of_row w1 _ _ _ _ _ hb0).trans rfl
      have zf2 : w1.frozen? ⟨W3.heap.size, 2, none⟩ = false := by simp [World.frozen?, hb0]
      have hgF : W3.grownBy (((w1.setCell ⟨W3.heap.size, 0, none⟩ (.int .i64 (y0 : Int))).setCell ⟨W3.heap.size, 1, none⟩ (.int .i64 (y1 : Int))).setCell ⟨W3.heap.size, 2, none⟩ (.int .i64 (y2 : Int))) none := grownBy_setNew (grownBy_setNew (grownBy_setNew HG1.out (Nat.le_refl _)) (Nat.le_refl _)) (Nat.le_refl _); have hbF : (((w1.setCell ⟨W3.heap.size, 0, none⟩ (.int .i64 (y0 : Int))).setCell ⟨W3.heap.size, 1, none⟩ (.int .i64 (y1 : Int))).setCell ⟨W3.heap.size, 2, none⟩ (.int .i64 (y2 : Int))).heap[W3.heap.size]? = some (.cells #[.int .i64 (y0 : Int), .int .i64 (y1 : Int), .int .i64 (y2 : Int)] 123 (0, 0)) := set_blkL 2 _ (set_blkL 1 _ (set_blkL 0 _ hb0)); refine wpAnyZ_one' (i := 13) (by kernel_rfl) rfl (fun K hK => ?_); go_simp; refine hK.out _ _ (fun _ _ => ⟨grown_blk hgF H3.out.2.2.2.1, grown_blk hgF H3.out.1, hgF.block R (by have := H3.out.2.2.1.size; omega) (by simp)⟩) ?_; clear hK K; (try simp only [Act.put, List.setIfInBounds_toArray, List.set_cons_zero, List.set_cons_succ]); refine wpAnyZ_one' (i := 14) (by kernel_rfl) rfl (fun K hK => ?_); go_simp; refine hK.out _ _ (fun _ h => h) ?_; clear hK K; (try simp only [Act.put, List.setIfInBounds_toArray, List.set_cons_zero, List.set_cons_succ]); refine wpAnyZ_one' (i := 15) (by kernel_rfl) rfl (fun K hK => ?_); go_simp; refine hK.out _ _ (fun _ h => h) ?_; clear hK K; (try simp only [Act.put, List.setIfInBounds_toArray, List.set_cons_zero, List.set_cons_succ]); refine wpAnyZ_done (by kernel_rfl) ?_ _
      gi_wp2
      have hfne : W3.heap.size ≤ W3.heap.size := Nat.le_refl _; clear z0 z1 z2 zf0 zf1 zf2 hb0; generalize ((w1.setCell ⟨W3.heap.size, 0, none⟩ (.int .i64 (y0 : Int))).setCell ⟨W3.heap.size, 1, none⟩ (.int .i64 (y1 : Int))).setCell ⟨W3.heap.size, 2, none⟩ (.int .i64 (y2 : Int)) = W5 at hbF hgF ⊢; have H5 : Hid (W5.heap[Wz]? = some (.cells #[.int .i64 (ty : Int), .slice (some ⟨g, 0, none⟩) n cp] 85 (0, 0)) ∧ W5.heap[w.heap.size + 1]? = some (.cells #[.string nm, .slice (some ⟨b, 0, none⟩) len cap] 48 (0, 0)) ∧ W5.heap[W3.heap.size]? = some (.cells #[.int .i64 (y0 : Int), .int .i64 (y1 : Int), .int .i64 (y2 : Int)] 123 (0, 0))) := ⟨grown_blk hgF H3.out.1, grown_blk hgF H3.out.2.2.2.2.1, hbF⟩; have HR5 : Hid (W5.heap[w.heap.size + 1 + 1]? = some (.cells #[.bool false] 4 (0, 0)) ∧ W5.heap[w.heap.size + 4 + 1]? = some (.loop Lb) ∧ W5.heap[w.heap.size + 4]? = some (.deferred (some [])) ∧ w.grownBy W5 none) := ⟨grown_blk hgF H3.out.2.2.2.2.2.1, grown_blk hgF H3.out.2.1, grown_blk hgF H3.out.2.2.2.2.2.2.1, grownBy_trans H3.out.2.2.1 hgF⟩; have hc5 : W5.cell? ⟨w.heap.size + 1 + 1, 0, none⟩ = some (.bool false) := (cell_of_row W5 _ _ _ _ _ HR5.out.1).trans rfl
      have hf5 : W5.frozen? ⟨w.heap.size + 1 + 1, 0, none⟩ = false := by simp [World.frozen?, HR5.out.1]
      have HLZ5 : Hid (w.heap.size + 4 + 1 < W5.heap.size) := (Array.getElem?_eq_some_iff.1 HR5.out.2.1).1; clear hgF hbF
      have HFIN : Hid (∀ r : Bool, (r = true ↔ HeadP num (scan zs).1) → (W5.drew.setCell ⟨w.heap.size + 1 + 1, 0, none⟩ (.bool r)).heap[w.heap.size + 4 + 1]? = some (.loop Lb) ∧ ∃ Lq : Loop, ∃ bo : Bool, (Lq.pending = some .ret ∧ Lq.state = .done) ∧ ((W5.drew.setCell ⟨w.heap.size + 1 + 1, 0, none⟩ (.bool r)).putObj (w.heap.size + 4 + 1) (.loop Ld)).heap[w.heap.size + 4 + 1]? = some (.loop Lq) ∧ ((W5.drew.setCell ⟨w.heap.size + 1 + 1, 0, none⟩ (.bool r)).putObj (w.heap.size + 4 + 1) (.loop Ld)).heap[w.heap.size + 4]? = some (.deferred (some [])) ∧ ((W5.drew.setCell ⟨w.heap.size + 1 + 1, 0, none⟩ (.bool r)).putObj (w.heap.size + 4 + 1) (.loop Ld)).heap[w.heap.size + 2]? = some (.cells #[.bool bo] 4 (0, 0)) ∧ w.grownBy ((W5.drew.setCell ⟨w.heap.size + 1 + 1, 0, none⟩ (.bool r)).putObj (w.heap.size + 4 + 1) (.loop Ld)) none ∧ (bo = true ↔ HeadP num (scan zs).1)) := fun r hr => ⟨set_oth 0 (.bool r) (by omega) (show W5.drew.heap[w.heap.size + 4 + 1]? = _ from HR5.out.2.1), Ld, r, ⟨hLd1, hLd2⟩, World.putObj_heap_same (by simp [World.setCell]; exact HLZ5.out), (World.putObj_heap_other (by omega)).trans (set_oth 0 (.bool r) (by omega) (show W5.drew.heap[w.heap.size + 4]? = _ from HR5.out.2.2.1)), (World.putObj_heap_other (by omega)).trans (set_blk (W := W5.drew) 0 (.bool r) HR5.out.1), putObj_grown (grownBy_setNew (grownBy_drew HR5.out.2.2.2) (Nat.le_trans (Nat.le_succ _) (Nat.le_succ _))) (by omega), hr⟩
      cases bo with
      | false =>
        refine wpIn_region_Z (fun V => V.heap[Wz]? = some (.cells #[.int .i64 (ty : Int), .slice (some ⟨g, 0, none⟩) n cp] 85 (0, 0)) ∧ V.heap[w.heap.size + 1]? = some (.cells #[.string nm, .slice (some ⟨b, 0, none⟩) len cap] 48 (0, 0)) ∧ V.heap[W3.heap.size]? = some (.cells #[.int .i64 (y0 : Int), .int .i64 (y1 : Int), .int .i64 (y2 : Int)] 123 (0, 0))) (fun _ => false) (by kernel_rfl) (by kernel_rfl) (by rintro ⟨_, _, hq⟩; rcases hq with ⟨hq, _⟩ | ⟨hq, _⟩ <;> cases hq) ?_; have hS : W5.drew.heap[Wz]? = some (.cells #[.int .i64 (ty : Int), .slice (some ⟨g, 0, none⟩) n cp] 85 (0, 0)) ∧ W5.drew.heap[w.heap.size + 1]? = some (.cells #[.string nm, .slice (some ⟨b, 0, none⟩) len cap] 48 (0, 0)) ∧ W5.drew.heap[W3.heap.size]? = some (.cells #[.int .i64 (y0 : Int), .int .i64 (y1 : Int), .int .i64 (y2 : Int)] 123 (0, 0)) := H5.out; have hc5d : W5.drew.cell? ⟨w.heap.size + 1 + 1, 0, none⟩ = some (.bool false) := hc5; have hf5d : W5.drew.frozen? ⟨w.heap.size + 1 + 1, 0, none⟩ = false := hf5; refine wpAnyZ_take' (i := 0) (v := ?vz55) rfl (by kernel_rfl) (by kernel_rfl) (by kernel_rfl) (fun _ _ _ h => h) (Or.inl ⟨by rfl, ?yz55⟩) ?rz55
        case yz55 => (intro w _; go_simp; first | done | with_reducible rfl)
        simp only [Act.put, List.setIfInBounds_toArray, List.set_cons_zero, List.set_cons_succ]; refine wpAnyZ_take' (i := 1) (v := ?vz56) rfl (by kernel_rfl) (by kernel_rfl) (by kernel_rfl) (fun _ _ _ h => h) (Or.inl ⟨by rfl, ?yz56⟩) ?rz56
        case yz56 => (intro w _; go_simp; first | done | with_reducible rfl)
        simp only [Act.put, List.setIfInBounds_toArray, List.set_cons_zero, List.set_cons_succ]; refine wpAnyZ_take' (i := 2) (v := undef) rfl (by kernel_rfl) (by kernel_rfl) (by kernel_rfl) (fun _ _ _ h => h) (Or.inr ⟨by rfl, rfl⟩) ?_; simp only [Act.put, List.setIfInBounds_toArray, List.set_cons_zero, List.set_cons_succ]; refine wpAnyZ_take' (i := 3) (v := undef) rfl (by kernel_rfl) (by kernel_rfl) (by kernel_rfl) (fun _ _ _ h => h) (Or.inr ⟨by rfl, rfl⟩) ?_; simp only [Act.put, List.setIfInBounds_toArray, List.set_cons_zero, List.set_cons_succ]; refine wpAnyZ_take' (i := 4) (v := undef) rfl (by kernel_rfl) (by kernel_rfl) (by kernel_rfl) (fun _ _ _ h => h) (Or.inr ⟨by rfl, rfl⟩) ?_; simp only [Act.put, List.setIfInBounds_toArray, List.set_cons_zero, List.set_cons_succ]; refine wpAnyZ_take' (i := 5) (v := ?vz57) rfl (by kernel_rfl) (by kernel_rfl) (by kernel_rfl) (fun _ _ _ h => h) (Or.inl ⟨by rfl, ?yz57⟩) ?rz57
        case yz57 => (intro w _; go_simp; first | done | with_reducible rfl)
        simp only [Act.put, List.setIfInBounds_toArray, List.set_cons_zero, List.set_cons_succ]; refine wpAnyZ_take' (i := 6) (v := ?vz58) rfl (by kernel_rfl) (by kernel_rfl) (by kernel_rfl) (fun _ _ _ h => h) (Or.inl ⟨by rfl, ?yz58⟩) ?rz58
        case yz58 => (intro w _; go_simp; first | done | with_reducible rfl)
        simp only [Act.put, List.setIfInBounds_toArray, List.set_cons_zero, List.set_cons_succ]; refine wpAnyZ_take' (i := 7) (v := undef) rfl (by kernel_rfl) (by kernel_rfl) (by kernel_rfl) (fun _ _ _ h => h) (Or.inr ⟨by rfl, rfl⟩) ?_; simp only [Act.put, List.setIfInBounds_toArray, List.set_cons_zero, List.set_cons_succ]; refine wpAnyZ_take' (i := 8) (v := undef) rfl (by kernel_rfl) (by kernel_rfl) (by kernel_rfl) (fun _ _ _ h => h) (Or.inr ⟨by rfl, rfl⟩) ?_; simp only [Act.put, List.setIfInBounds_toArray, List.set_cons_zero, List.set_cons_succ]; refine wpAnyZ_take' (i := 9) (v := undef) rfl (by kernel_rfl) (by kernel_rfl) (by kernel_rfl) (fun _ _ _ h => h) (Or.inr ⟨by rfl, rfl⟩) ?_; simp only [Act.put, List.setIfInBounds_toArray, List.set_cons_zero, List.set_cons_succ]; refine wpAnyZ_take' (i := 10) (v := undef) rfl (by kernel_rfl) (by kernel_rfl) (by kernel_rfl) (fun _ _ _ h => h) (Or.inr ⟨by rfl, rfl⟩) ?_; simp only [Act.put, List.setIfInBounds_toArray, List.set_cons_zero, List.set_cons_succ]; refine wpAnyZ_take' (i := 11) (v := undef) rfl (by kernel_rfl) (by kernel_rfl) (by kernel_rfl) (fun _ _ _ h => h) (Or.inr ⟨by rfl, rfl⟩) ?_; simp only [Act.put, List.setIfInBounds_toArray, List.set_cons_zero, List.set_cons_succ]; refine wpAnyZ_take' (i := 12) (v := undef) rfl (by kernel_rfl) (by kernel_rfl) (by kernel_rfl) (fun _ _ _ h => h) (Or.inr ⟨by rfl, rfl⟩) ?_; simp only [Act.put, List.setIfInBounds_toArray, List.set_cons_zero, List.set_cons_succ]; refine wpAnyZ_take' (i := 13) (v := ?vz59) rfl (by kernel_rfl) (by kernel_rfl) (by kernel_rfl) (fun _ _ _ h => h) (Or.inl ⟨by rfl, ?yz59⟩) ?rz59
        case yz59 => (intro w _; go_simp; first | done | with_reducible rfl)
        simp only [Act.put, List.setIfInBounds_toArray, List.set_cons_zero, List.set_cons_succ]; refine wpAnyZ_one' (i := 14) (by kernel_rfl) rfl (fun K hK => ?_); go_simp; refine hK.out _ _ (fun _ h => ⟨set_oth 0 _ (by omega) h.1, set_oth 0 _ (by omega) h.2.1, set_oth 0 _ (by omega) h.2.2⟩) ?_; clear hK K; (try simp only [Act.put, List.setIfInBounds_toArray, List.set_cons_zero, List.set_cons_succ]); refine wpAnyZ_done (by kernel_rfl) ?_ _
        gi_wp2
        have hX := HFIN.out false (by
          obtain ⟨rest, hrest⟩ := HPR.out
          constructor
          · intro hc; cases hc
          · rintro ⟨t9, d9, r9, h9, h10, h11, h12⟩; rw [hrest] at h9; simp only [List.cons.injEq, Prod.mk.injEq] at h9; obtain ⟨⟨rfl, rfl⟩, -⟩ := h9
            exact absurd (HBO.out.1.2 h10) (by simp))
        first | exact .inr ⟨rfl, hX.1, HRR.out _ hX.2⟩ | exact ⟨hX.1, HRR.out _ hX.2⟩
      | true =>
        rcases Classical.em (ty = 1) with h1n | h1n
        · have dty : ((ty : Int) == 1) = true := by rw [beq_iff_eq]; omega
          have HTY : Hid (ty = 1) := h1n; clear h1n
          rcases Classical.em (y0 = num) with hyn | hyn
          · have HYN : Hid (y0 = num) := hyn
            have dy : ((y0 : Int) == (num : Int)) = true := by simp; omega
            clear hyn; refine wpIn_region_Z (fun V => V.heap[Wz]? = some (.cells #[.int .i64 (ty : Int), .slice (some ⟨g, 0, none⟩) n cp] 85 (0, 0)) ∧ V.heap[w.heap.size + 1]? = some (.cells #[.string nm, .slice (some ⟨b, 0, none⟩) len cap] 48 (0, 0)) ∧ V.heap[W3.heap.size]? = some (.cells #[.int .i64 (y0 : Int), .int .i64 (y1 : Int), .int .i64 (y2 : Int)] 123 (0, 0))) (fun _ => false) (by kernel_rfl) (by kernel_rfl) (by rintro ⟨_, _, hq⟩; rcases hq with ⟨hq, _⟩ | ⟨hq, _⟩ <;> cases hq) ?_; have hS : W5.drew.heap[Wz]? = some (.cells #[.int .i64 (ty : Int), .slice (some ⟨g, 0, none⟩) n cp] 85 (0, 0)) ∧ W5.drew.heap[w.heap.size + 1]? = some (.cells #[.string nm, .slice (some ⟨b, 0, none⟩) len cap] 48 (0, 0)) ∧ W5.drew.heap[W3.heap.size]? = some (.cells #[.int .i64 (y0 : Int), .int .i64 (y1 : Int), .int .i64 (y2 : Int)] 123 (0, 0)) := H5.out; have hc5d : W5.drew.cell? ⟨w.heap.size + 1 + 1, 0, none⟩ = some (.bool false) := hc5; have hf5d : W5.drew.frozen? ⟨w.heap.size + 1 + 1, 0, none⟩ = false := hf5; refine wpAnyZ_take' (i := 0) (v := ?vz68) rfl (by kernel_rfl) (by kernel_rfl) (by kernel_rfl) (fun _ _ _ h => h) (Or.inl ⟨by rfl, ?yz68⟩) ?rz68
            case yz68 => (intro w _; go_simp; first | done | with_reducible rfl)
            simp only [Act.put, List.setIfInBounds_toArray, List.set_cons_zero, List.set_cons_succ]; refine wpAnyZ_take' (i := 1) (v := ?vz69) rfl (by kernel_rfl) (by kernel_rfl) (by kernel_rfl) (fun _ _ _ h => h) (Or.inl ⟨by rfl, ?yz69⟩) ?rz69
            case yz69 => (intro w _; go_simp; first | done | with_reducible rfl)
            simp only [Act.put, List.setIfInBounds_toArray, List.set_cons_zero, List.set_cons_succ]; refine wpAnyZ_take' (i := 2) (v := ?vz70) rfl (by kernel_rfl) (by kernel_rfl) (by kernel_rfl) (fun _ _ _ h => h) (Or.inl ⟨by rfl, ?yz70⟩) ?rz70
            case yz70 => (intro w _; go_simp; first | done | with_reducible rfl)
            simp only [Act.put, List.setIfInBounds_toArray, List.set_cons_zero, List.set_cons_succ]; refine wpAnyZ_loadS (i := 3) (v := ?vz71) rfl (by kernel_rfl) (by kernel_rfl) (by kernel_rfl) (fun _ _ _ h => h) (fun _ => rfl) (Or.inl ⟨by rfl, ?yz71⟩) hS ?rz71
            case yz71 => (intro W hW; have c0 : W.cell? ⟨Wz, 0, none⟩ = some (.int .i64 (ty : Int)) := (cell_of_row W _ _ _ _ _ hW.1).trans rfl; go_simp; first | done | with_reducible rfl)
            simp only [Act.put, List.setIfInBounds_toArray, List.set_cons_zero, List.set_cons_succ]; refine wpAnyZ_take' (i := 4) (v := ?vz72) rfl (by kernel_rfl) (by kernel_rfl) (by kernel_rfl) (fun _ _ _ h => h) (Or.inl ⟨by rfl, ?yz72⟩) ?rz72
            case yz72 => (intro w _; go_simp; first | done | with_reducible rfl)
            simp only [Act.put, List.setIfInBounds_toArray, List.set_cons_zero, List.set_cons_succ]; refine wpAnyZ_take' (i := 5) (v := ?vz73) rfl (by kernel_rfl) (by kernel_rfl) (by kernel_rfl) (fun _ _ _ h => h) (Or.inl ⟨by rfl, ?yz73⟩) ?rz73
            case yz73 => (intro w _; go_simp; first | done | with_reducible rfl)
            simp only [Act.put, List.setIfInBounds_toArray, List.set_cons_zero, List.set_cons_succ]; refine wpAnyZ_take' (i := 6) (v := ?vz74) rfl (by kernel_rfl) (by kernel_rfl) (by kernel_rfl) (fun _ _ _ h => h) (Or.inl ⟨by rfl, ?yz74⟩) ?rz74
            case yz74 => (intro w _; go_simp; first | done | with_reducible rfl)
            simp only [Act.put, List.setIfInBounds_toArray, List.set_cons_zero, List.set_cons_succ]; refine wpAnyZ_take' (i := 7) (v := ?vz75) rfl (by kernel_rfl) (by kernel_rfl) (by kernel_rfl) (fun _ _ _ h => h) (Or.inl ⟨by rfl, ?yz75⟩) ?rz75
            case yz75 => (intro w _; go_simp; first | done | with_reducible rfl)
            simp only [Act.put, List.setIfInBounds_toArray, List.set_cons_zero, List.set_cons_succ]; refine wpAnyZ_loadS (i := 8) (v := ?vz76) rfl (by kernel_rfl) (by kernel_rfl) (by kernel_rfl) (fun _ _ _ h => h) (fun _ => rfl) (Or.inl ⟨by rfl, ?yz76⟩) hS ?rz76
            case yz76 => (intro W hW; have c0 : W.cell? ⟨W3.heap.size, 0, none⟩ = some (.int .i64 (y0 : Int)) := (cell_of_row W _ _ _ _ _ hW.2.2).trans rfl; go_simp; first | done | with_reducible rfl)
            simp only [Act.put, List.setIfInBounds_toArray, List.set_cons_zero, List.set_cons_succ]; refine wpAnyZ_take' (i := 9) (v := ?vz77) rfl (by kernel_rfl) (by kernel_rfl) (by kernel_rfl) (fun _ _ _ h => h) (Or.inl ⟨by rfl, ?yz77⟩) ?rz77
            case yz77 => (intro w _; go_simp; first | done | with_reducible rfl)
            simp only [Act.put, List.setIfInBounds_toArray, List.set_cons_zero, List.set_cons_succ]; refine wpAnyZ_loadS (i := 10) (v := ?vz78) rfl (by kernel_rfl) (by kernel_rfl) (by kernel_rfl) (fun _ _ _ h => h) (fun _ => rfl) (Or.inl ⟨by rfl, ?yz78⟩) hS ?rz78
            case yz78 => (intro W hW; have c0 : W.cell? ⟨w.heap.size + 1, 0, none⟩ = some (.string nm) := (cell_of_row W _ _ _ _ _ hW.2.1).trans rfl; go_simp; first | done | with_reducible rfl)
            simp only [Act.put, List.setIfInBounds_toArray, List.set_cons_zero, List.set_cons_succ]; refine wpAnyZ_one' (i := 11) (by kernel_rfl) rfl (fun K hK => ?_); go_simp; go_at_call 39; refine (HSEG.out _).mono ?_; rintro e w9 ⟨rfl, rfl⟩; refine hK.out _ _ (fun _ h => h) ?_; clear hK K; (try simp only [Act.put, List.setIfInBounds_toArray, List.set_cons_zero, List.set_cons_succ]); refine wpAnyZ_take' (i := 12) (v := ?vz79) rfl (by kernel_rfl) (by kernel_rfl) (by kernel_rfl) (fun _ _ _ h => h) (Or.inl ⟨by rfl, ?yz79⟩) ?rz79
            case yz79 => (intro w _; go_simp; first | done | with_reducible rfl)
            simp only [Act.put, List.setIfInBounds_toArray, List.set_cons_zero, List.set_cons_succ]; refine wpAnyZ_take' (i := 13) (v := ?vz80) rfl (by kernel_rfl) (by kernel_rfl) (by kernel_rfl) (fun _ _ _ h => h) (Or.inl ⟨by rfl, ?yz80⟩) ?rz80
            case yz80 => (intro w _; go_simp; first | done | with_reducible rfl)
            simp only [Act.put, List.setIfInBounds_toArray, List.set_cons_zero, List.set_cons_succ]; refine wpAnyZ_one' (i := 14) (by kernel_rfl) rfl (fun K hK => ?_); go_simp; refine hK.out _ _ (fun _ h => ⟨set_oth 0 _ (by omega) h.1, set_oth 0 _ (by omega) h.2.1, set_oth 0 _ (by omega) h.2.2⟩) ?_; clear hK K; (try simp only [Act.put, List.setIfInBounds_toArray, List.set_cons_zero, List.set_cons_succ]); refine wpAnyZ_done (by kernel_rfl) ?_ _
            gi_wp2
            have hX := HFIN.out true (by
              obtain ⟨rest, hrest⟩ := HPR.out
              refine ⟨fun _ => ⟨ty, data, rest, hrest, HBO.out.1.1 (by simp), HTY.out, (HBO.out.2 (by simp)).symm.trans HYN.out⟩, fun _ => rfl⟩)
            first | exact .inr ⟨rfl, hX.1, HRR.out _ hX.2⟩ | exact ⟨hX.1, HRR.out _ hX.2⟩
          · have dy : ((y0 : Int) == (num : Int)) = false := by simp; omega
            refine wpIn_region_Z (fun V => V.heap[Wz]? = some (.cells #[.int .i64 (ty : Int), .slice (some ⟨g, 0, none⟩) n cp] 85 (0, 0)) ∧ V.heap[w.heap.size + 1]? = some (.cells #[.string nm, .slice (some ⟨b, 0, none⟩) len cap] 48 (0, 0)) ∧ V.heap[W3.heap.size]? = some (.cells #[.int .i64 (y0 : Int), .int .i64 (y1 : Int), .int .i64 (y2 : Int)] 123 (0, 0))) (fun _ => false) (by kernel_rfl) (by kernel_rfl) (by rintro ⟨_, _, hq⟩; rcases hq with ⟨hq, _⟩ | ⟨hq, _⟩ <;> cases hq) ?_; have hS : W5.drew.heap[Wz]? = some (.cells #[.int .i64 (ty : Int), .slice (some ⟨g, 0, none⟩) n cp] 85 (0, 0)) ∧ W5.drew.heap[w.heap.size + 1]? = some (.cells #[.string nm, .slice (some ⟨b, 0, none⟩) len cap] 48 (0, 0)) ∧ W5.drew.heap[W3.heap.size]? = some (.cells #[.int .i64 (y0 : Int), .int .i64 (y1 : Int), .int .i64 (y2 : Int)] 123 (0, 0)) := H5.out; have hc5d : W5.drew.cell? ⟨w.heap.size + 1 + 1, 0, none⟩ = some (.bool false) := hc5; have hf5d : W5.drew.frozen? ⟨w.heap.size + 1 + 1, 0, none⟩ = false := hf5; refine wpAnyZ_take' (i := 0) (v := ?vz81) rfl (by kernel_rfl) (by kernel_rfl) (by kernel_rfl) (fun _ _ _ h => h) (Or.inl ⟨by rfl, ?yz81⟩) ?rz81
            case yz81 => (intro w _; go_simp; first | done | with_reducible rfl)
            simp only [Act.put, List.setIfInBounds_toArray, List.set_cons_zero, List.set_cons_succ]; refine wpAnyZ_take' (i := 1) (v := ?vz82) rfl (by kernel_rfl) (by kernel_rfl) (by kernel_rfl) (fun _ _ _ h => h) (Or.inl ⟨by rfl, ?yz82⟩) ?rz82
            case yz82 => (intro w _; go_simp; first | done | with_reducible rfl)
            simp only [Act.put, List.setIfInBounds_toArray, List.set_cons_zero, List.set_cons_succ]; refine wpAnyZ_take' (i := 2) (v := ?vz83) rfl (by kernel_rfl) (by kernel_rfl) (by kernel_rfl) (fun _ _ _ h => h) (Or.inl ⟨by rfl, ?yz83⟩) ?rz83
            case yz83 => (intro w _; go_simp; first | done | with_reducible rfl)
            simp only [Act.put, List.setIfInBounds_toArray, List.set_cons_zero, List.set_cons_succ]; refine wpAnyZ_loadS (i := 3) (v := ?vz84) rfl (by kernel_rfl) (by kernel_rfl) (by kernel_rfl) (fun _ _ _ h => h) (fun _ => rfl) (Or.inl ⟨by rfl, ?yz84⟩) hS ?rz84
            case yz84 => (intro W hW; have c0 : W.cell? ⟨Wz, 0, none⟩ = some (.int .i64 (ty : Int)) := (cell_of_row W _ _ _ _ _ hW.1).trans rfl; go_simp; first | done | with_reducible rfl)
            simp only [Act.put, List.setIfInBounds_toArray, List.set_cons_zero, List.set_cons_succ]; refine wpAnyZ_take' (i := 4) (v := ?vz85) rfl (by kernel_rfl) (by kernel_rfl) (by kernel_rfl) (fun _ _ _ h => h) (Or.inl ⟨by rfl, ?yz85⟩) ?rz85
            case yz85 => (intro w _; go_simp; first | done | with_reducible rfl)
            simp only [Act.put, List.setIfInBounds_toArray, List.set_cons_zero, List.set_cons_succ]; refine wpAnyZ_take' (i := 5) (v := ?vz86) rfl (by kernel_rfl) (by kernel_rfl) (by kernel_rfl) (fun _ _ _ h => h) (Or.inl ⟨by rfl, ?yz86⟩) ?rz86
            case yz86 => (intro w _; go_simp; first | done | with_reducible rfl)
            simp only [Act.put, List.setIfInBounds_toArray, List.set_cons_zero, List.set_cons_succ]; refine wpAnyZ_take' (i := 6) (v := ?vz87) rfl (by kernel_rfl) (by kernel_rfl) (by kernel_rfl) (fun _ _ _ h => h) (Or.inl ⟨by rfl, ?yz87⟩) ?rz87
            case yz87 => (intro w _; go_simp; first | done | with_reducible rfl)
            simp only [Act.put, List.setIfInBounds_toArray, List.set_cons_zero, List.set_cons_succ]; refine wpAnyZ_take' (i := 7) (v := ?vz88) rfl (by kernel_rfl) (by kernel_rfl) (by kernel_rfl) (fun _ _ _ h => h) (Or.inl ⟨by rfl, ?yz88⟩) ?rz88
            case yz88 => (intro w _; go_simp; first | done | with_reducible rfl)
            simp only [Act.put, List.setIfInBounds_toArray, List.set_cons_zero, List.set_cons_succ]; refine wpAnyZ_loadS (i := 8) (v := ?vz89) rfl (by kernel_rfl) (by kernel_rfl) (by kernel_rfl) (fun _ _ _ h => h) (fun _ => rfl) (Or.inl ⟨by rfl, ?yz89⟩) hS ?rz89
            case yz89 => (intro W hW; have c0 : W.cell? ⟨W3.heap.size, 0, none⟩ = some (.int .i64 (y0 : Int)) := (cell_of_row W _ _ _ _ _ hW.2.2).trans rfl; go_simp; first | done | with_reducible rfl)
            simp only [Act.put, List.setIfInBounds_toArray, List.set_cons_zero, List.set_cons_succ]; refine wpAnyZ_take' (i := 9) (v := ?vz90) rfl (by kernel_rfl) (by kernel_rfl) (by kernel_rfl) (fun _ _ _ h => h) (Or.inl ⟨by rfl, ?yz90⟩) ?rz90
            case yz90 => (intro w _; go_simp; first | done | with_reducible rfl)
            simp only [Act.put, List.setIfInBounds_toArray, List.set_cons_zero, List.set_cons_succ]; refine wpAnyZ_loadS (i := 10) (v := ?vz91) rfl (by kernel_rfl) (by kernel_rfl) (by kernel_rfl) (fun _ _ _ h => h) (fun _ => rfl) (Or.inl ⟨by rfl, ?yz91⟩) hS ?rz91
            case yz91 => (intro W hW; have c0 : W.cell? ⟨w.heap.size + 1, 0, none⟩ = some (.string nm) := (cell_of_row W _ _ _ _ _ hW.2.1).trans rfl; go_simp; first | done | with_reducible rfl)
            simp only [Act.put, List.setIfInBounds_toArray, List.set_cons_zero, List.set_cons_succ]; refine wpAnyZ_one' (i := 11) (by kernel_rfl) rfl (fun K hK => ?_); go_simp; go_at_call 39; refine (HSEG.out _).mono ?_; rintro e w9 ⟨rfl, rfl⟩; refine hK.out _ _ (fun _ h => h) ?_; clear hK K; (try simp only [Act.put, List.setIfInBounds_toArray, List.set_cons_zero, List.set_cons_succ]); refine wpAnyZ_take' (i := 12) (v := ?vz92) rfl (by kernel_rfl) (by kernel_rfl) (by kernel_rfl) (fun _ _ _ h => h) (Or.inl ⟨by rfl, ?yz92⟩) ?rz92
            case yz92 => (intro w _; go_simp; first | done | with_reducible rfl)
            simp only [Act.put, List.setIfInBounds_toArray, List.set_cons_zero, List.set_cons_succ]; refine wpAnyZ_take' (i := 13) (v := ?vz93) rfl (by kernel_rfl) (by kernel_rfl) (by kernel_rfl) (fun _ _ _ h => h) (Or.inl ⟨by rfl, ?yz93⟩) ?rz93
            case yz93 => (intro w _; go_simp; first | done | with_reducible rfl)
            simp only [Act.put, List.setIfInBounds_toArray, List.set_cons_zero, List.set_cons_succ]; refine wpAnyZ_one' (i := 14) (by kernel_rfl) rfl (fun K hK => ?_); go_simp; refine hK.out _ _ (fun _ h => ⟨set_oth 0 _ (by omega) h.1, set_oth 0 _ (by omega) h.2.1, set_oth 0 _ (by omega) h.2.2⟩) ?_; clear hK K; (try simp only [Act.put, List.setIfInBounds_toArray, List.set_cons_zero, List.set_cons_succ]); refine wpAnyZ_done (by kernel_rfl) ?_ _
            gi_wp2
            have hX := HFIN.out false (by
              obtain ⟨rest, hrest⟩ := HPR.out
              constructor
              · intro hc; cases hc
              · rintro ⟨t9, d9, r9, h9, h10, h11, h12⟩; rw [hrest] at h9; simp only [List.cons.injEq, Prod.mk.injEq] at h9; obtain ⟨⟨rfl, rfl⟩, -⟩ := h9
                exact absurd h12 (fun hc => hyn (by rw [HBO.out.2 (by simp)]; exact hc)))
            first | exact .inr ⟨rfl, hX.1, HRR.out _ hX.2⟩ | exact ⟨hX.1, HRR.out _ hX.2⟩
        · have dty : ((ty : Int) == 1) = false := by rw [beq_eq_false_iff_ne]; omega
          refine wpIn_region_Z (fun V => V.heap[Wz]? = some (.cells #[.int .i64 (ty : Int), .slice (some ⟨g, 0, none⟩) n cp] 85 (0, 0)) ∧ V.heap[w.heap.size + 1]? = some (.cells #[.string nm, .slice (some ⟨b, 0, none⟩) len cap] 48 (0, 0)) ∧ V.heap[W3.heap.size]? = some (.cells #[.int .i64 (y0 : Int), .int .i64 (y1 : Int), .int .i64 (y2 : Int)] 123 (0, 0))) (fun _ => false) (by kernel_rfl) (by kernel_rfl) (by rintro ⟨_, _, hq⟩; rcases hq with ⟨hq, _⟩ | ⟨hq, _⟩ <;> cases hq) ?_; have hS : W5.drew.heap[Wz]? = some (.cells #[.int .i64 (ty : Int), .slice (some ⟨g, 0, none⟩) n cp] 85 (0, 0)) ∧ W5.drew.heap[w.heap.size + 1]? = some (.cells #[.string nm, .slice (some ⟨b, 0, none⟩) len cap] 48 (0, 0)) ∧ W5.drew.heap[W3.heap.size]? = some (.cells #[.int .i64 (y0 : Int), .int .i64 (y1 : Int), .int .i64 (y2 : Int)] 123 (0, 0)) := H5.out; have hc5d : W5.drew.cell? ⟨w.heap.size + 1 + 1, 0, none⟩ = some (.bool false) := hc5; have hf5d : W5.drew.frozen? ⟨w.heap.size + 1 + 1, 0, none⟩ = false := hf5; refine wpAnyZ_take' (i := 0) (v := ?vz61) rfl (by kernel_rfl) (by kernel_rfl) (by kernel_rfl) (fun _ _ _ h => h) (Or.inl ⟨by rfl, ?yz61⟩) ?rz61
          case yz61 => (intro w _; go_simp; first | done | with_reducible rfl)
          simp only [Act.put, List.setIfInBounds_toArray, List.set_cons_zero, List.set_cons_succ]; refine wpAnyZ_take' (i := 1) (v := ?vz62) rfl (by kernel_rfl) (by kernel_rfl) (by kernel_rfl) (fun _ _ _ h => h) (Or.inl ⟨by rfl, ?yz62⟩) ?rz62
          case yz62 => (intro w _; go_simp; first | done | with_reducible rfl)
          simp only [Act.put, List.setIfInBounds_toArray, List.set_cons_zero, List.set_cons_succ]; refine wpAnyZ_take' (i := 2) (v := ?vz63) rfl (by kernel_rfl) (by kernel_rfl) (by kernel_rfl) (fun _ _ _ h => h) (Or.inl ⟨by rfl, ?yz63⟩) ?rz63
          case yz63 => (intro w _; go_simp; first | done | with_reducible rfl)
          simp only [Act.put, List.setIfInBounds_toArray, List.set_cons_zero, List.set_cons_succ]; refine wpAnyZ_loadS (i := 3) (v := ?vz60) rfl (by kernel_rfl) (by kernel_rfl) (by kernel_rfl) (fun _ _ _ h => h) (fun _ => rfl) (Or.inl ⟨by rfl, ?yz60⟩) hS ?rz60
          case yz60 => (intro W hW; have c0 : W.cell? ⟨Wz, 0, none⟩ = some (.int .i64 (ty : Int)) := (cell_of_row W _ _ _ _ _ hW.1).trans rfl; go_simp; first | done | with_reducible rfl)
          simp only [Act.put, List.setIfInBounds_toArray, List.set_cons_zero, List.set_cons_succ]; refine wpAnyZ_take' (i := 4) (v := ?vz64) rfl (by kernel_rfl) (by kernel_rfl) (by kernel_rfl) (fun _ _ _ h => h) (Or.inl ⟨by rfl, ?yz64⟩) ?rz64
          case yz64 => (intro w _; go_simp; first | done | with_reducible rfl)
          simp only [Act.put, List.setIfInBounds_toArray, List.set_cons_zero, List.set_cons_succ]; refine wpAnyZ_take' (i := 5) (v := ?vz65) rfl (by kernel_rfl) (by kernel_rfl) (by kernel_rfl) (fun _ _ _ h => h) (Or.inl ⟨by rfl, ?yz65⟩) ?rz65
          case yz65 => (intro w _; go_simp; first | done | with_reducible rfl)
          simp only [Act.put, List.setIfInBounds_toArray, List.set_cons_zero, List.set_cons_succ]; refine wpAnyZ_take' (i := 6) (v := ?vz66) rfl (by kernel_rfl) (by kernel_rfl) (by kernel_rfl) (fun _ _ _ h => h) (Or.inl ⟨by rfl, ?yz66⟩) ?rz66
          case yz66 => (intro w _; go_simp; first | done | with_reducible rfl)
          simp only [Act.put, List.setIfInBounds_toArray, List.set_cons_zero, List.set_cons_succ]; refine wpAnyZ_take' (i := 7) (v := undef) rfl (by kernel_rfl) (by kernel_rfl) (by kernel_rfl) (fun _ _ _ h => h) (Or.inr ⟨by rfl, rfl⟩) ?_; simp only [Act.put, List.setIfInBounds_toArray, List.set_cons_zero, List.set_cons_succ]; refine wpAnyZ_take' (i := 8) (v := undef) rfl (by kernel_rfl) (by kernel_rfl) (by kernel_rfl) (fun _ _ _ h => h) (Or.inr ⟨by rfl, rfl⟩) ?_; simp only [Act.put, List.setIfInBounds_toArray, List.set_cons_zero, List.set_cons_succ]; refine wpAnyZ_take' (i := 9) (v := undef) rfl (by kernel_rfl) (by kernel_rfl) (by kernel_rfl) (fun _ _ _ h => h) (Or.inr ⟨by rfl, rfl⟩) ?_; simp only [Act.put, List.setIfInBounds_toArray, List.set_cons_zero, List.set_cons_succ]; refine wpAnyZ_take' (i := 10) (v := undef) rfl (by kernel_rfl) (by kernel_rfl) (by kernel_rfl) (fun _ _ _ h => h) (Or.inr ⟨by rfl, rfl⟩) ?_; simp only [Act.put, List.setIfInBounds_toArray, List.set_cons_zero, List.set_cons_succ]; refine wpAnyZ_take' (i := 11) (v := undef) rfl (by kernel_rfl) (by kernel_rfl) (by kernel_rfl) (fun _ _ _ h => h) (Or.inr ⟨by rfl, rfl⟩) ?_; simp only [Act.put, List.setIfInBounds_toArray, List.set_cons_zero, List.set_cons_succ]; refine wpAnyZ_take' (i := 12) (v := undef) rfl (by kernel_rfl) (by kernel_rfl) (by kernel_rfl) (fun _ _ _ h => h) (Or.inr ⟨by rfl, rfl⟩) ?_; simp only [Act.put, List.setIfInBounds_toArray, List.set_cons_zero, List.set_cons_succ]; refine wpAnyZ_take' (i := 13) (v := ?vz67) rfl (by kernel_rfl) (by kernel_rfl) (by kernel_rfl) (fun _ _ _ h => h) (Or.inl ⟨by rfl, ?yz67⟩) ?rz67
          case yz67 => (intro w _; go_simp; first | done | with_reducible rfl)
          simp only [Act.put, List.setIfInBounds_toArray, List.set_cons_zero, List.set_cons_succ]; refine wpAnyZ_one' (i := 14) (by kernel_rfl) rfl (fun K hK => ?_); go_simp; refine hK.out _ _ (fun _ h => ⟨set_oth 0 _ (by omega) h.1, set_oth 0 _ (by omega) h.2.1, set_oth 0 _ (by omega) h.2.2⟩) ?_; clear hK K; (try simp only [Act.put, List.setIfInBounds_toArray, List.set_cons_zero, List.set_cons_succ]); refine wpAnyZ_done (by kernel_rfl) ?_ _
          gi_wp2
          have hX := HFIN.out false (by
            obtain ⟨rest, hrest⟩ := HPR.out
            constructor
            · intro hc; cases hc
            · rintro ⟨t9, d9, r9, h9, h10, h11, h12⟩; rw [hrest] at h9; simp only [List.cons.injEq, Prod.mk.injEq] at h9; obtain ⟨⟨rfl, rfl⟩, -⟩ := h9
              exact absurd h11 h1n)
          first | exact .inr ⟨rfl, hX.1, HRR.out _ hX.2⟩ | exact ⟨hX.1, HRR.out _ hX.2⟩
  · rintro e W' ⟨⟨ve, rfl⟩, ⟨⟨hp, hl3, hD3, -, -, hR3, hgw, hsz'⟩, -⟩ | ⟨Lq, bo, ⟨hq1, hq2⟩, hl3, hD3, hR3, hgw, hiff⟩⟩
    · have hpn : L0.pending = none := by rw [← hL]; rfl
      have hbz : L0.state ≠ .busy := by rw [← hL]; simp [loopRec]
      have hrun := (run_endLoop (P := Tryz.prog) hl3 hbz).trans (congrArg (fun q => Result.ok q (W'.putObj (w.heap.size + 4 + 1) (.loop { L0 with state := .exhausted }))) hpn); refine ⟨none, W'.putObj (w.heap.size + 4 + 1) (.loop { L0 with state := .exhausted }), hrun, ?_⟩; have hg4 : w.grownBy (W'.putObj (w.heap.size + 4 + 1) (.loop { L0 with state := .exhausted })) none := putObj_grown hgw (by omega); have hR4 : (W'.putObj (w.heap.size + 4 + 1) (.loop { L0 with state := .exhausted })).heap[w.heap.size + 1 + 1]? = some (.cells #[.bool false] 4 (0, 0)) := (World.putObj_heap_other (by omega)).trans hR3; have hD4 : (W'.putObj (w.heap.size + 4 + 1) (.loop { L0 with state := .exhausted })).heap[w.heap.size + 4]? = some (.deferred (some [])) := (World.putObj_heap_other (by omega)).trans hD3; generalize W'.putObj (w.heap.size + 4 + 1) (.loop { L0 with state := .exhausted }) = W4 at hg4 hR4 hD4 ⊢; have c4 : W4.cell? ⟨w.heap.size + 1 + 1, 0, none⟩ = some (.bool false) := (cell_of_row W4 _ _ _ _ _ hR4).trans rfl
      have f4 : W4.frozen? ⟨w.heap.size + 1 + 1, 0, none⟩ = false := by simp [World.frozen?, hR4]
      have HP : Hid ((scan zs).1 = [] ∧ w.grownBy W4 none ∧ W4.heap[w.heap.size + 4]? = some (.deferred (some [])) ∧ W4.heap[w.heap.size + 1 + 1]? = some (.cells #[.bool false] 4 (0, 0))) := ⟨hp, hg4, hD4, hR4⟩; clear hrun hl3 hpn hbz hL hl1 hD1 hp hg4 hR4 hD4 hD3 hR3 hgw; go_wp2; obtain ⟨k1, k2, k3, k4⟩ := HP.out; have hb5 : (W4.setCell ⟨w.heap.size + 1 + 1, 0, none⟩ (.bool false)).heap[w.heap.size + 1 + 1]? = some (.cells #[.bool false] 4 (0, 0)) := set_blk 0 _ k4; have hd5 : (W4.setCell ⟨w.heap.size + 1 + 1, 0, none⟩ (.bool false)).heap[w.heap.size + 4]? = some (.deferred (some [])) := set_oth 0 _ (by omega) k3; have hg5 : w.grownBy (W4.setCell ⟨w.heap.size + 1 + 1, 0, none⟩ (.bool false)) none := grownBy_setNew k2 (Nat.le_trans (Nat.le_succ _) (Nat.le_succ _)); generalize W4.setCell ⟨w.heap.size + 1 + 1, 0, none⟩ (.bool false) = W5 at hb5 hd5 hg5 ⊢; refine ⟨by simp, .inl ⟨_, _, rfl, run_takeDeferred (w := W5) hd5, ?_⟩⟩; have hb6 : (W5.putObj (w.heap.size + 4) (.deferred none)).heap[w.heap.size + 1 + 1]? = some (.cells #[.bool false] 4 (0, 0)) := (World.putObj_heap_other (by omega)).trans hb5; have c6 : (W5.putObj (w.heap.size + 4) (.deferred none)).cell? ⟨w.heap.size + 1 + 1, 0, none⟩ = some (.bool false) := (cell_of_row _ _ _ _ _ _ hb6).trans rfl; refine ⟨.bool false, by simp [results, Tryz.results40, go_sem, c6], false, rfl, ⟨fun hc => (by cases hc), fun ⟨_, _, _, hc, _⟩ => (by rw [k1] at hc; cases hc)⟩, putObj_grown hg5 (by omega)⟩
    · have hrun := (run_endLoop (P := Tryz.prog) hl3 (by rw [hq2]; simp)).trans (congrArg (fun q => Result.ok q (W'.putObj (w.heap.size + 4 + 1) (.loop { Lq with state := .exhausted }))) hq1); refine ⟨some .ret, W'.putObj (w.heap.size + 4 + 1) (.loop { Lq with state := .exhausted }), hrun, ?_⟩; have hg4 : w.grownBy (W'.putObj (w.heap.size + 4 + 1) (.loop { Lq with state := .exhausted })) none := putObj_grown hgw (by omega); have hR4 : (W'.putObj (w.heap.size + 4 + 1) (.loop { Lq with state := .exhausted })).heap[w.heap.size + 1 + 1]? = some (.cells #[.bool bo] 4 (0, 0)) := (World.putObj_heap_other (by omega)).trans hR3; have hD4 : (W'.putObj (w.heap.size + 4 + 1) (.loop { Lq with state := .exhausted })).heap[w.heap.size + 4]? = some (.deferred (some [])) := (World.putObj_heap_other (by omega)).trans hD3; generalize W'.putObj (w.heap.size + 4 + 1) (.loop { Lq with state := .exhausted }) = W5 at hg4 hR4 hD4 ⊢; clear hrun hl3 hL hl1 hD1 hD3 hR3 hgw; refine wpIn_wide.2 ?_; go_wp2; refine ⟨by simp, .inl ⟨_, _, rfl, run_takeDeferred (w := W5) hD4, ?_⟩⟩; have hb6 : (W5.putObj (w.heap.size + 4) (.deferred none)).heap[w.heap.size + 1 + 1]? = some (.cells #[.bool bo] 4 (0, 0)) := (World.putObj_heap_other (by omega)).trans hR4; have c6 : (W5.putObj (w.heap.size + 4) (.deferred none)).cell? ⟨w.heap.size + 1 + 1, 0, none⟩ = some (.bool bo) := (cell_of_row _ _ _ _ _ _ hb6).trans rfl; exact ⟨.bool bo, by simp [results, Tryz.results40, go_sem, c6], bo, rfl, hiff, putObj_grown hg4 (by omega)⟩
theorem Tryz.infoSeg : (Tryz.prog.info? 67).map (fun i => (i.zero, i.size, i.bytes)) = some (some (.agg #[.int .i64 0, .int .i64 0]), 2, 16) := by kernel_rfl
/-- the records of a segment, one after the other -/
def rsteps (num : Nat) (fst : Bool) : Pl → Bool → List (Nat × List Nat) → Option Pl
  | p, _, [] => some p
  | p, hd, r :: rs => (wstep p num fst hd r.1 r.2).bind fun p' => rsteps num fst p' false rs
theorem rsteps_append (num : Nat) (fst : Bool) : ∀ (rs ss : List (Nat × List Nat)) (p : Pl) (hd : Bool), rsteps num fst p hd (rs ++ ss) = (rsteps num fst p hd rs).bind fun p' => rsteps num fst p' (hd && rs.isEmpty) ss
  | [], ss, p, hd => by simp [rsteps]
  | r :: rs, ss, p, hd => by
    simp only [List.cons_append, rsteps]
    cases h : wstep p num fst hd r.1 r.2 with
    | none => simp
    | some p' => simp only [Option.bind_some]; rw [rsteps_append num fst rs ss p' false]; simp
theorem rows_cell {w w' : World} {R B k o : Nat} {v : Value} (h : RowsW w R B w') (hc : w.cell? ⟨k, o, none⟩ = some v) (hk : k < B) (hR : k ≠ R) : w'.cell? ⟨k, o, none⟩ = some v :=
  (World.cell?_of_block (w := w) (a := ⟨k, o, none⟩) (h.block k (cell_block_lt hc) (by rintro (h1 | ⟨h1, -⟩) <;> omega))).trans hc
theorem rows_slb {w w' : World} {R B b off len : Nat} {zs : List Nat} (h : RowsW w R B w') (hs : SlB w (some ⟨b, off, none⟩) len zs) (hk : b < B) (hR : b ≠ R) : SlB w' (some ⟨b, off, none⟩) len zs := by
  obtain ⟨h1, h2, h3⟩ := hs; refine ⟨h1, h2, fun hn => ?_⟩; obtain ⟨b', off', he, hc⟩ := h3 hn
  obtain ⟨rfl, rfl⟩ : b = b' ∧ off = off' := by simpa using he
  exact ⟨b, off, rfl, fun i hi => rows_cell h (hc i hi) hk hR⟩
theorem rows_tab {w w' : World} {R B : Nat} (h : RowsW w R B w') (ht : Tab w) (hk : 13 < B) (hR : 13 ≠ R) : Tab w' := fun r hr => rows_cell h (ht r hr) hk hR
theorem rows_forms {w w' : World} {R B S : Nat} (h : RowsW w R B w') (hf : Forms w S) (hR : ∀ ty, 1 ≤ ty → ty ≤ 7 → S + (ty - 1) ≠ R) : Forms w' S := fun ty h1 h7 =>
  h.keep (hf ty h1 h7) (hR ty h1 h7) (.inr (fun c t f e => by injection e with _ e _; subst e; decide))
/-- a block that the log does not own -/
structure Off (L : Lg) (R k : Nat) : Prop where
  box : k ≠ R
  ev : L.ev.ownBlock ≠ some k
  sv : L.sv.ownBlock ≠ some k
  da : ∀ e ∈ L.E, e.g ≠ k
theorem LogIn.off {w : World} {R B k : Nat} {tl : List Value} {L : Lg} (h : LogIn w R B tl L) {o : Obj} (ho : w.heap[k]? = some o) (hR : k ≠ R) (ht : ∀ cur t f, o = .cells cur t f → t ≠ 47 ∧ t ≠ 67 ∧ t ≠ 5) : Off L R k := by
  refine ⟨hR, fun hc => ?_, fun hc => ?_, fun e he hc => ?_⟩
  · obtain ⟨cur, h1⟩ := owns_type h.ent hc; exact (ht _ _ _ (Option.some.inj (ho.symm.trans h1))).1 rfl
  · obtain ⟨cur, h1⟩ := owns_type h.seg hc; exact (ht _ _ _ (Option.some.inj (ho.symm.trans h1))).2.1 rfl
  · subst hc; obtain ⟨-, cur, h1, -⟩ := (h.own e he).2.1; exact (ht _ _ _ (Option.some.inj (ho.symm.trans h1))).2.2 rfl
theorem owns_off {w w' : World} {B e n k : Nat} {v : Value} {xs : List Value} (h : w.ownsRow B e 2 v n xs) (hg : w.grownBy w' (some k)) (hk : v.ownBlock ≠ some k) : w'.ownsRow B e 2 v n xs := World.ownsRow.kept h hg (.inr hk)
theorem LogIn.grownOff {w w' : World} {R B k : Nat} {tl : List Value} {L : Lg} (h : LogIn w R B tl L) (hg : w.grownBy w' (some k)) (ho : Off L R k) : LogIn w' R B tl L :=
  ⟨(hg.block R (Array.getElem?_eq_some_iff.1 h.box).1 (by simp; exact fun e => ho.box e.symm)).trans h.box, owns_off h.ent hg ho.ev, fun e he => ⟨(h.own e he).1, (h.own e he).2.1.grown hg (by simp; exact ho.da e he), (h.own e he).2.2⟩, h.apart, owns_off h.seg hg ho.sv, h.low, h.sm⟩
/-- a segment more -/
theorem LogIn.push {w w' w'' : World} {R B : Nat} {tl : List Value} {L : Lg} {v' : Value} {num : Nat} (h : LogIn w R B tl L) (hlen : L.S.length + 1 ≤ 1000)
    (hown : w'.ownsRow B 67 2 v' (L.S.length + 1) (L.S.flatMap sgCells ++ [.int .i64 (num : Int), .int .i64 0])) (hg : w.grownBy w' L.sv.ownBlock) (hw'' : w'' = w'.setCell ⟨R, 3, none⟩ v') : LogIn w'' R B tl { L with S := L.S ++ [(num, 0)], sv := v' } ∧ RowsW w R B w'' := by
  subst hw''; have hlow := h.low
  have hbk : ∀ (k : Nat) (cur : Array Value) (t : TypeId) (f : Nat × Nat), w.heap[k]? = some (Obj.cells cur t f) → t ≠ 67 → w'.heap[k]? = w.heap[k]? := by
    intro k cur t f hk ht'; refine hg.block k (Array.getElem?_eq_some_iff.1 hk).1 (fun hc => ?_); obtain ⟨cur', hk'⟩ := owns_type h.seg hc.symm; rw [hk'] at hk; have := Option.some.inj hk
    injection this with _ h9 _
    exact ht' h9.symm
  have hR' : w'.heap[R]? = w.heap[R]? := hbk R _ _ _ h.box (by decide)
  have hoth : ∀ k, k ≠ R → (w'.setCell ⟨R, 3, none⟩ v').heap[k]? = w'.heap[k]? := fun k hk => heap_setCell_other w' ⟨R, 3, none⟩ k _ hk
  refine ⟨⟨box_set (j := 3) (v := v') (hR'.trans h.box), ?_, ?_, h.apart, ?_, h.low, ⟨h.sm.1, h.sm.2.1, by simpa using hlen, h.sm.2.2.2⟩⟩, (RowsW.of_row hg h.seg (.inr rfl)).trans (RowsW.of_box (grownBy_setCell (grownBy_refl _ _)))⟩
  · obtain ⟨hl', h1 | ⟨g', cap, cur, h1, hb', hg', h2⟩⟩ := h.ent
    · exact ⟨hl', .inl h1⟩
    · exact ⟨hl', .inr ⟨g', cap, cur, h1, hb', ((hoth g' (by omega)).trans (hbk g' _ _ _ hg' (by decide))).trans hg', h2⟩⟩
  · intro e he; have ho := (h.own e he).2.1; have ho' := ho; obtain ⟨-, cur, hgc, -⟩ := ho; exact ⟨(h.own e he).1, ho'.of_block ((hoth e.g (by have := (h.own e he).1; omega)).trans (hbk e.g _ _ _ hgc (by decide))), (h.own e he).2.2⟩
  · have e1 : (L.S ++ [(num, 0)]).length = L.S.length + 1 := by simp
    show World.ownsRow _ B _ 2 v' (L.S ++ [(num, 0)]).length ((L.S ++ [(num, 0)]).flatMap sgCells)
    rw [e1, flat_last]; exact owns_set hown h.low
/-- an append of one element of two cells, as a step of a drawn region -/
theorem step_append2 {w : World} {ops : Array Oper} {o : Oper} {a : Act} {K : Act → World → Prop} {Q : Exit → Act → World → Prop} {E : Prop} (hgd : o.guard = none) (s x : Operand) (t e : TypeId) (ho : o.op = .call { callee := .builtin .append, args := #[s, x], argTypes := #[t, t] })
    (ht : Tryz.prog.underlying t = some (.slice e)) {z : Value} {bytes : Nat} (hinf : (Tryz.prog.info? e).map (fun i => (i.zero, i.size, i.bytes)) = some (some z, 2, bytes)) (hzc : z.cells.size = 2)
    {B : Nat} {v : Value} {n : Nat} {xs : List Value} (hs : a.eval s = v) (hown : w.ownsRow B e 2 v n xs) {ad : Addr} {c : Nat} {news : List Value} (hx : a.eval x = .slice (some ad) 1 c) (hnl : news.length = 2) (hnew : ∀ j u, news[j]? = some u → w.cell? (ad.add j) = some u) (hone : ∀ u ∈ news, u.oneCell' = true)
    (hby : bytes ≤ 32) (hn : n ≤ 1048576) (hB : B ≤ w.heap.size)
    (h : ∀ v' w', w'.ownsRow B e 2 v' (n + 1) (xs ++ news) → w.grownBy w' v.ownBlock → K (a.put o.dst v') w') : if Region.wanted o (yielded ops a.tmps) = true then Oper.wp Tryz.prog o a w K Q else E := by
  have hw : Region.wanted o (yielded ops a.tmps) = true := by simp [Region.wanted, hgd]
  rw [if_pos hw]; obtain ⟨i0, hi, hz0, hz1, hz2⟩ := info_parts hinf; obtain ⟨v', w', hrun, h1, h2, -⟩ := run_append_own (P := Tryz.prog) w B t o.type e i0 z 2 bytes ht hi hz0 hz1 hz2 hzc (by decide) v n xs hown ad 1 c news (by simpa using hnl) hnew hone (by unfold maxLen; omega) (Nat.le_trans (Nat.mul_le_mul_left (n + 1) hby) (by omega)) hB
  unfold Oper.wp
  simp [execOp, ho, resolve, invoke, builtin, hs, hx, hrun, Result.andThen]
  exact h v' w' h1 h2
theorem LogIn.kept2 {w w' : World} {R B : Nat} {tl : List Value} {L : Lg} (h : LogIn w R B tl L) (hk : ∀ (k : Nat) (cur : Array Value) (t : TypeId) (f : Nat × Nat), w.heap[k]? = some (Obj.cells cur t f) → w'.heap[k]? = some (Obj.cells cur t f)) : LogIn w' R B tl L := by
  have ho : ∀ {e n : Nat} {v : Value} {xs : List Value}, w.ownsRow B e 2 v n xs → w'.ownsRow B e 2 v n xs := by
    rintro e n v xs ⟨hl', h1 | ⟨g', cap, cur, h1, hb', hg', h2⟩⟩
    · exact ⟨hl', .inl h1⟩
    · exact ⟨hl', .inr ⟨g', cap, cur, h1, hb', hk _ _ _ _ hg', h2⟩⟩
  refine ⟨hk _ _ _ _ h.box, ho h.ent, fun e he => ⟨(h.own e he).1, ?_, (h.own e he).2.2⟩, h.apart, ho h.seg, h.low, h.sm⟩; have h1 := (h.own e he).2.1; refine h1.of_block ?_; obtain ⟨-, cur, hg, -⟩ := h1; rw [hg, hk _ _ _ _ hg]
theorem LogIn.putLoop {w : World} {R B l : Nat} {tl : List Value} {L : Lg} (h : LogIn w R B tl L) {r : Loop} (hl : w.heap[l]? = some (.loop r)) (o : Obj) : LogIn (w.putObj l o) R B tl L :=
  h.kept2 (fun k cur t f hk => (World.putObj_heap_other (fun e => by subst e; rw [hl] at hk; cases hk)).trans hk)
theorem rows_new {a b c : World} {R B k : Nat} (h : RowsW a R B b) (hg : b.grownBy c (some k)) (hk : a.heap.size ≤ k) : RowsW a R B c :=
  ⟨hg.os.trans h.os, hg.tape.trans h.tape, hg.output.trans h.output, Nat.le_trans h.size hg.size, fun i hi hT => (hg.block i (Nat.lt_of_lt_of_le hi h.size) (by simp; omega)).trans (h.block i hi hT)⟩
theorem rows_grown {a b c : World} {R B : Nat} (h : RowsW a R B b) (hg : b.grownBy c none) : RowsW a R B c :=
  ⟨hg.os.trans h.os, hg.tape.trans h.tape, hg.output.trans h.output, Nat.le_trans h.size hg.size, fun i hi hT => (hg.block i (Nat.lt_of_lt_of_le hi h.size) (by simp)).trans (h.block i hi hT)⟩
theorem rows_put {a b : World} {R B k : Nat} {o : Obj} (h : RowsW a R B b) (hk : a.heap.size ≤ k) : RowsW a R B (b.putObj k o) :=
  ⟨h.os, h.tape, h.output, by simpa using h.size, fun i hi hT => (World.putObj_heap_other (by omega)).trans (h.block i hi hT)⟩
theorem rows_set {a b : World} {R B k j : Nat} {v : Value} (h : RowsW a R B b) (hk : a.heap.size ≤ k) : RowsW a R B (b.setCell ⟨k, j, none⟩ v) :=
  rows_new h (grownBy_setCell (grownBy_refl _ _)) hk
/-- the boxes of a readSegment that began in a world of n blocks -/
structure SegBox (W : World) (n R : Nat) (nm : ByteArray) (b len cap : Nat) : Prop where
  ptr : W.heap[n]? = some (.cells #[.pointer (some ⟨R, 0, none⟩)] 118 (0, 0))
  fil : W.heap[n + 1]? = some (.cells #[.string nm, .slice (some ⟨b, 0, none⟩) len cap] 48 (0, 0))
  ri : W.heap[n + 1 + 1]? = some (.cells #[.int .i64 0] 3 (0, 0))
  re : W.heap[n + 1 + 1 + 1]? = some (.cells #[.nilIface] 62 (0, 0))
theorem SegBox.kept {W W' : World} {n R b len cap : Nat} {nm : ByteArray} (h : SegBox W n R nm b len cap) (hk : ∀ k, n ≤ k → k ≤ n + 3 → W'.heap[k]? = W.heap[k]?) : SegBox W' n R nm b len cap :=
  ⟨(hk _ (by omega) (by omega)).trans h.ptr, (hk _ (by omega) (by omega)).trans h.fil, (hk _ (by omega) (by omega)).trans h.ri, (hk _ (by omega) (by omega)).trans h.re⟩
theorem SegBox.rows {W W' : World} {n R B b len cap : Nat} {nm : ByteArray} (h : SegBox W n R nm b len cap) (hr : RowsW W R B W') (hR : R < n) : SegBox W' n R nm b len cap :=
  ⟨hr.keep h.ptr (by omega) (.inr (fun c t f e => by injection e with _ e _; subst e; decide)), hr.keep h.fil (by omega) (.inr (fun c t f e => by injection e with _ e _; subst e; decide)), hr.keep h.ri (by omega) (.inr (fun c t f e => by injection e with _ e _; subst e; decide)), hr.keep h.re (by omega) (.inr (fun c t f e => by injection e with _ e _; subst e; decide))⟩
theorem SegBox.grown {W W' : World} {n R b len cap k : Nat} {nm : ByteArray} (h : SegBox W n R nm b len cap) (hg : W.grownBy W' (some k)) (hk : n + 3 < k) : SegBox W' n R nm b len cap :=
  h.kept (fun i h1 h2 => hg.block i (by have := (Array.getElem?_eq_some_iff.1 h.re).1; omega) (by simp; omega))
theorem SegBox.grown0 {W W' : World} {n R b len cap : Nat} {nm : ByteArray} (h : SegBox W n R nm b len cap) (hg : W.grownBy W' none) : SegBox W' n R nm b len cap :=
  h.kept (fun i h1 h2 => hg.block i (by have := (Array.getElem?_eq_some_iff.1 h.re).1; omega) (by simp))
theorem SegBox.put {W : World} {n R b len cap k : Nat} {o : Obj} {nm : ByteArray} (h : SegBox W n R nm b len cap) (hk : n + 3 < k) : SegBox (W.putObj k o) n R nm b len cap :=
  h.kept (fun i _ h2 => World.putObj_heap_other (by omega))
/-- ahead of a record -/
def SegJ (w : World) (S R B : Nat) (kp dr : Int) (L : Lg) (num Z : Nat) (L0 : Loop) (nm : ByteArray) (b len cap : Nat) (pre : List (Nat × List Nat)) (W : World) : Prop :=
  ∃ (L' : Lg) (f' : Nat), rsteps num (decide (L.S = [])) L.pl true pre = some L'.pl ∧ LogIn W R B (formCs S ++ [.int .i64 kp, .int .i64 dr]) L' ∧ L'.S = L.S ++ [(num, f')] ∧ (f' = 0 ↔ pre = []) ∧ Off L' R Z ∧ SegBox W w.heap.size R nm b len cap ∧ W.heap[Z + 1 + 1]? = some (.loop L0) ∧ W.heap[Z + 1]? = some (.deferred (some [])) ∧ RowsW w R B W ∧ Z + 3 ≤ W.heap.size
/-- behind one that may not be -/
def SegK (w : World) (R B : Nat) (L : Lg) (num Z : Nat) (ad : Addr) (zs : List Nat) (W : World) : Prop :=
  ∃ Lq : Loop, (Lq.pending = some .ret ∧ Lq.state = .done) ∧ W.heap[Z + 1 + 1]? = some (.loop Lq) ∧ W.heap[Z + 1]? = some (.deferred (some [])) ∧ W.heap[w.heap.size + 1 + 1]? = some (.cells #[.int .i64 0] 3 (0, 0)) ∧ W.heap[w.heap.size + 1 + 1 + 1]? = some (.cells #[.iface 177 (.pointer (some ad))] 62 (0, 0)) ∧ RowsW w R B W ∧ rsteps num (decide (L.S = [])) L.pl true (scan zs).1 = none
theorem SegJ.grown {w : World} {S R B : Nat} {kp dr : Int} {L : Lg} {num Z : Nat} {L0 : Loop} {nm : ByteArray} {b len cap : Nat} {pre : List (Nat × List Nat)} {W W' : World} (h : SegJ w S R B kp dr L num Z L0 nm b len cap pre W) (hg : W.grownBy W' (some Z)) (hZ : w.heap.size + 3 < Z) : SegJ w S R B kp dr L num Z L0 nm b len cap pre W' := by
  obtain ⟨L', f', h1, h2, h3, h4, h5, h6, h7, h8, h9, h10⟩ := h; exact ⟨L', f', h1, h2.grownOff hg h5, h3, h4, h5, h6.grown hg hZ, (hg.block _ (by omega) (by simp; try omega)).trans h7, (hg.block _ (by omega) (by simp; try omega)).trans h8, rows_new h9 hg (by omega), Nat.le_trans h10 hg.size⟩
theorem SegJ.slb {w : World} {S R B : Nat} {kp dr : Int} {L : Lg} {num Z : Nat} {L0 : Loop} {nm : ByteArray} {b len cap : Nat} {pre : List (Nat × List Nat)} {W : World} (h : SegJ w S R B kp dr L num Z L0 nm b len cap pre W) {zs : List Nat} (hs : SlB w (some ⟨b, 0, none⟩) len zs) (h1 : b < B) (h2 : b ≠ R) : SlB W (some ⟨b, 0, none⟩) len zs := by
  obtain ⟨_, _, _, _, _, _, _, _, _, _, h9, _⟩ := h; exact rows_slb h9 hs h1 h2
theorem SegJ.tab {w : World} {S R B : Nat} {kp dr : Int} {L : Lg} {num Z : Nat} {L0 : Loop} {nm : ByteArray} {b len cap : Nat} {pre : List (Nat × List Nat)} {W : World} (h : SegJ w S R B kp dr L num Z L0 nm b len cap pre W) (hs : Tab w) (h1 : 13 < B) (h2 : 13 ≠ R) : Tab W := by
  obtain ⟨_, _, _, _, _, _, _, _, _, _, h9, _⟩ := h; exact rows_tab h9 hs h1 h2
theorem rsteps_more {num : Nat} {fst : Bool} {p p' : Pl} {pre : List (Nat × List Nat)} {ty : Nat} {d : List Nat} (h : rsteps num fst p true pre = some p') : rsteps num fst p true (pre ++ [(ty, d)]) = wstep p' num fst (decide (pre = [])) ty d := by
  rw [rsteps_append, h]; simp only [Option.bind_some, rsteps, Bool.true_and]
  have : pre.isEmpty = decide (pre = []) := by cases pre <;> simp
  rw [this]
  cases wstep p' num fst (decide (pre = [])) ty d <;> rfl
theorem rsteps_none {num : Nat} {fst : Bool} {p : Pl} {pre recs : List (Nat × List Nat)} (hp : pre <+: recs) (h : rsteps num fst p true pre = none) : rsteps num fst p true recs = none := by
  obtain ⟨t, rfl⟩ := hp; rw [rsteps_append, h]
  rfl
/-- both results stored -/
structure SegEnd (w W X : World) (R B : Nat) (ad : Addr) : Prop where
  ri : X.heap[w.heap.size + 1 + 1]? = some (.cells #[.int .i64 0] 3 (0, 0))
  re : X.heap[w.heap.size + 1 + 1 + 1]? = some (.cells #[.iface 177 (.pointer (some ad))] 62 (0, 0))
  oth : ∀ k, k ≠ w.heap.size + 1 + 1 → k ≠ w.heap.size + 1 + 1 + 1 → X.heap[k]? = W.heap[k]?
  rows : RowsW w R B X
theorem segEnd1 {w W : World} {R B b len cap : Nat} {nm : ByteArray} {ad : Addr} (hx : SegBox W w.heap.size R nm b len cap) (hr : RowsW w R B W) : SegEnd w W ((W.setCell ⟨w.heap.size + 1 + 1, 0, none⟩ (.int .i64 0)).setCell ⟨w.heap.size + 1 + 1 + 1, 0, none⟩ (.iface 177 (.pointer (some ad)))) R B ad :=
  ⟨set_oth 0 _ (by omega) (set_blk 0 _ hx.ri), set_blk 0 _ (set_oth 0 _ (by omega) hx.re), fun k h1 h2 => (heap_setCell_other _ ⟨w.heap.size + 1 + 1 + 1, 0, none⟩ k _ h2).trans (heap_setCell_other _ ⟨w.heap.size + 1 + 1, 0, none⟩ k _ h1), rows_set (rows_set hr (by omega)) (by omega)⟩
theorem segEnd2 {w W : World} {R B b len cap : Nat} {nm : ByteArray} {ad : Addr} (hx : SegBox W w.heap.size R nm b len cap) (hr : RowsW w R B W) : SegEnd w W ((W.setCell ⟨w.heap.size + 1 + 1 + 1, 0, none⟩ (.iface 177 (.pointer (some ad)))).setCell ⟨w.heap.size + 1 + 1, 0, none⟩ (.int .i64 0)) R B ad :=
  ⟨set_blk 0 _ (set_oth 0 _ (by omega) hx.ri), set_oth 0 _ (by omega) (set_blk 0 _ hx.re), fun k h1 h2 => (heap_setCell_other _ ⟨w.heap.size + 1 + 1, 0, none⟩ k _ h1).trans (heap_setCell_other _ ⟨w.heap.size + 1 + 1 + 1, 0, none⟩ k _ h2), rows_set (rows_set hr (by omega)) (by omega)⟩
theorem SegEnd.drewX {w W X : World} {R B : Nat} {ad : Addr} (h : SegEnd w W X R B ad) : SegEnd w W X.drew R B ad := ⟨h.ri, h.re, h.oth, ⟨h.rows.os, h.rows.tape, h.rows.output, h.rows.size, h.rows.block⟩⟩
theorem SegEnd.leaves {w W X : World} {R B num Z : Nat} {L : Lg} {ad : Addr} {zs : List Nat} {Lb Ld : Loop} (h : SegEnd w W X R B ad) (hl : W.heap[Z + 1 + 1]? = some (.loop Lb)) (hd : W.heap[Z + 1]? = some (.deferred (some []))) (hZ : w.heap.size + 3 < Z) (h1 : Ld.pending = some .ret) (h2 : Ld.state = .done) (hn : rsteps num (decide (L.S = [])) L.pl true (scan zs).1 = none) :
    X.heap[Z + 1 + 1]? = some (.loop Lb) ∧ SegK w R B L num Z ad zs (X.putObj (Z + 1 + 1) (.loop Ld)) := by
  have hlX := (h.oth (Z + 1 + 1) (by omega) (by omega)).trans hl; refine ⟨hlX, Ld, ⟨h1, h2⟩, World.putObj_heap_same (Array.getElem?_eq_some_iff.1 hlX).1, ?_, ?_, ?_, rows_put h.rows (by omega), hn⟩
  · exact (World.putObj_heap_other (by omega)).trans ((h.oth (Z + 1) (by omega) (by omega)).trans hd)
  · exact (World.putObj_heap_other (by omega)).trans h.ri
  · exact (World.putObj_heap_other (by omega)).trans h.re
/-- the box's last numbers -/
theorem LogIn.setKeep {w : World} {S R B : Nat} {kp dr : Int} {L : Lg} (h : LogIn w R B (formCs S ++ [.int .i64 kp, .int .i64 dr]) L) (v : Int) : LogIn (w.setCell ⟨R, 28, none⟩ (.int .i64 v)) R B (formCs S ++ [.int .i64 v, .int .i64 dr]) L := by
  have hl := h.low
  have hoth : ∀ j, j ≠ R → (w.setCell ⟨R, 28, none⟩ (.int .i64 v)).heap[j]? = w.heap[j]? := fun j hj => heap_setCell_other w ⟨R, 28, none⟩ j _ hj
  exact ⟨box_set (j := 28) h.box, owns_set h.ent h.low, fun e he => ⟨(h.own e he).1, (h.own e he).2.1.of_block (hoth _ (by have := (h.own e he).1; omega)), (h.own e he).2.2⟩, h.apart, owns_set h.seg h.low, h.low, h.sm⟩
theorem LogIn.setDrop {w : World} {S R B : Nat} {kp dr : Int} {L : Lg} (h : LogIn w R B (formCs S ++ [.int .i64 kp, .int .i64 dr]) L) (v : Int) : LogIn (w.setCell ⟨R, 29, none⟩ (.int .i64 v)) R B (formCs S ++ [.int .i64 kp, .int .i64 v]) L := by
  have hl := h.low
  have hoth : ∀ j, j ≠ R → (w.setCell ⟨R, 29, none⟩ (.int .i64 v)).heap[j]? = w.heap[j]? := fun j hj => heap_setCell_other w ⟨R, 29, none⟩ j _ hj
  exact ⟨box_set (j := 29) h.box, owns_set h.ent h.low, fun e he => ⟨(h.own e he).1, (h.own e he).2.1.of_block (hoth _ (by have := (h.own e he).1; omega)), (h.own e he).2.2⟩, h.apart, owns_set h.seg h.low, h.low, h.sm⟩
end Go.Proofs.YtjnegjgpkboocaaGreatDoor
