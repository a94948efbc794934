/-
  ReadS, Ses, El, Item
-/
import Derived.Test.YtdajcpcajdhplaaDoorSvc1
import Derived.Test.YtdajcpcajdhplaaDoorSvc2
import Derived.Deep.RegionWith
/-
  A state being read from its front: take, takeLong, number, bytes, walked.
-/
namespace Go.Proofs.YtdajcpcajdhplaaDoor
open Go.RowKit

/-- what is read lies in block r: the rest, and whether it is wrong -/
def Rd (w : World) (r b off len cap : Nat) (wr : Bool) : Prop := w.heap[r]? = some (.cells #[.slice (some ⟨b, off, none⟩) len cap, .bool wr] 78 (0, 0))
theorem Rd.cells {w : World} {r b off len cap : Nat} {wr : Bool} (h : Rd w r b off len cap wr) : w.cell? ⟨r, 0, none⟩ = some (.slice (some ⟨b, off, none⟩) len cap) ∧ w.cell? ⟨r, 1, none⟩ = some (.bool wr) ∧ w.frozen? ⟨r, 0, none⟩ = false ∧ w.frozen? ⟨r, 1, none⟩ = false := by
  unfold Rd at h
  simp [World.cell?, World.frozen?, h]
theorem Rd.lt {w : World} {r b off len cap : Nat} {wr : Bool} (h : Rd w r b off len cap wr) : r < w.heap.size := (Array.getElem?_eq_some_iff.1 h).1
theorem Rd.set1 {w : World} {r b off len cap : Nat} {wr : Bool} (h : Rd w r b off len cap wr) (x : Bool) : Rd (w.setCell ⟨r, 1, none⟩ (.bool x)) r b off len cap x := heap_setCell_same w r 1 _ _ _ h
theorem Rd.set0 {w : World} {r b off len cap b' off' len' cap' : Nat} {wr : Bool} (h : Rd w r b off len cap wr) : Rd (w.setCell ⟨r, 0, none⟩ (.slice (some ⟨b', off', none⟩) len' cap')) r b' off' len' cap' wr := heap_setCell_same w r 0 _ _ _ h
theorem Rd.grown {w w' : World} {row : Option Nat} {r b off len cap : Nat} {wr : Bool} (h : Rd w r b off len cap wr) (hg : w.grownBy w' row) (hne : some r ≠ row) : Rd w' r b off len cap wr := (hg.block r h.lt hne).trans h
theorem Rd.heap {w w' : World} {r b off len cap : Nat} {wr : Bool} (h : Rd w r b off len cap wr) (hh : w'.heap = w.heap) : Rd w' r b off len cap wr := by unfold Rd at *; rw [hh]; exact h

set_option maxHeartbeats 400000 in
theorem take_no (r b off len cap n : Nat) (wr : Bool) (w : World) (hR : Rd w r b off len cap wr) (h : wr = true ∨ len < n) :
    Calls Tryd.prog 65 #[.pointer (some ⟨r, 0, none⟩), .int .i64 (n : Int)] w fun e w' => e = .returned (.slice none 0 0) ∧ Rd w' r b off len cap true ∧ w.grownBy w' (some r) := by
  obtain ⟨c0, c1, f0, f1⟩ := hR.cells; have HR : Hid (Rd w r b off len cap wr) := hR; clear hR
  cases wr
  · have hl : (len : Int) < (n : Int) := by rcases h with h | h; · cases h
                                            · omega
    clear h
    go_enter Tryd.func65, Tryd.ntmps65
    go_wp2; go_ret; exact ⟨rfl, HR.out.set1 true, grownBy_setCell (grownBy_refl _ _)⟩
  · clear h
    go_enter Tryd.func65, Tryd.ntmps65
    go_wp2; go_ret; exact ⟨rfl, HR.out.set1 true, grownBy_setCell (grownBy_refl _ _)⟩
set_option maxHeartbeats 400000 in
theorem take_ok (r b off len cap n : Nat) (w : World) (hR : Rd w r b off len cap false) (hn : n ≤ len) (hlc : len ≤ cap) (hm : cap ≤ maxLen) :
    Calls Tryd.prog 65 #[.pointer (some ⟨r, 0, none⟩), .int .i64 (n : Int)] w fun e w' => e = .returned (.slice (some ⟨b, off, none⟩) n cap) ∧ (∃ off', (off' = off ∧ len = n ∨ off' = off + n) ∧ Rd w' r b off' (len - n) (cap - n) false) ∧ w.grownBy w' (some r) := by
  unfold maxLen at hm
  obtain ⟨c0, c1, f0, f1⟩ := hR.cells; have HR : Hid (Rd w r b off len cap false) := hR
  have z1 : (n : Int) ≤ (len : Int) := by omega
  have z2 : (len : Int) ≤ (cap : Int) := by omega
  have z3 : (n : Int) ≤ (cap : Int) := by omega
  have z4 : (0 : Int) ≤ (n : Int) := by omega
  clear hR
  by_cases hc : cap = n
  · obtain rfl : n = cap := hc.symm
    obtain rfl : len = n := by omega
    go_enter Tryd.func65, Tryd.ntmps65
    go_wp2; go_ret; exact ⟨rfl, .inl HR.out.set0, grownBy_setCell (grownBy_refl _ _)⟩
  · go_enter Tryd.func65, Tryd.ntmps65
    go_wp2; go_ret; exact ⟨rfl, ⟨off + n, .inr rfl, HR.out.set0⟩, grownBy_setCell (grownBy_refl _ _)⟩
theorem grownBy_toSome {a b : World} {s : Nat} (h : a.grownBy b none) : a.grownBy b (some s) := ⟨h.os, h.tape, h.output, h.size, fun k hk _ => h.block k hk (by simp)⟩
theorem wrapU64 (n : Int) : IntKind.u64.wrap n = n % 18446744073709551616 := by simp [IntKind.wrap, IntKind.bits, IntKind.signed]
theorem leVal_append (a b : List Nat) : leVal (a ++ b) = leVal a + 256 ^ a.length * leVal b := by
  induction a with
  | nil => simp [leVal]
  | cons x a ih => simp only [List.cons_append, leVal, ih, List.length_cons, Nat.pow_succ]; rw [Nat.mul_add, ← Nat.mul_assoc]; have : 256 * 256 ^ a.length = 256 ^ a.length * 256 := Nat.mul_comm _ _; rw [this]; omega
set_option maxRecDepth 4000 in
set_option maxHeartbeats 800000 in
theorem takeLong_any (b off cap : Nat) (zs : List Nat) (w : World) (hsl : SlB w (some ⟨b, off, none⟩) 8 zs) (hc : 8 ≤ cap) (hm : cap ≤ maxLen) :
    Calls Tryd.prog 66 #[.slice (some ⟨b, off, none⟩) 8 cap] w fun e w' => e = .returned (.int .u64 ((leVal zs : Nat) : Int)) ∧ Same w w' := by
  unfold maxLen at hm
  have hl : zs.length = 8 := hsl.1; obtain ⟨x, hx⟩ : ∃ x, leVal (zs.take 4) = x := ⟨_, rfl⟩; obtain ⟨y, hy⟩ : ∃ y, leVal ((zs.drop 4).take 4) = y := ⟨_, rfl⟩
  have x4 : x < 4294967296 := by rw [← hx]; exact val4_lt _ (fun z hz => hsl.2.1 z (List.mem_of_mem_take hz)) (by simp; omega)
  have y4 : y < 4294967296 := by rw [← hy]; exact val4_lt _ (fun z hz => hsl.2.1 z (List.mem_of_mem_drop (List.mem_of_mem_take hz))) (by simp; omega)
  have HV : Hid (leVal zs = x + 4294967296 * y) := by
    show _ = _
    have e := leVal_append (zs.take 4) (zs.drop 4); rw [List.take_append_drop, hx, List.length_take, hl] at e; rw [e, ← hy, drop_take_all zs 4 4 (by omega)]
    rfl
  have H1 : Hid (∀ w', w'.heap = w.heap → Calls Tryd.prog 30 #[.slice (some ⟨b, off, none⟩) 8 cap] w' fun e w'' => e = .returned (.int .u32 (x : Int)) ∧ w'' = w') := by
    intro w' hw'; have := takeNumber_any (some ⟨b, off, none⟩) 8 cap zs w' (hsl.heap hw') (by decide) (by decide); rw [hx] at this; exact this
  have H2 : Hid (∀ w', w'.heap = w.heap → Calls Tryd.prog 30 #[.slice (some ⟨b, off + 4, none⟩) 4 (cap - 4)] w' fun e w'' => e = .returned (.int .u32 (y : Int)) ∧ w'' = w') := by
    intro w' hw'; have h9 := takeNumber_any (some ⟨b, off + 4, none⟩) 4 (cap - 4) ((zs.drop 4).take 4) w' ((slb_cut hsl 4 4 (by decide)).heap hw') (by decide) (by decide); rw [List.take_take, show min 4 4 = 4 from rfl, hy] at h9; exact h9
  have z1 : ¬ cap = 4 := by omega
  have z2 : (8 : Int) ≤ (cap : Int) := by omega
  have z3 : (4 : Int) ≤ (cap : Int) := by omega
  have e0 : IntKind.u64.wrap (x : Int) = x := by rw [wrapU64]; omega
  have e1 : IntKind.u64.wrap (y : Int) = y := by rw [wrapU64]; omega
  have e2 : IntKind.u64.wrap ((y : Int) * 4294967296) = (y : Int) * 4294967296 := by rw [wrapU64]; omega
  have e3 : bits .or .u64 (x : Int) ((y : Int) * 4294967296) = ((x + 4294967296 * y : Nat) : Int) := by
    have := or_add x y 32 (by omega); rw [show (y : Int) * 4294967296 = ((y * 4294967296 : Nat) : Int) by omega, u64_or_nat x (y * 4294967296) (by omega) (by omega)]; rw [show y * 4294967296 = y * 2 ^ 32 by rfl, this]; simp; omega
  clear hsl hx hy
  go_enter Tryd.func66, Tryd.ntmps66
  go_wp2
  go_quiet (first | (go_at_call 30; first | (refine calls_args (args := #[.slice (some ⟨b, off, none⟩) 8 cap]) (by rfl) ?_; refine Calls.quiet_of_same (H1.out _ rfl)) | (refine calls_args (args := #[.slice (some ⟨b, off + 4, none⟩) 4 (cap - 4)]) (by rfl) ?_; refine Calls.quiet_of_same (H2.out _ rfl))) | fail)
  go_wp2; go_ret
  have HVI : ((leVal zs : Nat) : Int) = (x : Int) + 4294967296 * (y : Int) := by rw [HV.out]; omega
  exact ⟨by rw [HVI]; rfl, rfl, rfl, rfl, rfl⟩
theorem slb_same {w w' : World} {r b off len : Nat} {zs : List Nat} (h : SlB w (some ⟨b, off, none⟩) len zs) (hg : w.grownBy w' (some r)) (hb : b < w.heap.size) (hne : b ≠ r) : SlB w' (some ⟨b, off, none⟩) len zs := by
  obtain ⟨h1, h2, h3⟩ := h; refine ⟨h1, h2, fun hn => ?_⟩; obtain ⟨b', off', he, hc⟩ := h3 hn; refine ⟨b', off', he, fun i hi => ?_⟩; simp only [Option.some.injEq, Addr.mk.injEq, and_true] at he; obtain ⟨rfl, rfl⟩ := he; have hblk := hg.block b hb (by simp only [ne_eq, Option.some.injEq]; omega); have := hc i hi
  unfold World.cell? at this ⊢
  rw [hblk]; exact this
theorem slb_drop {w : World} {b off off' len n : Nat} {zs : List Nat} (h : SlB w (some ⟨b, off, none⟩) len zs) (hn : n ≤ len) (ho : off' = off ∧ len = n ∨ off' = off + n) : SlB w (some ⟨b, off', none⟩) (len - n) (zs.drop n) := by
  rcases ho with ⟨rfl, rfl⟩ | rfl
  · have hz : zs.length = len := h.1; rw [Nat.sub_self, List.drop_of_length_le (by omega)]; exact ⟨rfl, by simp, fun h => absurd rfl h⟩
  · have h1 := slb_cut h n (len - n) (by omega)
    rwa [drop_take_all zs n (len - n) (by rw [h.1]; omega)] at h1
/-- what reading leaves: the rest is what lies behind what was read, unless it is wrong -/
def Left (w0 w : World) (r b len : Nat) (wr wr' : Bool) (zs' : List Nat) : Prop :=
  ∃ off' len' cap', Rd w r b off' len' cap' wr' ∧ SlB w (some ⟨b, off', none⟩) len' zs' ∧ len' ≤ len ∧ len' ≤ cap' ∧ cap' ≤ maxLen ∧ w0.grownBy w (some r) ∧ (wr = true → wr' = true)
set_option maxHeartbeats 800000 in
theorem number_any (r b off len cap : Nat) (wr : Bool) (zs : List Nat) (w : World) (hR : Rd w r b off len cap wr) (hsl : SlB w (some ⟨b, off, none⟩) len zs) (hb : b < w.heap.size) (hne : b ≠ r) (hlc : len ≤ cap) (hm : cap ≤ maxLen) :
    Calls Tryd.prog 39 #[.pointer (some ⟨r, 0, none⟩)] w fun e w' => ∃ (v : Nat) (wr' : Bool) (zs' : List Nat), e = .returned (.int .i64 (v : Int)) ∧ v ≤ 1000000000 ∧ Left w w' r b len wr wr' zs' ∧
      (wr' = false → zs = leN v 8 ++ zs') ∧ (∀ v0 t, wr = false → zs = leN v0 8 ++ t → v0 ≤ 1000000000 → wr' = false) := by
  have hl : zs.length = len := hsl.1; have hz : ∀ z ∈ zs, z < 256 := hsl.2.1
  by_cases hno : wr = true ∨ len < 8
  · have HT := take_no r b off len cap 8 wr w hR hno; have HS : Hid (SlB w (some ⟨b, off, none⟩) len zs ∧ zs.length = len) := ⟨hsl, hl⟩; clear hR hsl hl hz
    go_enter Tryd.func39, Tryd.ntmps39
    go_wp2_with fail; refine HT.mono ?_; clear HT; rintro e w1 ⟨rfl, hR1, hG1⟩; obtain ⟨c0, c1, f0, f1⟩ := hR1.cells; have R : Hid (Rd w1 r b off len cap true ∧ w.grownBy w1 (some r)) := ⟨hR1, hG1⟩; clear hR1 hG1; go_wp2; go_ret; refine ⟨0, true, zs, rfl, by decide, ⟨off, len, cap, R.out.1, slb_same HS.out.1 R.out.2 hb hne, Nat.le_refl _, hlc, hm, R.out.2, fun _ => rfl⟩, fun h => (by cases h), fun v0 t h1 h2 _ => ?_⟩
    exfalso
    rcases hno with h3 | h3
    · rw [h1] at h3; cases h3
    · have := HS.out.2; rw [h2, List.length_append, leN_len] at this
      omega
  · obtain rfl : wr = false := by cases wr with
      | false => rfl
      | true => exact absurd (.inl rfl) hno
    have h8 : 8 ≤ len := by omega
    have HT := take_ok r b off len cap 8 w hR h8 hlc hm; obtain ⟨v, hv⟩ : ∃ v, leVal (zs.take 8) = v := ⟨_, rfl⟩
    have hlt : (zs.take 8).length = 8 := by simp; omega
    have hv64 : v < 18446744073709551616 := by
      have := leVal_lt (zs.take 8) (fun z hz' => hz z (List.mem_of_mem_take hz')); rw [hlt, hv] at this
      simpa using this
    have HV : Hid (zs = leN v 8 ++ zs.drop 8) := by
      show _ = _
      rw [← hv, leN_leVal _ (fun z hz' => hz z (List.mem_of_mem_take hz')) 8 hlt, List.take_append_drop]
    have HS : Hid (SlB w (some ⟨b, off, none⟩) len zs) := hsl; clear hR hsl hl hz hno
    go_enter Tryd.func39, Tryd.ntmps39
    go_wp2_with fail; refine HT.mono ?_; clear HT; rintro e w1 ⟨rfl, ⟨off', ho, hR1⟩, hG1⟩; obtain ⟨c0, c1, f0, f1⟩ := hR1.cells; have R : Hid (Rd w1 r b off' (len - 8) (cap - 8) false ∧ w.grownBy w1 (some r) ∧ SlB w1 (some ⟨b, off', none⟩) (len - 8) (zs.drop 8)) := ⟨hR1, hG1, slb_same (slb_drop HS.out h8 ho) hG1 hb hne⟩; have HK : Hid (Calls _ _ _ _ _) := takeLong_any b off cap (zs.take 8) w1 (by have := slb_same HS.out hG1 hb hne; have h9 := slb_cut this 0 8 (by omega); simpa using h9) (by omega) hm; rw [hv] at HK; clear hR1 hG1 hlt hv; go_wp2_with fail; refine HK.out.mono ?_; rintro e w2 ⟨rfl, hs2⟩; have hs2h := hs2.1; have R2 : Hid (Rd w2 r b off' (len - 8) (cap - 8) false ∧ w.grownBy w2 (some r) ∧ SlB w2 (some ⟨b, off', none⟩) (len - 8) (zs.drop 8)) := ⟨R.out.1.heap hs2.1, grownBy_same R.out.2.1 hs2, R.out.2.2.heap hs2.1⟩; obtain ⟨d0, d1, g0, g1⟩ := R2.out.1.cells; clear hs2 hs2h R HK c0 c1 f0 f1
    by_cases hbig : 1000000000 < v
    · have hb1 : (1000000000 : Int) < (v : Int) := by omega
      go_wp2; go_ret; refine ⟨0, true, zs.drop 8, rfl, by decide, ⟨off', len - 8, cap - 8, R2.out.1.set1 true, ?_, by omega, by omega, by omega, grownBy_setCell R2.out.2.1, fun _ => rfl⟩, fun h => (by cases h), fun v0 t _ h2 h3 => ?_⟩
      · exact slb_same R2.out.2.2 (grownBy_setCell (grownBy_refl w2 (some r))) (Nat.lt_of_lt_of_le hb R2.out.2.1.size) hne
      · exfalso
        have h4 := HV.out; rw [h4] at h2; have := (num_inj (show v < P64 by unfold P64; simpa using hv64) (show v0 < P64 by unfold P64; omega) h2).1
        omega
    · have hb1 : (v : Int) ≤ 1000000000 := by omega
      have hb2 : IntKind.i64.wrap (v : Int) = v := IntWalk.i64_in _ (by omega); go_wp2; go_ret; exact ⟨v, false, zs.drop 8, by first | rfl | (rw [hb2]; rfl), by omega, ⟨off', len - 8, cap - 8, R2.out.1, R2.out.2.2, by omega, by omega, by omega, R2.out.2.1, fun h => h⟩, fun _ => HV.out, fun _ _ _ _ _ => rfl⟩
theorem bclone_nil (w : World) : Calls Tryd.prog 54 #[.slice none 0 0] w fun e w' => e = .returned (.slice none 0 0) ∧ w' = w := by
  have heq : ∀ w', (binOp .eql 22 (.slice none 0 0) (.slice none 0 0)).run Tryd.prog w' = .ok (.bool true) w' := fun w' => Lib.run_eql_slice_nil_nil w' 0 0 Tryd.underlying22
  go_enter Tryd.func54, Tryd.ntmps54
  go_wp2; go_ret; exact ⟨rfl, rfl⟩
/-- a block's beginning, or nothing -/
def oad (o : Option Nat) : Option Addr := o.map fun g => ⟨g, 0, none⟩
set_option maxHeartbeats 800000 in
theorem rbytes_any (r b off len cap n : Nat) (wr : Bool) (zs : List Nat) (w : World) (hR : Rd w r b off len cap wr) (hsl : SlB w (some ⟨b, off, none⟩) len zs) (hb : b < w.heap.size) (hne : b ≠ r) (hlc : len ≤ cap) (hm : cap ≤ maxLen) (hlen : len ≤ 1073741824) :
    Calls Tryd.prog 40 #[.pointer (some ⟨r, 0, none⟩), .int .i64 (n : Int)] w fun e w' => ∃ (o : Option Nat) (m cp : Nat) (d : List Nat) (wr' : Bool) (zs' : List Nat), e = .returned (.slice (oad o) m cp) ∧ OwnS w' 5 (oad o) m d ∧ (o = none → cp = 0) ∧ (∀ g, o = some g → w.heap.size ≤ g) ∧ Left w w' r b len wr wr' zs' ∧
      (wr' = false → m = n ∧ zs = d ++ zs') ∧ (wr = false → n ≤ len → wr' = false) ∧ m ≤ 1073741824 := by
  by_cases hno : wr = true ∨ len < n
  · have HT := take_no r b off len cap n wr w hR hno; have HS : Hid (SlB w (some ⟨b, off, none⟩) len zs) := hsl; clear hR hsl
    go_enter Tryd.func40, Tryd.ntmps40
    go_wp2_with fail; refine HT.mono ?_; clear HT; rintro e w1 ⟨rfl, hR1, hG1⟩; have R : Hid (Rd w1 r b off len cap true ∧ w.grownBy w1 (some r)) := ⟨hR1, hG1⟩; clear hR1 hG1; go_wp2_with fail; refine (bclone_nil w1).mono ?_; rintro e w2 ⟨rfl, rfl⟩; go_wp2; go_ret; refine ⟨none, 0, 0, [], true, zs, rfl, OwnS.none _ _, fun _ => rfl, fun g h => (by cases h), ⟨off, len, cap, R.out.1, slb_same HS.out R.out.2 hb hne, Nat.le_refl _, hlc, hm, R.out.2, fun _ => rfl⟩, fun h => (by cases h), fun h1 h2 => ?_, by decide⟩
    exfalso
    rcases hno with h3 | h3
    · rw [h1] at h3; cases h3
    · omega
  · obtain rfl : wr = false := by cases wr with
      | false => rfl
      | true => exact absurd (.inl rfl) hno
    have hn : n ≤ len := by omega
    have HT := take_ok r b off len cap n w hR hn hlc hm; have HS : Hid (SlB w (some ⟨b, off, none⟩) len zs) := hsl; have hrl := hR.lt; clear hR hsl hno
    go_enter Tryd.func40, Tryd.ntmps40
    go_wp2_with fail; refine HT.mono ?_; clear HT; rintro e w1 ⟨rfl, ⟨off', ho, hR1⟩, hG1⟩; have R : Hid (Rd w1 r b off' (len - n) (cap - n) false ∧ w.grownBy w1 (some r) ∧ SlB w1 (some ⟨b, off', none⟩) (len - n) (zs.drop n)) := ⟨hR1, hG1, slb_same (slb_drop HS.out hn ho) hG1 hb hne⟩; have HK : Hid (Calls _ _ _ _ _) := bclone_some ⟨b, off, none⟩ n cap (zs.take n) w1 (by have h9 := slb_cut (slb_same HS.out hG1 hb hne) 0 n (by omega); simpa using h9) (by omega); clear hR1 hG1; go_wp2_with fail; refine HK.out.mono ?_; rintro e w2 ⟨g, cp, rfl, hg, hO, hG⟩
    have R2 : Hid (OwnS w2 5 (some ⟨g, 0, none⟩) n (zs.take n) ∧ w.heap.size ≤ g ∧ Left w w2 r b len false false (zs.drop n)) :=
      ⟨hO.s (by rw [List.length_take, HS.out.1]; omega), Nat.le_trans R.out.2.1.size hg, off', len - n, cap - n, R.out.1.grown hG (by simp), R.out.2.2.grown0 hG, by omega, by omega, by unfold maxLen at *; omega, grownBy_trans R.out.2.1 (grownBy_toSome hG), fun h => h⟩
    clear hO hG hg R HK; go_wp2; go_ret; exact ⟨some g, n, cp, zs.take n, false, zs.drop n, rfl, R2.out.1, fun h => (by cases h), fun g' h => (by cases h; exact R2.out.2.1), R2.out.2.2, fun _ => ⟨rfl, (List.take_append_drop n zs).symm⟩, fun _ _ => rfl, by omega⟩
theorem own_type {w : World} {e e' : TypeId} {g : Nat} {zs : List Nat} {cur : Array Value} {f : Nat × Nat} (h : Own w e g zs) (h' : w.heap[g]? = some (.cells cur e' f)) : e = e' := by
  obtain ⟨_, cur', hg, _⟩ := h; rw [hg] at h'; simp only [Option.some.injEq, Obj.cells.injEq] at h'; exact h'.2.1
structure Se where
  c : Nat
  q : Nat
  i : Nat
  d : List Nat
  o : Option Nat
  cp : Nat
def Se.cells (x : Se) : List Value := [.int .i64 (x.c : Int), .int .i64 (x.q : Int), .int .i64 (x.i : Int), .slice (oad x.o) x.d.length x.cp]
def Se.tell (x : Se) : Sn := ⟨x.c, x.q, x.i, x.d⟩
def SeOwn (w : World) (base : Nat) (x : Se) : Prop := OwnS w 5 (oad x.o) x.d.length x.d ∧ (x.o = none → x.cp = 0) ∧ ∀ g, x.o = some g → base ≤ g
def SesRow (w : World) (base : Nat) (v : Value) (L : List Se) : Prop :=
  w.ownsRow base 74 4 v L.length (L.flatMap Se.cells) ∧ (∀ x ∈ L, SeOwn w base x) ∧ (L.filterMap Se.o).Nodup
theorem blk_oad (o : Option Nat) : blk (oad o) = o := by cases o <;> rfl
theorem SeOwn.lt {w : World} {base : Nat} {x : Se} (h : SeOwn w base x) : ∀ g, x.o = some g → g < w.heap.size := fun g hg => h.1.lt g (by rw [blk_oad]; exact hg)
theorem SeOwn.grown {w w' : World} {row : Option Nat} {base : Nat} {x : Se} (h : SeOwn w base x) (hg : w.grownBy w' row) (hne : ∀ g, x.o = some g → some g ≠ row) : SeOwn w' base x := ⟨h.1.grown hg (fun g e => hne g (by rw [← blk_oad x.o]; exact e)), h.2⟩
theorem SesRow.nil (w : World) (base : Nat) : SesRow w base (.slice none 0 0) [] := ⟨World.ownsRow_nil _ _ _ _, by simp, by simp⟩
theorem SesRow.lt {w : World} {base : Nat} {v : Value} {L : List Se} (h : SesRow w base v L) : ∀ g ∈ L.filterMap Se.o, g < w.heap.size := by
  intro g hg; obtain ⟨x, hx, e⟩ := List.mem_filterMap.1 hg; exact (h.2.1 x hx).lt g e
theorem SesRow.grown {w w' : World} {row : Option Nat} {base : Nat} {v : Value} {L : List Se} (h : SesRow w base v L) (hg : w.grownBy w' row) (hr : ∀ k, row = some k → k < base) : SesRow w' base v L := by
  obtain ⟨h1, h2, h3⟩ := h; refine ⟨h1.kept hg ?_, fun x hx => (h2 x hx).grown hg (fun g e e2 => ?_), h3⟩
  · cases hv : v.ownBlock with
    | none => exact .inl rfl
    | some k =>
      refine .inr fun e => ?_
      have h5 := (h1.lt k hv).1; have := hr k e.symm
      omega
  · have h4 := (h2 x hx).2.2 g e; have := hr g e2.symm
    omega
theorem SesRow.lower {w : World} {base base' : Nat} {v : Value} {L : List Se} (h : SesRow w base v L) (hb : base' ≤ base) : SesRow w base' v L :=
  ⟨ownsRow_base h.1 hb, fun x hx => ⟨(h.2.1 x hx).1, (h.2.1 x hx).2.1, fun g e => Nat.le_trans hb ((h.2.1 x hx).2.2 g e)⟩, h.2.2⟩
/-- a session more: what an append onto the row leaves -/
theorem SesRow.append {w w' : World} {base : Nat} {v v' : Value} {L : List Se} {x : Se} (h : SesRow w base v L) (hO : SeOwn w base x) (hn : ∀ g, x.o = some g → g ∉ L.filterMap Se.o)
    (hown : w'.ownsRow base 74 4 v' (L.length + 1) (L.flatMap Se.cells ++ x.cells)) (hg : w.grownBy w' v.ownBlock) : SesRow w' base v' (L ++ [x]) := by
  obtain ⟨h1, h2, h3⟩ := h
  have hne : ∀ y : Se, SeOwn w base y → ∀ g, y.o = some g → some g ≠ v.ownBlock := by
    intro y hy g hyo e; obtain ⟨_, ⟨h5, _⟩ | ⟨g2, h5, hgO⟩⟩ := hy.1
    · rw [hyo] at h5; cases h5
    · rw [hyo] at h5
      obtain rfl : g = g2 := by simpa [oad] using h5
      rcases h1.2 with ⟨rfl, _⟩ | ⟨g', cap, cur, rfl, hb', hg', _⟩
      · simp [Value.ownBlock] at e
      · simp only [Value.ownBlock, Option.some.injEq] at e; subst e; exact absurd (own_type hgO hg') (by decide)
  refine ⟨by simpa using hown, fun y hy => ?_, ?_⟩
  · rcases List.mem_append.1 hy with hr | hr
    · exact (h2 y hr).grown hg (hne y (h2 y hr))
    · obtain rfl : y = x := by simpa using hr
      exact hO.grown hg (hne y hO)
  · rw [List.filterMap_append, List.nodup_append]; refine ⟨h3, ?_, fun a ha b hb' e => ?_⟩
    · cases hxo : x.o <;> simp [hxo]
    · subst e
      have : x.o = some a := by
        obtain ⟨y, hy, e⟩ := List.mem_filterMap.1 hb'
        obtain rfl : y = x := by simpa using hy
        exact e
      exact hn a this ha
theorem seflat_get (L : List Se) : ∀ (i : Nat) (x : Se), L[i]? = some x → (L.flatMap Se.cells)[4 * i]? = some (.int .i64 (x.c : Int)) ∧ (L.flatMap Se.cells)[4 * i + 1]? = some (.int .i64 (x.q : Int)) ∧ (L.flatMap Se.cells)[4 * i + 2]? = some (.int .i64 (x.i : Int)) ∧ (L.flatMap Se.cells)[4 * i + 3]? = some (.slice (oad x.o) x.d.length x.cp) := by
  induction L with
  | nil => intro i x h; simp at h
  | cons y L ih =>
    intro i x h
    cases i with
    | zero => simp at h; subst h; simp [Se.cells]
    | succ i =>
      have h1 := ih i x (by simpa using h); rw [show 4 * (i + 1) = 4 * i + 4 by omega, show 4 * i + 4 + 1 = 4 * i + 1 + 4 by omega, show 4 * i + 4 + 2 = 4 * i + 2 + 4 by omega, show 4 * i + 4 + 3 = 4 * i + 3 + 4 by omega]
      simpa [Se.cells] using h1
theorem seflat_len (L : List Se) : (L.flatMap Se.cells).length = L.length * 4 := by
  induction L with
  | nil => rfl
  | cons x L ih => simp [Se.cells, ih]; omega
/-- a row of sessions, with its address -/
theorem SesRow.form {w : World} {base : Nat} {v : Value} {L : List Se} (h : SesRow w base v L) : (v = .slice none 0 0 ∧ L = []) ∨ ∃ g cap cur, v = .slice (some ⟨g, 0, none⟩) L.length cap ∧ base ≤ g ∧ L.length ≤ cap ∧ cap ≤ maxLen ∧ w.heap[g]? = some (.cells cur 74 (0, 0)) ∧
      ∀ i x, L[i]? = some x → cur[4 * i]? = some (.int .i64 (x.c : Int)) ∧ cur[4 * i + 1]? = some (.int .i64 (x.q : Int)) ∧ cur[4 * i + 2]? = some (.int .i64 (x.i : Int)) ∧ cur[4 * i + 3]? = some (.slice (oad x.o) x.d.length x.cp) := by
  rcases h.1.2 with ⟨rfl, h0⟩ | ⟨g, cap, cur, rfl, hb, hg, hc, hm, hs, htake⟩
  · exact .inl ⟨rfl, List.eq_nil_of_length_eq_zero h0⟩
  · refine .inr ⟨g, cap, cur, rfl, hb, hc, hm, hg, fun i x hx => ?_⟩; have hi : i < L.length := (List.getElem?_eq_some_iff.1 hx).1; obtain ⟨h1, h2, h3, h4⟩ := seflat_get L i x hx; rw [← htake] at h1 h2 h3 h4; rw [List.getElem?_take, if_pos (by omega), Array.getElem?_toList] at h1; rw [List.getElem?_take, if_pos (by omega), Array.getElem?_toList] at h2; rw [List.getElem?_take, if_pos (by omega), Array.getElem?_toList] at h3; rw [List.getElem?_take, if_pos (by omega), Array.getElem?_toList] at h4; exact ⟨h1, h2, h3, h4⟩
/-- a slice of sessions as it is read -/
def SesSl (w : World) (oa : Option Addr) (L : List Se) : Prop :=
  ∀ i x, L[i]? = some x → ∃ g, oa = some ⟨g, 0, none⟩ ∧ w.cell? ⟨g, i * 4, none⟩ = some (.int .i64 (x.c : Int)) ∧ w.cell? ⟨g, i * 4 + 1, none⟩ = some (.int .i64 (x.q : Int)) ∧ w.cell? ⟨g, i * 4 + 2, none⟩ = some (.int .i64 (x.i : Int)) ∧ w.cell? ⟨g, i * 4 + 3, none⟩ = some (.slice (oad x.o) x.d.length x.cp) ∧ OwnS w 5 (oad x.o) x.d.length x.d ∧ g < w.heap.size
theorem SesRow.sl {w : World} {base : Nat} {v : Value} {L : List Se} (h : SesRow w base v L) : ∃ oa cap, v = .slice oa L.length cap ∧ SesSl w oa L ∧ L.length ≤ cap ∧ cap ≤ maxLen := by
  rcases h.form with ⟨rfl, rfl⟩ | ⟨g, cap, cur, rfl, hb, hc, hm, hg, hcur⟩
  · exact ⟨none, 0, rfl, fun i x hx => by simp at hx, Nat.le_refl _, Nat.zero_le _⟩
  · refine ⟨some ⟨g, 0, none⟩, cap, rfl, fun i x hx => ⟨g, rfl, ?_, ?_, ?_, ?_, (h.2.1 x (List.mem_of_getElem? hx)).1, (Array.getElem?_eq_some_iff.1 hg).1⟩, hc, hm⟩
    · rw [Nat.mul_comm]; simp [World.cell?, hg, (hcur i x hx).1]
    · rw [Nat.mul_comm]; simp [World.cell?, hg, (hcur i x hx).2.1]
    · rw [Nat.mul_comm]; simp [World.cell?, hg, (hcur i x hx).2.2.1]
    · rw [Nat.mul_comm]; simp [World.cell?, hg, (hcur i x hx).2.2.2]
theorem SesSl.grown {w w' : World} {oa : Option Addr} {L : List Se} (h : SesSl w oa L) (hg : w.grownBy w' none) : SesSl w' oa L := fun i x hx => by
  obtain ⟨g, h1, h2, h3, h4, h5, h6, h7⟩ := h i x hx; obtain ⟨hc, -⟩ := bcell hg; exact ⟨g, h1, (hc _ _ h7).trans h2, (hc _ _ h7).trans h3, (hc _ _ h7).trans h4, (hc _ _ h7).trans h5, h6.grown0 hg, Nat.lt_of_lt_of_le h7 hg.size⟩
/-- an element: its numbers, its bytes, the bytes' block, their capacity -/
structure El where
  hd : List Int
  d : List Nat
  o : Option Nat
  cp : Nat
def El.cells (x : El) : List Value := x.hd.map (Value.int .i64) ++ [.slice (oad x.o) x.d.length x.cp]
def El.tell (x : El) : List Int × List Nat := (x.hd, x.d)
/-- only blocks of a set are turned -/
structure Only (S : Nat → Prop) (w w' : World) : Prop where
  os : w'.os = w.os
  tape : w'.tape = w.tape
  output : w'.output = w.output
  size : w.heap.size ≤ w'.heap.size
  block : ∀ k, k < w.heap.size → ¬ S k → w'.heap[k]? = w.heap[k]?
theorem Only.refl (S : Nat → Prop) (w : World) : Only S w w := ⟨rfl, rfl, rfl, Nat.le_refl _, fun _ _ _ => rfl⟩
theorem Only.trans {S : Nat → Prop} {a b c : World} (h : Only S a b) (k : Only S b c) : Only S a c :=
  ⟨k.os.trans h.os, k.tape.trans h.tape, k.output.trans h.output, Nat.le_trans h.size k.size, fun j hj hn => (k.block j (Nat.lt_of_lt_of_le hj h.size) hn).trans (h.block j hj hn)⟩
theorem Only.of {S : Nat → Prop} {a b : World} {row : Option Nat} (h : a.grownBy b row) (hr : ∀ k, row = some k → S k) : Only S a b :=
  ⟨h.os, h.tape, h.output, h.size, fun j hj hn => h.block j hj (fun e => hn (hr j e.symm))⟩
theorem Only.set {S : Nat → Prop} {a b : World} (h : Only S a b) (g i : Nat) (v : Value) (hp : S g) : Only S a (b.setCell ⟨g, i, none⟩ v) :=
  h.trans (Only.of (row := some g) (grownBy_setCell (grownBy_refl _ _)) (fun k e => by cases e; exact hp))
theorem Only.mono {S T : Nat → Prop} {a b : World} (h : Only S a b) (hST : ∀ k, S k → T k) : Only T a b := ⟨h.os, h.tape, h.output, h.size, fun j hj hn => h.block j hj (fun e => hn (hST j e))⟩
/-- what is newer than all of a is a's growth -/
theorem Only.grown {S : Nat → Prop} {a b c : World} (h : Only S b c) (hg : a.grownBy b none) (hl : ∀ k, S k → a.heap.size ≤ k) : a.grownBy c none :=
  ⟨h.os.trans hg.os, h.tape.trans hg.tape, h.output.trans hg.output, Nat.le_trans hg.size h.size, fun j hj _ => (h.block j (Nat.lt_of_lt_of_le hj hg.size) (fun e => by have := hl j e; omega)).trans (hg.block j hj (by simp))⟩
/-- elements in a block, each with bytes of its own -/
structure ElAt (w : World) (t : TypeId) (m g : Nat) (L : List El) : Prop where
  row : ∃ cur : Array Value, w.heap[g]? = some (.cells cur t (0, 0)) ∧ ∀ (i : Nat) (x : El), L[i]? = some x → (∀ (j : Nat) (n : Int), x.hd[j]? = some n → cur[i * (m + 1) + j]? = some (.int .i64 n)) ∧ cur[i * (m + 1) + m]? = some (.slice (oad x.o) x.d.length x.cp)
  own : ∀ (i : Nat) (x : El), L[i]? = some x → x.hd.length = m ∧ OwnS w 5 (oad x.o) x.d.length x.d ∧ (x.o = none → x.cp = 0)
  far : ∀ (i j : Nat) (x y : El) (k : Nat), L[i]? = some x → L[j]? = some y → x.o = some k → y.o = some k → i = j
/-- .. or no elements, and no block -/
def ElO (w : World) (t : TypeId) (m : Nat) (oa : Option Addr) (cap : Nat) (L : List El) : Prop :=
  (oa = none ∧ cap = 0 ∧ L = []) ∨ ∃ g, oa = some ⟨g, 0, none⟩ ∧ ElAt w t m g L
/-- the blocks of elements -/
def ElB (oa : Option Addr) (L : List El) (k : Nat) : Prop := oa = some ⟨k, 0, none⟩ ∨ ∃ x ∈ L, x.o = some k
theorem ElAt.lt {w : World} {t : TypeId} {m g : Nat} {L : List El} (h : ElAt w t m g L) : g < w.heap.size := by
  obtain ⟨cur, hg, _⟩ := h.row; exact (Array.getElem?_eq_some_iff.1 hg).1
theorem ownS_blk {w : World} {e : TypeId} {o : Option Nat} {n : Nat} {zs : List Nat} (h : OwnS w e (oad o) n zs) {k : Nat} (hk : o = some k) : Own w e k zs := by
  subst hk; obtain ⟨_, ⟨h1, _⟩ | ⟨g, h1, hO⟩⟩ := h
  · cases h1
  · obtain rfl : k = g := by simpa [oad] using h1
    exact hO
theorem ElAt.ne {w : World} {t : TypeId} {m g : Nat} {L : List El} (h : ElAt w t m g L) (ht : t ≠ 5) {i : Nat} {x : El} (hx : L[i]? = some x) {k : Nat} (hk : x.o = some k) : k ≠ g := by
  obtain ⟨cur, hg, _⟩ := h.row; intro e; subst e; exact ht (own_type (ownS_blk (h.own i x hx).2.1 hk) hg).symm
theorem ElAt.cell {w : World} {t : TypeId} {m g : Nat} {L : List El} (h : ElAt w t m g L) {i : Nat} {x : El} (hx : L[i]? = some x) {j : Nat} {n : Int} (hj : x.hd[j]? = some n) :
    w.cell? ⟨g, i * (m + 1) + j, none⟩ = some (.int .i64 n) := by
  obtain ⟨cur, hg, hc⟩ := h.row
  simp [World.cell?, hg, (hc i x hx).1 j n hj]
theorem ElAt.froz {w : World} {t : TypeId} {m g : Nat} {L : List El} (h : ElAt w t m g L) (j : Nat) : w.frozen? ⟨g, j, none⟩ = false := by
  obtain ⟨cur, hg, hc⟩ := h.row
  simp [World.frozen?, hg]
theorem ElAt.slice {w : World} {t : TypeId} {m g : Nat} {L : List El} (h : ElAt w t m g L) {i : Nat} {x : El} (hx : L[i]? = some x) :
    w.cell? ⟨g, i * (m + 1) + m, none⟩ = some (.slice (oad x.o) x.d.length x.cp) := by
  obtain ⟨cur, hg, hc⟩ := h.row
  simp [World.cell?, hg, (hc i x hx).2]
theorem el_set_get {L : List El} {k i : Nat} {x r : El} (hk : k < L.length) (h : (L.set k x)[i]? = some r) : (i = k ∧ r = x) ∨ (i ≠ k ∧ L[i]? = some r) := by
  by_cases e : i = k
  · subst e; rw [List.getElem?_set_self hk] at h; exact .inl ⟨rfl, (Option.some.inj h).symm⟩
  · rw [List.getElem?_set_ne (Ne.symm e)] at h; exact .inr ⟨e, h⟩
theorem el_far {L : List El} {k : Nat} {x x' : El} (hx : L[k]? = some x) (ho : x'.o = x.o) (hf : ∀ (i j : Nat) (x y : El) (k : Nat), L[i]? = some x → L[j]? = some y → x.o = some k → y.o = some k → i = j) :
    ∀ (i j : Nat) (y z : El) (b : Nat), (L.set k x')[i]? = some y → (L.set k x')[j]? = some z → y.o = some b → z.o = some b → i = j := by
  have hk : k < L.length := (List.getElem?_eq_some_iff.1 hx).1; intro i j y z b hi hj hy hz
  rcases el_set_get hk hi with ⟨rfl, rfl⟩ | ⟨hik, hi'⟩
  · rcases el_set_get hk hj with ⟨rfl, rfl⟩ | ⟨hjk, hj'⟩
    · rfl
    · exact hf i j x z b hx hj' (by rw [← ho]; exact hy) hz
  · rcases el_set_get hk hj with ⟨rfl, rfl⟩ | ⟨hjk, hj'⟩
    · exact hf i j y x b hi' hx hy (by rw [← ho]; exact hz)
    · exact hf i j y z b hi' hj' hy hz
theorem mul_apart {i k m a b : Nat} (hik : i ≠ k) (ha : a < m + 1) (hb : b < m + 1) : i * (m + 1) + a ≠ k * (m + 1) + b := by
  intro e
  have h1 : (i * (m + 1) + a) / (m + 1) = i := by rw [Nat.mul_comm, Nat.mul_add_div (by omega), Nat.div_eq_of_lt ha]; rfl
  have h2 : (k * (m + 1) + b) / (m + 1) = k := by rw [Nat.mul_comm, Nat.mul_add_div (by omega), Nat.div_eq_of_lt hb]; rfl
  rw [e, h2] at h1; exact hik h1.symm
/-- a number of an element is written -/
theorem ElAt.setHd {w : World} {t : TypeId} {m g : Nat} {L : List El} (h : ElAt w t m g L) (ht : t ≠ 5) {k : Nat} {x : El} (hx : L[k]? = some x) (j : Nat) (hj : j < m) (v : Int) :
    ElAt (w.setCell ⟨g, k * (m + 1) + j, none⟩ (.int .i64 v)) t m g (L.set k { x with hd := x.hd.set j v }) := by
  have hk : k < L.length := (List.getElem?_eq_some_iff.1 hx).1
  have hne := fun {i : Nat} {s : El} (hs : L[i]? = some s) {b : Nat} (hb : s.o = some b) => h.ne ht hs hb
  obtain ⟨⟨cur, hg, hc⟩, hO, hf⟩ := h
  have hS : ∀ {i : Nat} {s : El}, L[i]? = some s → OwnS (w.setCell ⟨g, k * (m + 1) + j, none⟩ (.int .i64 v)) 5 (oad s.o) s.d.length s.d := fun {i s} hs =>
    (hO i s hs).2.1.grown (row := some g) (grownBy_setCell (grownBy_refl _ _)) (fun b hb e => by rw [blk_oad] at hb; exact hne hs hb (by simpa using e))
  refine ⟨⟨cur.setIfInBounds (k * (m + 1) + j) (.int .i64 v), heap_setCell_same w g (k * (m + 1) + j) cur _ _ hg, fun i s hs => ?_⟩, fun i s hs => ?_, el_far hx rfl hf⟩
  · rcases el_set_get hk hs with ⟨rfl, rfl⟩ | ⟨hik, hs'⟩
    · have h1 := hc i x hx; have hl := (hO i x hx).1; refine ⟨fun j' n hn => ?_, ?_⟩
      · by_cases e : j' = j
        · subst e; have hb := (Array.getElem?_eq_some_iff.1 (h1.1 j' (x.hd[j']'(by omega)) (List.getElem?_eq_getElem (by omega)))).1; rw [Array.getElem?_setIfInBounds, if_pos rfl, if_pos hb]; simp only at hn; rw [List.getElem?_set_self (by omega)] at hn; rw [Option.some.inj hn]
        · simp only at hn; rw [List.getElem?_set_ne (Ne.symm e)] at hn; rw [Array.getElem?_setIfInBounds, if_neg (by omega)]; exact h1.1 j' n hn
      · rw [Array.getElem?_setIfInBounds, if_neg (by omega)]; exact h1.2
    · have h1 := hc i s hs'; have hl := (hO i s hs').1; refine ⟨fun j' n hn => ?_, ?_⟩
      · have hj' := (List.getElem?_eq_some_iff.1 hn).1; rw [Array.getElem?_setIfInBounds, if_neg (mul_apart (Ne.symm hik) (by omega) (by omega))]; exact h1.1 j' n hn
      · rw [Array.getElem?_setIfInBounds, if_neg (mul_apart (Ne.symm hik) (by omega) (by omega))]; exact h1.2
  · rcases el_set_get hk hs with ⟨rfl, rfl⟩ | ⟨hik, hs'⟩
    · exact ⟨by simpa using (hO i x hx).1, hS (s := x) hx, (hO i x hx).2.2⟩
    · exact ⟨(hO i s hs').1, hS hs', (hO i s hs').2.2⟩
/-- an element's bytes are written -/
theorem ElAt.setD {w w' : World} {t : TypeId} {m g : Nat} {L : List El} (h : ElAt w t m g L) (ht : t ≠ 5) {k : Nat} {x : El} (hx : L[k]? = some x) {d : List Nat} (hl : d.length = x.d.length) (hO' : OwnS w' 5 (oad x.o) x.d.length d) (hgr : w.grownBy w' x.o) : ElAt w' t m g (L.set k { x with d := d }) := by
  have hk : k < L.length := (List.getElem?_eq_some_iff.1 hx).1; have hgl := h.lt
  have hne : some g ≠ x.o := fun e => h.ne ht hx e.symm rfl
  obtain ⟨⟨cur, hg, hc⟩, hO, hf⟩ := h; refine ⟨⟨cur, (hgr.block g hgl hne).trans hg, fun i s hs => ?_⟩, fun i s hs => ?_, el_far hx rfl hf⟩
  · rcases el_set_get hk hs with ⟨rfl, rfl⟩ | ⟨hik, hs'⟩
    · have h1 := hc i x hx; exact ⟨h1.1, by simp only [hl]; exact h1.2⟩
    · exact hc i s hs'
  · rcases el_set_get hk hs with ⟨rfl, rfl⟩ | ⟨hik, hs'⟩
    · exact ⟨(hO i x hx).1, by simp only [hl]; exact hO', (hO i x hx).2.2⟩
    · refine ⟨(hO i s hs').1, (hO i s hs').2.1.grown hgr (fun b hb e => ?_), (hO i s hs').2.2⟩; rw [blk_oad] at hb; exact hik (hf i k s x b hs' hx hb e.symm)
/-- kept where its blocks are -/
theorem ElAt.kept {w w' : World} {t : TypeId} {m g : Nat} {L : List El} (h : ElAt w t m g L) (hk : ∀ k, k < w.heap.size → (k = g ∨ ∃ x ∈ L, x.o = some k) → w'.heap[k]? = w.heap[k]?) : ElAt w' t m g L := by
  have hgl := h.lt; obtain ⟨⟨cur, hg, hc⟩, hO, hf⟩ := h; refine ⟨⟨cur, (hk g hgl (.inl rfl)).trans hg, hc⟩, fun i x hx => ⟨(hO i x hx).1, ?_, (hO i x hx).2.2⟩, hf⟩; obtain ⟨h1, h2⟩ := (hO i x hx).2.1; refine ⟨h1, ?_⟩
  rcases h2 with h2 | ⟨b, hb, hOb⟩
  · exact .inl h2
  · refine .inr ⟨b, hb, hOb.of_block (hk b hOb.lt (.inr ⟨x, List.mem_of_getElem? hx, ?_⟩))⟩
    cases ho : x.o with
    | none => rw [ho] at hb; cases hb
    | some c => rw [ho] at hb; simpa [oad] using hb
/-- kept where others are turned -/
theorem ElO.apart {w w' : World} {S : Nat → Prop} {t : TypeId} {m cap : Nat} {oa : Option Addr} {L : List El} (h : ElO w t m oa cap L) (hb : Only S w w') (hd : ∀ k, ElB oa L k → ¬ S k) : ElO w' t m oa cap L := by
  rcases h with h | ⟨g, rfl, h2⟩
  · exact .inl h
  · refine .inr ⟨g, rfl, h2.kept (fun k hk hkk => hb.block k hk (hd k ?_))⟩
    rcases hkk with rfl | h
    · exact .inl rfl
    · exact .inr h
theorem ElO.grown0 {w w' : World} {t : TypeId} {m cap : Nat} {oa : Option Addr} {L : List El} (h : ElO w t m oa cap L) (hg : w.grownBy w' none) : ElO w' t m oa cap L :=
  h.apart (S := fun _ => False) (Only.of hg (by simp)) (by simp)
theorem ElO.lt {w : World} {t : TypeId} {m cap : Nat} {oa : Option Addr} {L : List El} (h : ElO w t m oa cap L) : ∀ k, ElB oa L k → k < w.heap.size := by
  intro k hk
  rcases h with ⟨rfl, _, rfl⟩ | ⟨g, rfl, hA⟩
  · rcases hk with h | ⟨x, hx, _⟩
    · cases h
    · simp at hx
  · rcases hk with h | ⟨x, hx, ho⟩
    · obtain rfl : g = k := by simpa using h
      exact hA.lt
    · obtain ⟨i, hi⟩ := List.getElem?_of_mem hx; exact (ownS_blk (hA.own i x hi).2.1 ho).lt
/-- two lots of different types, with no bytes in common, are apart -/
theorem ElO.two {w : World} {t t' : TypeId} {m m' cap cap' : Nat} {oa ob : Option Addr} {L R : List El} (h : ElO w t m oa cap L) (h' : ElO w t' m' ob cap' R) (htt : t ≠ t') (ht : t ≠ 5) (ht' : t' ≠ 5)
    (hf : ∀ x ∈ L, ∀ y ∈ R, ∀ j, x.o = some j → y.o ≠ some j) : ∀ k, ElB oa L k → ¬ ElB ob R k := by
  intro k hk hk'
  rcases h with ⟨rfl, _, rfl⟩ | ⟨g, rfl, hA⟩
  · rcases hk with h | ⟨x, hx, _⟩
    · cases h
    · simp at hx
  rcases h' with ⟨rfl, _, rfl⟩ | ⟨g', rfl, hA'⟩
  · rcases hk' with h | ⟨x, hx, _⟩
    · cases h
    · simp at hx
  obtain ⟨cur, hc, _⟩ := hA.row; obtain ⟨cur', hc', _⟩ := hA'.row
  rcases hk with h | ⟨x, hx, ho⟩
  · obtain rfl : g = k := by simpa using h
    rcases hk' with h | ⟨y, hy, hyo⟩
    · obtain rfl : g' = g := by simpa using h
      rw [hc] at hc'; simp only [Option.some.injEq, Obj.cells.injEq] at hc'; exact htt hc'.2.1
    · obtain ⟨i, hi⟩ := List.getElem?_of_mem hy; exact ht (own_type (ownS_blk (hA'.own i y hi).2.1 hyo) hc).symm
  · obtain ⟨i, hi⟩ := List.getElem?_of_mem hx
    rcases hk' with h | ⟨y, hy, hyo⟩
    · obtain rfl : g' = k := by simpa using h
      exact ht' (own_type (ownS_blk (hA.own i x hi).2.1 ho) hc').symm
    · exact hf x hx y hy k ho hyo
/-- the mark at which element k begins -/
def eAt (c : Nat) (L : List El) (m : Nat) : Nat → Nat
  | 0 => m
  | k + 1 => eAt c L m k + c + (L[k]?.map (fun x => x.d.length)).getD 0
def mkE (c : Nat) (x : El) (m : Nat) : El := { x with hd := (List.range c).map (fun j => ((m + j : Nat) : Int)), d := marked x.d (m + c) x.d.length }
def stE (c : Nat) (L : List El) (m : Nat) : Nat → List El
  | 0 => L
  | k + 1 => match L[k]? with
    | some x => (stE c L m k).set k (mkE c x (eAt c L m k))
    | none => stE c L m k
theorem stE_len (c : Nat) (L : List El) (m k : Nat) : (stE c L m k).length = L.length := by
  induction k with
  | zero => rfl
  | succ k ih =>
    unfold stE
    split
    · simp [ih]
    · exact ih
theorem stE_get (c : Nat) (L : List El) (m k i : Nat) : (stE c L m k)[i]? = if i < k then L[i]?.map (fun r => mkE c r (eAt c L m i)) else L[i]? := by
  induction k with
  | zero => simp [stE]
  | succ k ih =>
    unfold stE
    cases hr : L[k]? with
    | none =>
      simp only
      rw [ih]
      by_cases h : i < k
      · rw [if_pos h, if_pos (by omega)]
      · rw [if_neg h]
        by_cases e : i = k
        · subst e; simp [hr]
        · rw [if_neg (by omega)]
    | some r =>
      simp only
      have hk : k < L.length := (List.getElem?_eq_some_iff.1 hr).1
      by_cases e : i = k
      · subst e; rw [List.getElem?_set_self (by rw [stE_len]; exact hk), if_pos (by omega), hr]
        rfl
      · rw [List.getElem?_set_ne (Ne.symm e), ih]
        by_cases h : i < k
        · rw [if_pos h, if_pos (by omega)]
        · rw [if_neg h, if_neg (by omega)]
theorem stE_succ (c : Nat) (L : List El) (m k : Nat) (x : El) (hx : L[k]? = some x) : stE c L m (k + 1) = (stE c L m k).set k (mkE c x (eAt c L m k)) := by
  conv => lhs; unfold stE
  rw [hx]
theorem eAt_le (c : Nat) (L : List El) (m k B : Nat) (hB : ∀ x ∈ L, x.d.length ≤ B) : eAt c L m k ≤ m + k * (c + B) := by
  induction k with
  | zero => simp [eAt]
  | succ k ih =>
    have : (L[k]?.map (fun x => x.d.length)).getD 0 ≤ B := by
      cases hr : L[k]? with
      | none => simp
      | some r => simpa using hB r (List.mem_of_getElem? hr)
    simp only [eAt, Nat.add_mul, Nat.one_mul]
    omega
theorem stE_o (c : Nat) (L : List El) (m k : Nat) : ∀ x ∈ stE c L m k, ∃ y ∈ L, x.o = y.o := by
  intro x hx; obtain ⟨i, hi⟩ := List.getElem?_of_mem hx; rw [stE_get] at hi
  split at hi
  · cases hL : L[i]? with
    | none => rw [hL] at hi; cases hi
    | some y =>
      rw [hL] at hi; simp only [Option.map_some, Option.some.injEq] at hi; exact ⟨y, List.mem_of_getElem? hL, by rw [← hi]; rfl⟩
  · exact ⟨x, List.mem_of_getElem? hi, rfl⟩
theorem filterMap_inj (L : List Se) : (L.filterMap Se.o).Nodup → ∀ (i j : Nat) (a b : Se) (k : Nat), L[i]? = some a → L[j]? = some b → a.o = some k → b.o = some k → i = j := by
  induction L with
  | nil => intro _ i j a b k hi; simp at hi
  | cons x L ih =>
    intro hn i j a b k hi hj ha hb
    have hmem : ∀ (j : Nat) (b : Se), L[j]? = some b → b.o = some k → k ∈ L.filterMap Se.o := fun j b hj hb => List.mem_filterMap.2 ⟨b, List.mem_of_getElem? hj, hb⟩
    cases hx : x.o with
    | none =>
      rw [List.filterMap_cons_none hx] at hn
      cases i with
      | zero => simp at hi; subst hi; rw [hx] at ha; cases ha
      | succ i =>
        cases j with
        | zero => simp at hj; subst hj; rw [hx] at hb; cases hb
        | succ j => rw [ih hn i j a b k (by simpa using hi) (by simpa using hj) ha hb]
    | some c =>
      rw [List.filterMap_cons_some hx, List.nodup_cons] at hn
      cases i with
      | zero =>
        simp at hi; subst hi
        cases j with
        | zero => rfl
        | succ j =>
          rw [hx] at ha
          obtain rfl : c = k := by simpa using ha
          exact absurd (hmem j b (by simpa using hj) hb) hn.1
      | succ i =>
        cases j with
        | zero =>
          simp at hj; subst hj
          rw [hx] at hb
          obtain rfl : c = k := by simpa using hb
          exact absurd (hmem i a (by simpa using hi) ha) hn.1
        | succ j => rw [ih hn.2 i j a b k (by simpa using hi) (by simpa using hj) ha hb]
/-- sessions as elements -/
def Se.el (x : Se) : El := ⟨[(x.c : Int), (x.q : Int), (x.i : Int)], x.d, x.o, x.cp⟩
theorem stE_B (c : Nat) (oa : Option Addr) (L : List El) (m n k : Nat) (h : ElB oa (stE c L m n) k) : ElB oa L k := by
  rcases h with h | ⟨x, hx, ho⟩
  · exact .inl h
  · obtain ⟨y, hy, e⟩ := stE_o c L m n x hx; exact .inr ⟨y, hy, by rw [← e]; exact ho⟩
theorem SesRow.el {w : World} {base : Nat} {v : Value} {L : List Se} (h : SesRow w base v L) : ∃ oa cap, v = .slice oa L.length cap ∧ ElO w 74 3 oa cap (L.map Se.el) ∧ ∀ k, ElB oa (L.map Se.el) k → base ≤ k := by
  rcases h.form with ⟨rfl, rfl⟩ | ⟨g, cap, cur, rfl, hb, hc, hm, hg, hcur⟩
  · refine ⟨none, 0, rfl, .inl ⟨rfl, rfl, rfl⟩, fun k hk => ?_⟩
    rcases hk with h | ⟨x, hx, _⟩
    · cases h
    · simp at hx
  · refine ⟨some ⟨g, 0, none⟩, cap, rfl, .inr ⟨g, rfl, ⟨⟨cur, hg, fun i x hx => ?_⟩, fun i x hx => ?_, fun i j x y k hi hj hx hy => ?_⟩⟩, fun k hk => ?_⟩
    · rw [List.getElem?_map] at hx; obtain ⟨y, hy, rfl⟩ := Option.map_eq_some_iff.1 hx; obtain ⟨h0, h1, h2, h3⟩ := hcur i y hy; refine ⟨fun j n hn => ?_, by rw [show i * (3 + 1) + 3 = 4 * i + 3 by omega]; exact h3⟩; have hj := (List.getElem?_eq_some_iff.1 hn).1; simp only [Se.el, List.length_cons, List.length_nil] at hj hn
      rcases (show j = 0 ∨ j = 1 ∨ j = 2 by omega) with rfl | rfl | rfl
      · rw [show i * (3 + 1) + 0 = 4 * i by omega]; simp at hn; rw [← hn]; exact h0
      · rw [show i * (3 + 1) + 1 = 4 * i + 1 by omega]; simp at hn; rw [← hn]; exact h1
      · rw [show i * (3 + 1) + 2 = 4 * i + 2 by omega]; simp at hn; rw [← hn]; exact h2
    · rw [List.getElem?_map] at hx; obtain ⟨y, hy, rfl⟩ := Option.map_eq_some_iff.1 hx; have := h.2.1 y (List.mem_of_getElem? hy); exact ⟨rfl, this.1, this.2.1⟩
    · rw [List.getElem?_map] at hi hj; obtain ⟨a, ha, rfl⟩ := Option.map_eq_some_iff.1 hi; obtain ⟨b, hb', rfl⟩ := Option.map_eq_some_iff.1 hj; exact filterMap_inj L h.2.2 i j a b k ha hb' hx hy
    · rcases hk with h' | ⟨x, hx, ho⟩
      · obtain rfl : g = k := by simpa using h'
        exact hb
      · obtain ⟨y, hy, rfl⟩ := List.mem_map.1 hx; exact (h.2.1 y hy).2.2 k ho
set_option maxHeartbeats 400000 in
theorem szItem_ok (cl sq : Int) (oa : Option Addr) (len cap L : Nat) (w : World) (h : len ≤ L) (hL : L ≤ 1073741824) :
    Calls Tryd.prog 67 #[.agg #[.int .i64 cl, .int .i64 sq, .slice oa len cap], .int .i64 (L : Int)] w fun e w' => e = .returned (.int .i64 ((L : Int) - len)) ∧ w.grownBy w' none := by
  go_enter Tryd.func67, Tryd.ntmps67
  go_wp2_with (go_at_call 85; refine (szByteS_ok oa len cap L _ h hL).mono ?_; rintro e w' ⟨rfl, rfl⟩)
  go_ret; exact ⟨rfl, World.grownBy_alloc _ _ _⟩
set_option maxHeartbeats 400000 in
theorem szItem_big (cl sq : Int) (oa : Option Addr) (len cap L : Nat) (w : World) (h : L < len) (hL : L ≤ 1073741824) (hx : len ≤ maxLen) :
    Calls Tryd.prog 67 #[.agg #[.int .i64 cl, .int .i64 sq, .slice oa len cap], .int .i64 (L : Int)] w fun e w' => e = .returned (.int .i64 (-1)) ∧ w.grownBy w' none := by
  go_enter Tryd.func67, Tryd.ntmps67
  go_wp2_with (go_at_call 85; refine (szByteS_big oa len cap L _ h hL hx).mono ?_; rintro e w' ⟨rfl, rfl⟩)
  go_ret; exact ⟨rfl, World.grownBy_alloc _ _ _⟩
set_option maxHeartbeats 400000 in
theorem eqItem_same (cl sq : Int) (oa ob : Option Addr) (len ca cb : Nat) (zs : List Nat) (w : World) (ha : SlB w oa len zs) (hb : SlB w ob len zs) (hm : len ≤ 1073741824) :
    Calls Tryd.prog 73 #[.agg #[.int .i64 cl, .int .i64 sq, .slice oa len ca], .agg #[.int .i64 cl, .int .i64 sq, .slice ob len cb]] w fun e w' => e = .returned (.bool true) ∧ w.grownBy w' none := by
  have HA : Hid (SlB w oa len zs ∧ SlB w ob len zs) := ⟨ha, hb⟩; clear ha hb
  go_enter Tryd.func73, Tryd.ntmps73
  go_wp2_with fail; refine (eqByteS_same oa ob len ca cb zs _ (HA.out.1.grown0 (grownBy_alloc (World.grownBy_alloc _ _ _) _)) (HA.out.2.grown0 (grownBy_alloc (World.grownBy_alloc _ _ _) _)) hm).mono ?_; rintro e w1 ⟨rfl, hG1⟩; have R : Hid _ := grownBy_trans (grownBy_alloc (World.grownBy_alloc w _ none) _) hG1; clear hG1; go_wp2; go_ret; exact ⟨rfl, R.out⟩
set_option maxHeartbeats 400000 in
theorem toItem_any (cl sq : Int) (oa : Option Addr) (len cap : Nat) (zs : List Nat) (w : World) (hsl : SlB w oa len zs) (hm : len ≤ 1073741824) :
    Calls Tryd.prog 71 #[.agg #[.int .i64 cl, .int .i64 sq, .slice oa len cap]] w fun e w' => ∃ g, e = .returned (.agg #[.int .i64 cl, .int .i64 sq, .slice (some ⟨g, 0, none⟩) len len]) ∧ w.heap.size ≤ g ∧ Own w' 5 g zs ∧ w.grownBy w' none := by
  have HS : Hid (SlB w oa len zs) := hsl; clear hsl
  go_enter Tryd.func71, Tryd.ntmps71
  go_wp2_with fail; refine (toByteS_any oa len cap zs _ (HS.out.grown0 (grownBy_alloc (grownBy_alloc (World.grownBy_alloc _ _ _) _) _)) hm).mono ?_; rintro e w1 ⟨rfl, hO1, hG1⟩; obtain ⟨hc, hf⟩ := bcell hG1
  have hz : w.heap.size + 1 + 1 + 1 ≤ w1.heap.size := by have := hG1.size; simpa using this
  have R : Hid (Own w1 5 (w.heap.size + 1 + 1 + 1) zs ∧ w.grownBy w1 none) := ⟨by simpa using hO1, grownBy_trans (grownBy_alloc (grownBy_alloc (World.grownBy_alloc w _ none) _) _) hG1⟩; clear hO1 hG1; go_wp2; refine bodyPost_ret (v := .agg #[.int .i64 cl, .int .i64 sq, .slice (some ⟨w.heap.size + 1 + 1 + 1, 0, none⟩) len len]) (by simp [results, Tryd.results71, go_sem, hc]) rfl ⟨w.heap.size + 1 + 1 + 1, rfl, by omega, ?_, ?_⟩
  · exact (((R.out.1.setOther (by simp)).setOther (by simp; omega)).setOther (by simp; omega)).setOther (by simp; omega)
  · exact grownBy_setNew (grownBy_setNew (grownBy_setNew (grownBy_setNew R.out.2 (by simp; omega)) (by simp)) (by simp)) (by simp)
end Go.Proofs.YtdajcpcajdhplaaDoor
