/-
  A state being read from its front: take, takeLong, number, bytes, walked.
-/
import Derived.Test.YtdajcpcajdhplaaDoorStMath
import Derived.Test.YtdajcpcajdhplaaDoorItemDec
import Derived.Test.YtdajcpcajdhplaaDoorMarkS
import Derived.Deep.RegionWith
namespace Go.Proofs.YtdajcpcajdhplaaDoor
open Go.RowKit

/-- what is read lies in block r: the rest, and whether it is wrong -/
def Rd (w : World) (r b off len cap : Nat) (wr : Bool) : Prop := w.heap[r]? = some (.cells #[.slice (some ⟨b, off, none⟩) len cap, .bool wr] 78 (0, 0))
theorem Rd.cells {w : World} {r b off len cap : Nat} {wr : Bool} (h : Rd w r b off len cap wr) : w.cell? ⟨r, 0, none⟩ = some (.slice (some ⟨b, off, none⟩) len cap) ∧ w.cell? ⟨r, 1, none⟩ = some (.bool wr) ∧ w.frozen? ⟨r, 0, none⟩ = false ∧ w.frozen? ⟨r, 1, none⟩ = false := by
  unfold Rd at h
  simp [World.cell?, World.frozen?, h]
theorem Rd.lt {w : World} {r b off len cap : Nat} {wr : Bool} (h : Rd w r b off len cap wr) : r < w.heap.size := (Array.getElem?_eq_some_iff.1 h).1
theorem Rd.set1 {w : World} {r b off len cap : Nat} {wr : Bool} (h : Rd w r b off len cap wr) (x : Bool) : Rd (w.setCell ⟨r, 1, none⟩ (.bool x)) r b off len cap x := heap_setCell_same w r 1 _ _ _ h
theorem Rd.set0 {w : World} {r b off len cap b' off' len' cap' : Nat} {wr : Bool} (h : Rd w r b off len cap wr) : Rd (w.setCell ⟨r, 0, none⟩ (.slice (some ⟨b', off', none⟩) len' cap')) r b' off' len' cap' wr := heap_setCell_same w r 0 _ _ _ h
theorem Rd.grown {w w' : World} {row : Option Nat} {r b off len cap : Nat} {wr : Bool} (h : Rd w r b off len cap wr) (hg : w.grownBy w' row) (hne : some r ≠ row) : Rd w' r b off len cap wr := (hg.block r h.lt hne).trans h
theorem Rd.heap {w w' : World} {r b off len cap : Nat} {wr : Bool} (h : Rd w r b off len cap wr) (hh : w'.heap = w.heap) : Rd w' r b off len cap wr := by unfold Rd at *; rw [hh]; exact h

set_option maxHeartbeats 400000 in
theorem take_no (r b off len cap n : Nat) (wr : Bool) (w : World) (hR : Rd w r b off len cap wr) (h : wr = true ∨ len < n) :
    Calls Tryd.prog 65 #[.pointer (some ⟨r, 0, none⟩), .int .i64 (n : Int)] w fun e w' => e = .returned (.slice none 0 0) ∧ Rd w' r b off len cap true ∧ w.grownBy w' (some r) := by
  obtain ⟨c0, c1, f0, f1⟩ := hR.cells
  have HR : Hid (Rd w r b off len cap wr) := hR
  clear hR
  cases wr
  · have hl : (len : Int) < (n : Int) := by rcases h with h | h; · cases h
                                            · omega
    clear h
    go_enter Tryd.func65, Tryd.ntmps65
    go_wp2
    go_ret
    exact ⟨rfl, HR.out.set1 true, grownBy_setCell (grownBy_refl _ _)⟩
  · clear h
    go_enter Tryd.func65, Tryd.ntmps65
    go_wp2
    go_ret
    exact ⟨rfl, HR.out.set1 true, grownBy_setCell (grownBy_refl _ _)⟩
set_option maxHeartbeats 400000 in
theorem take_ok (r b off len cap n : Nat) (w : World) (hR : Rd w r b off len cap false) (hn : n ≤ len) (hlc : len ≤ cap) (hm : cap ≤ maxLen) :
    Calls Tryd.prog 65 #[.pointer (some ⟨r, 0, none⟩), .int .i64 (n : Int)] w fun e w' => e = .returned (.slice (some ⟨b, off, none⟩) n cap) ∧ (∃ off', (off' = off ∧ len = n ∨ off' = off + n) ∧ Rd w' r b off' (len - n) (cap - n) false) ∧ w.grownBy w' (some r) := by
  unfold maxLen at hm
  obtain ⟨c0, c1, f0, f1⟩ := hR.cells
  have HR : Hid (Rd w r b off len cap false) := hR
  have z1 : (n : Int) ≤ (len : Int) := by omega
  have z2 : (len : Int) ≤ (cap : Int) := by omega
  have z3 : (n : Int) ≤ (cap : Int) := by omega
  have z4 : (0 : Int) ≤ (n : Int) := by omega
  clear hR
  by_cases hc : cap = n
  · obtain rfl : n = cap := hc.symm
    obtain rfl : len = n := by omega
    go_enter Tryd.func65, Tryd.ntmps65
    go_wp2
    go_ret
    exact ⟨rfl, .inl HR.out.set0, grownBy_setCell (grownBy_refl _ _)⟩
  · go_enter Tryd.func65, Tryd.ntmps65
    go_wp2
    go_ret
    exact ⟨rfl, ⟨off + n, .inr rfl, HR.out.set0⟩, grownBy_setCell (grownBy_refl _ _)⟩
theorem grownBy_toSome {a b : World} {s : Nat} (h : a.grownBy b none) : a.grownBy b (some s) := ⟨h.os, h.tape, h.output, h.size, fun k hk _ => h.block k hk (by simp)⟩
theorem wrapU64 (n : Int) : IntKind.u64.wrap n = n % 18446744073709551616 := by simp [IntKind.wrap, IntKind.bits, IntKind.signed]
theorem leVal_append (a b : List Nat) : leVal (a ++ b) = leVal a + 256 ^ a.length * leVal b := by
  induction a with
  | nil => simp [leVal]
  | cons x a ih => simp only [List.cons_append, leVal, ih, List.length_cons, Nat.pow_succ]; rw [Nat.mul_add, ← Nat.mul_assoc]; have : 256 * 256 ^ a.length = 256 ^ a.length * 256 := Nat.mul_comm _ _; rw [this]; omega
set_option maxRecDepth 4000 in
set_option maxHeartbeats 800000 in
theorem takeLong_any (b off cap : Nat) (zs : List Nat) (w : World) (hsl : SlB w (some ⟨b, off, none⟩) 8 zs) (hc : 8 ≤ cap) (hm : cap ≤ maxLen) :
    Calls Tryd.prog 66 #[.slice (some ⟨b, off, none⟩) 8 cap] w fun e w' => e = .returned (.int .u64 ((leVal zs : Nat) : Int)) ∧ Same w w' := by
  unfold maxLen at hm
  have hl : zs.length = 8 := hsl.1
  obtain ⟨x, hx⟩ : ∃ x, leVal (zs.take 4) = x := ⟨_, rfl⟩
  obtain ⟨y, hy⟩ : ∃ y, leVal ((zs.drop 4).take 4) = y := ⟨_, rfl⟩
  have x4 : x < 4294967296 := by rw [← hx]; exact val4_lt _ (fun z hz => hsl.2.1 z (List.mem_of_mem_take hz)) (by simp; omega)
  have y4 : y < 4294967296 := by rw [← hy]; exact val4_lt _ (fun z hz => hsl.2.1 z (List.mem_of_mem_drop (List.mem_of_mem_take hz))) (by simp; omega)
  have HV : Hid (leVal zs = x + 4294967296 * y) := by
    show _ = _
    have e := leVal_append (zs.take 4) (zs.drop 4)
    rw [List.take_append_drop, hx, List.length_take, hl] at e
    rw [e, ← hy, drop_take_all zs 4 4 (by omega)]
    rfl
  have H1 : Hid (∀ w', w'.heap = w.heap → Calls Tryd.prog 30 #[.slice (some ⟨b, off, none⟩) 8 cap] w' fun e w'' => e = .returned (.int .u32 (x : Int)) ∧ w'' = w') := by
    intro w' hw'
    have := takeNumber_any (some ⟨b, off, none⟩) 8 cap zs w' (hsl.heap hw') (by decide) (by decide)
    rw [hx] at this
    exact this
  have H2 : Hid (∀ w', w'.heap = w.heap → Calls Tryd.prog 30 #[.slice (some ⟨b, off + 4, none⟩) 4 (cap - 4)] w' fun e w'' => e = .returned (.int .u32 (y : Int)) ∧ w'' = w') := by
    intro w' hw'
    have h9 := takeNumber_any (some ⟨b, off + 4, none⟩) 4 (cap - 4) ((zs.drop 4).take 4) w' ((slb_cut hsl 4 4 (by decide)).heap hw') (by decide) (by decide)
    rw [List.take_take, show min 4 4 = 4 from rfl, hy] at h9
    exact h9
  have z1 : ¬ cap = 4 := by omega
  have z2 : (8 : Int) ≤ (cap : Int) := by omega
  have z3 : (4 : Int) ≤ (cap : Int) := by omega
  have e0 : IntKind.u64.wrap (x : Int) = x := by rw [wrapU64]; omega
  have e1 : IntKind.u64.wrap (y : Int) = y := by rw [wrapU64]; omega
  have e2 : IntKind.u64.wrap ((y : Int) * 4294967296) = (y : Int) * 4294967296 := by rw [wrapU64]; omega
  have e3 : bits .or .u64 (x : Int) ((y : Int) * 4294967296) = ((x + 4294967296 * y : Nat) : Int) := by
    have := or_add x y 32 (by omega)
    rw [show (y : Int) * 4294967296 = ((y * 4294967296 : Nat) : Int) by omega, u64_or_nat x (y * 4294967296) (by omega) (by omega)]
    rw [show y * 4294967296 = y * 2 ^ 32 by rfl, this]; simp; omega
  clear hsl hx hy
  go_enter Tryd.func66, Tryd.ntmps66
  go_wp2
  go_quiet (first | (go_at_call 30; first | (refine calls_args (args := #[.slice (some ⟨b, off, none⟩) 8 cap]) (by rfl) ?_; refine Calls.quiet_of_same (H1.out _ rfl)) | (refine calls_args (args := #[.slice (some ⟨b, off + 4, none⟩) 4 (cap - 4)]) (by rfl) ?_; refine Calls.quiet_of_same (H2.out _ rfl))) | fail)
  go_wp2
  go_ret
  have HVI : ((leVal zs : Nat) : Int) = (x : Int) + 4294967296 * (y : Int) := by rw [HV.out]; omega
  exact ⟨by rw [HVI]; rfl, rfl, rfl, rfl, rfl⟩
theorem slb_same {w w' : World} {r b off len : Nat} {zs : List Nat} (h : SlB w (some ⟨b, off, none⟩) len zs) (hg : w.grownBy w' (some r)) (hb : b < w.heap.size) (hne : b ≠ r) : SlB w' (some ⟨b, off, none⟩) len zs := by
  obtain ⟨h1, h2, h3⟩ := h
  refine ⟨h1, h2, fun hn => ?_⟩
  obtain ⟨b', off', he, hc⟩ := h3 hn
  refine ⟨b', off', he, fun i hi => ?_⟩
  simp only [Option.some.injEq, Addr.mk.injEq, and_true] at he
  obtain ⟨rfl, rfl⟩ := he
  have hblk := hg.block b hb (by simp only [ne_eq, Option.some.injEq]; omega)
  have := hc i hi
  unfold World.cell? at this ⊢
  rw [hblk]
  exact this
theorem slb_drop {w : World} {b off off' len n : Nat} {zs : List Nat} (h : SlB w (some ⟨b, off, none⟩) len zs) (hn : n ≤ len) (ho : off' = off ∧ len = n ∨ off' = off + n) : SlB w (some ⟨b, off', none⟩) (len - n) (zs.drop n) := by
  rcases ho with ⟨rfl, rfl⟩ | rfl
  · have hz : zs.length = len := h.1
    rw [Nat.sub_self, List.drop_of_length_le (by omega)]
    exact ⟨rfl, by simp, fun h => absurd rfl h⟩
  · have h1 := slb_cut h n (len - n) (by omega)
    rwa [drop_take_all zs n (len - n) (by rw [h.1]; omega)] at h1
/-- what reading leaves: the rest is what lies behind what was read, unless it is wrong -/
def Left (w0 w : World) (r b len : Nat) (wr wr' : Bool) (zs' : List Nat) : Prop :=
  ∃ off' len' cap', Rd w r b off' len' cap' wr' ∧ SlB w (some ⟨b, off', none⟩) len' zs' ∧ len' ≤ len ∧ len' ≤ cap' ∧ cap' ≤ maxLen ∧ w0.grownBy w (some r) ∧ (wr = true → wr' = true)
set_option maxHeartbeats 800000 in
theorem number_any (r b off len cap : Nat) (wr : Bool) (zs : List Nat) (w : World) (hR : Rd w r b off len cap wr) (hsl : SlB w (some ⟨b, off, none⟩) len zs) (hb : b < w.heap.size) (hne : b ≠ r) (hlc : len ≤ cap) (hm : cap ≤ maxLen) :
    Calls Tryd.prog 39 #[.pointer (some ⟨r, 0, none⟩)] w fun e w' => ∃ (v : Nat) (wr' : Bool) (zs' : List Nat), e = .returned (.int .i64 (v : Int)) ∧ v ≤ 1000000000 ∧ Left w w' r b len wr wr' zs' ∧
      (wr' = false → zs = leN v 8 ++ zs') ∧ (∀ v0 t, wr = false → zs = leN v0 8 ++ t → v0 ≤ 1000000000 → wr' = false) := by
  have hl : zs.length = len := hsl.1
  have hz : ∀ z ∈ zs, z < 256 := hsl.2.1
  by_cases hno : wr = true ∨ len < 8
  · have HT := take_no r b off len cap 8 wr w hR hno
    have HS : Hid (SlB w (some ⟨b, off, none⟩) len zs ∧ zs.length = len) := ⟨hsl, hl⟩
    clear hR hsl hl hz
    go_enter Tryd.func39, Tryd.ntmps39
    go_wp2_with fail
    refine HT.mono ?_
    clear HT
    rintro e w1 ⟨rfl, hR1, hG1⟩
    obtain ⟨c0, c1, f0, f1⟩ := hR1.cells
    have R : Hid (Rd w1 r b off len cap true ∧ w.grownBy w1 (some r)) := ⟨hR1, hG1⟩
    clear hR1 hG1
    go_wp2
    go_ret
    refine ⟨0, true, zs, rfl, by decide, ⟨off, len, cap, R.out.1, slb_same HS.out.1 R.out.2 hb hne, Nat.le_refl _, hlc, hm, R.out.2, fun _ => rfl⟩, fun h => (by cases h), fun v0 t h1 h2 _ => ?_⟩
    exfalso
    rcases hno with h3 | h3
    · rw [h1] at h3; cases h3
    · have := HS.out.2
      rw [h2, List.length_append, leN_len] at this
      omega
  · obtain rfl : wr = false := by cases wr with
      | false => rfl
      | true => exact absurd (.inl rfl) hno
    have h8 : 8 ≤ len := by omega
    have HT := take_ok r b off len cap 8 w hR h8 hlc hm
    obtain ⟨v, hv⟩ : ∃ v, leVal (zs.take 8) = v := ⟨_, rfl⟩
    have hlt : (zs.take 8).length = 8 := by simp; omega
    have hv64 : v < 18446744073709551616 := by
      have := leVal_lt (zs.take 8) (fun z hz' => hz z (List.mem_of_mem_take hz'))
      rw [hlt, hv] at this
      simpa using this
    have HV : Hid (zs = leN v 8 ++ zs.drop 8) := by
      show _ = _
      rw [← hv, leN_leVal _ (fun z hz' => hz z (List.mem_of_mem_take hz')) 8 hlt, List.take_append_drop]
    have HS : Hid (SlB w (some ⟨b, off, none⟩) len zs) := hsl
    clear hR hsl hl hz hno
    go_enter Tryd.func39, Tryd.ntmps39
    go_wp2_with fail
    refine HT.mono ?_
    clear HT
    rintro e w1 ⟨rfl, ⟨off', ho, hR1⟩, hG1⟩
    obtain ⟨c0, c1, f0, f1⟩ := hR1.cells
    have R : Hid (Rd w1 r b off' (len - 8) (cap - 8) false ∧ w.grownBy w1 (some r) ∧ SlB w1 (some ⟨b, off', none⟩) (len - 8) (zs.drop 8)) := ⟨hR1, hG1, slb_same (slb_drop HS.out h8 ho) hG1 hb hne⟩
    have HK : Hid (Calls _ _ _ _ _) := takeLong_any b off cap (zs.take 8) w1 (by have := slb_same HS.out hG1 hb hne; have h9 := slb_cut this 0 8 (by omega); simpa using h9) (by omega) hm
    rw [hv] at HK
    clear hR1 hG1 hlt hv
    go_wp2_with fail
    refine HK.out.mono ?_
    rintro e w2 ⟨rfl, hs2⟩
    have hs2h := hs2.1
    have R2 : Hid (Rd w2 r b off' (len - 8) (cap - 8) false ∧ w.grownBy w2 (some r) ∧ SlB w2 (some ⟨b, off', none⟩) (len - 8) (zs.drop 8)) := ⟨R.out.1.heap hs2.1, grownBy_same R.out.2.1 hs2, R.out.2.2.heap hs2.1⟩
    obtain ⟨d0, d1, g0, g1⟩ := R2.out.1.cells
    clear hs2 hs2h R HK c0 c1 f0 f1
    by_cases hbig : 1000000000 < v
    · have hb1 : (1000000000 : Int) < (v : Int) := by omega
      go_wp2
      go_ret
      refine ⟨0, true, zs.drop 8, rfl, by decide, ⟨off', len - 8, cap - 8, R2.out.1.set1 true, ?_, by omega, by omega, by omega, grownBy_setCell R2.out.2.1, fun _ => rfl⟩, fun h => (by cases h), fun v0 t _ h2 h3 => ?_⟩
      · exact slb_same R2.out.2.2 (grownBy_setCell (grownBy_refl w2 (some r))) (Nat.lt_of_lt_of_le hb R2.out.2.1.size) hne
      · exfalso
        have h4 := HV.out
        rw [h4] at h2
        have := (num_inj (show v < P64 by unfold P64; simpa using hv64) (show v0 < P64 by unfold P64; omega) h2).1
        omega
    · have hb1 : (v : Int) ≤ 1000000000 := by omega
      have hb2 : IntKind.i64.wrap (v : Int) = v := IntWalk.i64_in _ (by omega)
      go_wp2
      go_ret
      exact ⟨v, false, zs.drop 8, by first | rfl | (rw [hb2]; rfl), by omega, ⟨off', len - 8, cap - 8, R2.out.1, R2.out.2.2, by omega, by omega, by omega, R2.out.2.1, fun h => h⟩, fun _ => HV.out, fun _ _ _ _ _ => rfl⟩
theorem bclone_nil (w : World) : Calls Tryd.prog 54 #[.slice none 0 0] w fun e w' => e = .returned (.slice none 0 0) ∧ w' = w := by
  have heq : ∀ w', (binOp .eql 22 (.slice none 0 0) (.slice none 0 0)).run Tryd.prog w' = .ok (.bool true) w' := fun w' => Lib.run_eql_slice_nil_nil w' 0 0 Tryd.underlying22
  go_enter Tryd.func54, Tryd.ntmps54
  go_wp2
  go_ret
  exact ⟨rfl, rfl⟩
/-- a block's beginning, or nothing -/
def oad (o : Option Nat) : Option Addr := o.map fun g => ⟨g, 0, none⟩
set_option maxHeartbeats 800000 in
theorem rbytes_any (r b off len cap n : Nat) (wr : Bool) (zs : List Nat) (w : World) (hR : Rd w r b off len cap wr) (hsl : SlB w (some ⟨b, off, none⟩) len zs) (hb : b < w.heap.size) (hne : b ≠ r) (hlc : len ≤ cap) (hm : cap ≤ maxLen) (hlen : len ≤ 1073741824) :
    Calls Tryd.prog 40 #[.pointer (some ⟨r, 0, none⟩), .int .i64 (n : Int)] w fun e w' => ∃ (o : Option Nat) (m cp : Nat) (d : List Nat) (wr' : Bool) (zs' : List Nat), e = .returned (.slice (oad o) m cp) ∧ OwnS w' 5 (oad o) m d ∧ (o = none → cp = 0) ∧ (∀ g, o = some g → w.heap.size ≤ g) ∧ Left w w' r b len wr wr' zs' ∧
      (wr' = false → m = n ∧ zs = d ++ zs') ∧ (wr = false → n ≤ len → wr' = false) ∧ m ≤ 1073741824 := by
  by_cases hno : wr = true ∨ len < n
  · have HT := take_no r b off len cap n wr w hR hno
    have HS : Hid (SlB w (some ⟨b, off, none⟩) len zs) := hsl
    clear hR hsl
    go_enter Tryd.func40, Tryd.ntmps40
    go_wp2_with fail
    refine HT.mono ?_
    clear HT
    rintro e w1 ⟨rfl, hR1, hG1⟩
    have R : Hid (Rd w1 r b off len cap true ∧ w.grownBy w1 (some r)) := ⟨hR1, hG1⟩
    clear hR1 hG1
    go_wp2_with fail
    refine (bclone_nil w1).mono ?_
    rintro e w2 ⟨rfl, rfl⟩
    go_wp2
    go_ret
    refine ⟨none, 0, 0, [], true, zs, rfl, OwnS.none _ _, fun _ => rfl, fun g h => (by cases h), ⟨off, len, cap, R.out.1, slb_same HS.out R.out.2 hb hne, Nat.le_refl _, hlc, hm, R.out.2, fun _ => rfl⟩, fun h => (by cases h), fun h1 h2 => ?_, by decide⟩
    exfalso
    rcases hno with h3 | h3
    · rw [h1] at h3; cases h3
    · omega
  · obtain rfl : wr = false := by cases wr with
      | false => rfl
      | true => exact absurd (.inl rfl) hno
    have hn : n ≤ len := by omega
    have HT := take_ok r b off len cap n w hR hn hlc hm
    have HS : Hid (SlB w (some ⟨b, off, none⟩) len zs) := hsl
    have hrl := hR.lt
    clear hR hsl hno
    go_enter Tryd.func40, Tryd.ntmps40
    go_wp2_with fail
    refine HT.mono ?_
    clear HT
    rintro e w1 ⟨rfl, ⟨off', ho, hR1⟩, hG1⟩
    have R : Hid (Rd w1 r b off' (len - n) (cap - n) false ∧ w.grownBy w1 (some r) ∧ SlB w1 (some ⟨b, off', none⟩) (len - n) (zs.drop n)) := ⟨hR1, hG1, slb_same (slb_drop HS.out hn ho) hG1 hb hne⟩
    have HK : Hid (Calls _ _ _ _ _) := bclone_some ⟨b, off, none⟩ n cap (zs.take n) w1 (by have h9 := slb_cut (slb_same HS.out hG1 hb hne) 0 n (by omega); simpa using h9) (by omega)
    clear hR1 hG1
    go_wp2_with fail
    refine HK.out.mono ?_
    rintro e w2 ⟨g, cp, rfl, hg, hO, hG⟩
    have R2 : Hid (OwnS w2 5 (some ⟨g, 0, none⟩) n (zs.take n) ∧ w.heap.size ≤ g ∧ Left w w2 r b len false false (zs.drop n)) :=
      ⟨hO.s (by rw [List.length_take, HS.out.1]; omega), Nat.le_trans R.out.2.1.size hg, off', len - n, cap - n, R.out.1.grown hG (by simp), R.out.2.2.grown0 hG, by omega, by omega, by unfold maxLen at *; omega, grownBy_trans R.out.2.1 (grownBy_toSome hG), fun h => h⟩
    clear hO hG hg R HK
    go_wp2
    go_ret
    exact ⟨some g, n, cp, zs.take n, false, zs.drop n, rfl, R2.out.1, fun h => (by cases h), fun g' h => (by cases h; exact R2.out.2.1), R2.out.2.2, fun _ => ⟨rfl, (List.take_append_drop n zs).symm⟩, fun _ _ => rfl, by omega⟩
end Go.Proofs.YtdajcpcajdhplaaDoor
