/-
  Records, Records2, RangeB, RoundB
-/
import Derived.Test.YtjnegjgpkboocaaGreatDoorWal7
import Derived.RangeFuncNested
import Derived.RangeFuncBound
import Derived.RangeFuncCalls
import Derived.RangeFuncLeaves
import Derived.RangeFuncSeq
import Derived.Stop.RegionWithIn
import Derived.Deep.RegionWith
import Derived.OwnWalkIn
import Derived.TacticsInMore
import Derived.LoopNIn
import Derived.LoopIn
import Derived.Test.YtjnegjgpkboocaaGreatDoorWal1
import Derived.RangeFuncRecord
import Derived.Test.YtjnegjgpkboocaaGreatDoorWal2
import Derived.OrdersIn
/-
  The program's records (what a scan is ranged over by), walked.
-/
namespace Go.Proofs.YtjnegjgpkboocaaGreatDoor
open Go.RowKit

/-- the scan's own struct -/
def ScanAt (w : World) (S : Nat) (oa : Option Addr) (len cap : Nat) (at_ r : Int) : Prop :=
  w.heap[S]? = some (.cells #[.slice oa len cap, .int .i64 at_, .int .i64 r] 120 (0, 0))
theorem ScanAt.cells {w : World} {S : Nat} {oa : Option Addr} {len cap : Nat} {at_ r : Int} (h : ScanAt w S oa len cap at_ r) :
    w.cell? ⟨S, 0, none⟩ = some (.slice oa len cap) ∧ w.cell? ⟨S, 1, none⟩ = some (.int .i64 at_) ∧ w.cell? ⟨S, 2, none⟩ = some (.int .i64 r) ∧ (∀ k, w.frozen? ⟨S, k, none⟩ = false) ∧ S < w.heap.size := by
  have h' : w.heap[S]? = _ := h; refine ⟨by simp [World.cell?, h'], by simp [World.cell?, h'], by simp [World.cell?, h'], fun k => by simp [World.frozen?, h'], (Array.getElem?_eq_some_iff.1 h').1⟩
theorem ScanAt.set1 {w : World} {S : Nat} {oa : Option Addr} {len cap : Nat} {at_ r : Int} (h : ScanAt w S oa len cap at_ r) (x : Int) : ScanAt (w.setCell ⟨S, 1, none⟩ (.int .i64 x)) S oa len cap x r :=
  heap_setCell_same w S 1 _ _ _ h
theorem ScanAt.set2 {w : World} {S : Nat} {oa : Option Addr} {len cap : Nat} {at_ r : Int} (h : ScanAt w S oa len cap at_ r) (x : Int) : ScanAt (w.setCell ⟨S, 2, none⟩ (.int .i64 x)) S oa len cap at_ x :=
  heap_setCell_same w S 2 _ _ _ h
/-- a number in a cell -/
def cellNat (w : World) (a : Addr) : Nat := match w.cell? a with | some (.int _ i) => i.toNat | _ => 0

theorem Tab_row {w w' : World} {row : Option Nat} (h : Tab w) (hg : w.grownBy w' row) (hne : some 13 ≠ row) : Tab w' := fun r hr =>
  (World.cell?_of_block (w := w) (a := ⟨13, r, none⟩) (hg.block _ (cell_block_lt (h r hr)) hne)).trans (h r hr)

set_option maxRecDepth 100000 in
set_option maxHeartbeats 4000000 in
theorem records_any (l S b off : Nat) (len cap : Nat) (zs : List Nat) (J : List (Nat × List Nat) → World → Prop) (hlc : len ≤ cap) (hm : cap ≤ maxLen) (hm2 : len ≤ 1048576) (hbS : b ≠ S) (hTS : 13 ≠ S)
    (hA : ∀ pre W W', J pre W → W.grownBy W' (some S) → J pre W')
    (hY : ∀ pre ty data g cp (W0 W : World), pre.length < (scan zs).1.length → ty < 256 → (∀ z ∈ data, z < 256) → J pre W0 → W0.grownBy W (some S) → W0.heap.size ≤ g → Own W 5 g data → SlB W (some ⟨b, off, none⟩) len zs → Tab W → YieldAt Fence.wide 0 Tryz.prog l #[.agg #[.int .i64 (ty : Nat), .slice (some ⟨g, 0, none⟩) data.length cp]] W
      fun e W' => e = .returned (.bool true) ∧ J (pre ++ [(ty, data)]) W' ∧ W'.heap[S]? = W.heap[S]? ∧ SlB W' (some ⟨b, off, none⟩) len zs ∧ Tab W')
    (w : World) (r : Int) (hS : ScanAt w S (some ⟨b, off, none⟩) len cap 0 r) (hsl : SlB w (some ⟨b, off, none⟩) len zs) (ht : Tab w) (h0 : J [] w) :
    Calls Tryz.prog 59 #[.pointer (some ⟨S, 0, none⟩), .func (.yield l) #[] #[]] w fun e w' => (∃ v, e = .returned v) ∧ J (scan zs).1 w' ∧ ScanAt w' S (some ⟨b, off, none⟩) len cap (((scan zs).2.1 : Nat) : Int) (((scan zs).2.2 : Nat) : Int) := by
  unfold maxLen at hm
  have HA : Hid (∀ pre W W', _ → _ → _) := hA; have HY : Hid (∀ pre ty data g cp (W0 W : World), _) := hY; have H0 : Hid (_ ∧ _ ∧ _ ∧ _) := And.intro hS (And.intro hsl (And.intro ht h0)); have hl : zs.length = len := hsl.1; clear hA hY hS hsl ht h0
  go_enter Tryz.func59, Tryz.ntmps59
  go_wp2
  go_loopw [4] (fun _ wr => ∃ (at_ : Nat) (r : Int) (pre : List (Nat × List Nat)), At zs pre at_ ∧ ScanAt wr S (some ⟨b, off, none⟩) len cap at_ r ∧ SlB wr (some ⟨b, off, none⟩) len zs ∧ Tab wr ∧ J pre wr) (fun _ wr => len - cellNat wr ⟨S, 1, none⟩)
  case atStart => exact ⟨0, r, [], At.zero zs, H0.out.1, H0.out.2.1, H0.out.2.2.1, H0.out.2.2.2⟩
  case round =>
    obtain ⟨at_, r, pre, hAt, hS, hsl, ht, hJ⟩ := hrel; have hat := hAt.1; rw [hl] at hat; obtain ⟨c0, c1, c2, cf, hSlt⟩ := hS.cells; have cf0 := cf 0; have cf1 := cf 1; have cf2 := cf 2; obtain ⟨ad, had⟩ : ∃ ad : Option Addr, (if cap = at_ then some (⟨b, off, none⟩ : Addr) else some ⟨b, off + at_, none⟩) = ad := ⟨_, rfl⟩
    have hrest : SlB wr ad (len - at_) (zs.drop at_) := by
      have h1 := hsl.cut at_ (len - at_) cap (by omega) hlc; rw [had, List.take_of_length_le (by simp; omega)] at h1; exact h1
    have hatI : (at_ : Int) ≤ (len : Int) := by omega
    have hat0 : (0 : Int) ≤ (at_ : Int) := by omega
    have HF : Hid (∀ w' : World, w'.heap = wr.heap → Calls _ _ _ w' _) := fun w' hh => frameFault_any ad (len - at_) (cap - at_) (zs.drop at_) w' (hrest.heap hh) (ht.heap hh) (by omega) (by unfold maxLen; omega) (by omega)
    have HW : Hid (At zs pre at_ ∧ ScanAt wr S _ len cap at_ r ∧ SlB wr (some ⟨b, off, none⟩) len zs ∧ Tab wr ∧ J pre wr ∧ SlB wr ad (len - at_) (zs.drop at_)) := ⟨hAt, hS, hsl, ht, hJ, hrest⟩; clear hAt hS hsl ht hJ hrest cf; go_wp2; go_quiet (fail); go_wp2_with fail; refine (HF.out (wr.drewN nq) rfl).mono ?_; have HAD : Hid (_ = ad) := had; clear HF had c0 c1 c2 cf0 cf1 cf2; rintro e w1 ⟨rfl, hG1'⟩; have hG1 : wr.grownBy w1 none := grownBy_trans (grownBy_drewN wr nq) hG1'; have hS1 : ScanAt w1 S (some ⟨b, off, none⟩) len cap at_ r := (hG1.block S hSlt (by simp)).trans HW.out.2.1; obtain ⟨d0, d1, d2, df, hSlt1⟩ := hS1.cells; have df0 := df 0; have df1 := df 1; have df2 := df 2; have HW1 : Hid (wr.grownBy w1 none ∧ ScanAt w1 S (some ⟨b, off, none⟩) len cap at_ r) := ⟨hG1, hS1⟩; have HLEN : Hid ((zs.drop at_).length = len - at_) := HW.out.2.2.2.2.2.1; obtain ⟨f, hf⟩ : ∃ f, fault (zs.drop at_) = f := ⟨_, rfl⟩; have HFE : Hid (fault (zs.drop at_) = f) := hf; rw [hf]; clear hG1 hG1' hS1 hf df
    have HEND : Hid (f ≠ 0 ∨ len - at_ = 0 → J (scan zs).1 (w1.setCell ⟨S, 2, none⟩ (.int .i64 (f : Int))) ∧ ScanAt (w1.setCell ⟨S, 2, none⟩ (.int .i64 (f : Int))) S (some ⟨b, off, none⟩) len cap (((scan zs).2.1 : Nat) : Int) (((scan zs).2.2 : Nat) : Int)) := by
      intro h; have hd := HW.out.1.done (by rw [HFE.out, HLEN.out]; exact h); rw [hd, HFE.out]; exact ⟨HA.out _ wr _ HW.out.2.2.2.2.1 (grownBy_setCell (grownBy_weak HW1.out.1)), HW1.out.2.set2 f⟩
    by_cases hf0 : f = 0
    · subst hf0
      by_cases hlz : len - at_ = 0
      · have hz2 : ((len - at_ : Nat) : Int) = 0 := by omega
        go_wp2; refine bodyPost_ret (results_none rfl _ _ _) rfl ?_; exact ⟨⟨_, rfl⟩, HEND.out (.inr hlz)⟩
      · clear HEND
        have hne : ¬ (fault (zs.drop at_) ≠ 0 ∨ (zs.drop at_).length = 0) := by rw [HFE.out, HLEN.out]; omega
        have hok := fault_ok _ hne
        have h12 : 12 ≤ len - at_ := by rw [← HLEN.out]; exact hok.1
        have hE : ad = some ⟨b, off + at_, none⟩ := by rw [← HAD.out, if_neg (by omega)]
        clear HAD; subst hE; obtain ⟨Z, hZ⟩ : ∃ Z, zs.drop at_ = Z := ⟨_, rfl⟩; rw [hZ] at hok HLEN HFE hne; have hsz := hok.2.2.1; rw [HLEN.out] at hsz
        have hn8 : recN Z ≤ 8192 := Nat.le_of_not_lt fun h => hok.2.1 (.inl h)
        unfold recSize at hsz
        have hG2 : wr.grownBy (w1.setCell ⟨S, 2, none⟩ (.int .i64 0)) (some S) := grownBy_setCell (grownBy_weak HW1.out.1); have hS2 := HW1.out.2.set2 0; obtain ⟨W2, hW2⟩ : ∃ W2, w1.setCell ⟨S, 2, none⟩ (.int .i64 0) = W2 := ⟨_, rfl⟩
        have HB2 : Hid (SlB (w1.setCell ⟨S, 2, none⟩ (.int .i64 0)) (some ⟨b, off + at_, none⟩) (len - at_) Z) := by
          show SlB _ _ _ _
          have h1 := HW.out.2.2.2.2.2; rw [hZ] at h1
          exact h1.grown hG2 (fun b' off' h => by
            obtain ⟨rfl, -⟩ : b = b' ∧ off + at_ = off' := by simpa using h
            simpa using hbS)
        have HP : Hid (∀ w', Calls _ _ _ w' _) := fun w' => padding_any (recN Z) w' (by omega)
        have HT : Hid (∀ w' : World, w'.heap = (w1.setCell ⟨S, 2, none⟩ (.int .i64 0)).heap → Calls _ _ _ w' _) := fun w' hh => takeNumber_any _ (len - at_) (cap - at_) Z w' (HB2.out.heap hh) (by omega) (by omega)
        rw [show leVal (Z.take 4) = recN Z from rfl] at HT; have HNE : Hid (¬ (fault Z ≠ 0 ∨ Z.length = 0)) := hne; obtain ⟨n, hn⟩ : ∃ n, recN Z = n := ⟨_, rfl⟩; obtain ⟨p, hp⟩ : ∃ p, pad n = p := ⟨_, rfl⟩; rw [hn] at HT HP hsz hn8; rw [hp] at HP hsz; have HN : Hid (recN Z = n ∧ pad n = p ∧ zs.drop at_ = Z) := ⟨hn, hp, hZ⟩; clear hne hok hn hp hG2 hS2 hW2 hZ HFE
        have hlz2 : ((len - at_ : Nat) : Int) ≠ 0 := by omega
        have hlz3 : (((len - at_ : Nat) : Int) == 0) = false := by rw [beq_eq_false_iff_ne]; exact hlz2
        go_wp2_with fail; refine (HT.out _ rfl).mono ?_; rintro e w2 ⟨rfl, hw2⟩
        have hS2 : ScanAt w2 S (some ⟨b, off, none⟩) len cap at_ 0 := by rw [hw2]; exact HW1.out.2.set2 0
        have HG2 : Hid (wr.grownBy w2 (some S) ∧ ScanAt w2 S (some ⟨b, off, none⟩) len cap at_ 0) := ⟨by rw [hw2]; exact grownBy_setCell (grownBy_weak HW1.out.1), hS2⟩; obtain ⟨e0, e1, e2, ef, hSlt2⟩ := hS2.cells; have ef1 := ef 1
        have HB3 : Hid (SlB w2 (some ⟨b, off + at_, none⟩) (len - at_) Z) := by show SlB _ _ _ _; rw [hw2]; exact HB2.out
        clear HB2 HT HW1 d0 d1 d2 df0 df1 df2 hS2 ef hw2 e0 e2 hSlt1; go_wp2_with fail; have v1 : IntKind.i64.wrap (12 + (n : Int)) = 12 + n := IntWalk.i64_in _ (by omega); have v2 : IntKind.i64.wrap (12 + (n : Int) + p) = 12 + n + p := IntWalk.i64_in _ (by omega); have v3 : IntKind.i64.wrap ((at_ : Int) + (12 + n + p)) = at_ + (12 + n + p) := IntWalk.i64_in _ (by omega)
        go_region_with (first | (go_at_call 77; refine (HP.out _).mono ?_; rintro e w3 ⟨rfl, rfl⟩) | fail)
        all_goals
          have hS3 : ScanAt ((w2.setCell ⟨S, 1, none⟩ (.int .i64 ((at_ : Int) + (12 + n + p)))).drew) S (some ⟨b, off, none⟩) len cap ((at_ : Int) + (12 + n + p)) 0 := HG2.out.2.set1 _; have hG3 : wr.grownBy ((w2.setCell ⟨S, 1, none⟩ (.int .i64 ((at_ : Int) + (12 + n + p)))).drew) (some S) := grownBy_drew (grownBy_setCell HG2.out.1)
          have hR3 : SlB ((w2.setCell ⟨S, 1, none⟩ (.int .i64 ((at_ : Int) + (12 + n + p)))).drew) (some ⟨b, off + at_, none⟩) (len - at_) Z := by
            have h1 := HW.out.2.2.2.2.2; rw [HN.out.2.2] at h1
            exact h1.grown hG3 (fun b' off' h => by
              obtain ⟨rfl, -⟩ : b = b' ∧ off + at_ = off' := by simpa using h
              simpa using hbS)
          generalize (w2.setCell ⟨S, 1, none⟩ (.int .i64 ((at_ : Int) + (12 + n + p)))).drew = W3 at hS3 hG3 hR3 ⊢; have c4 := hR3.cellAt 4 (by omega); obtain ⟨z4, hz4⟩ : ∃ z, Z.getD 4 0 = z := ⟨_, rfl⟩; rw [hz4] at c4
          have hz256 : z4 < 256 := by rw [← hz4]; exact hR3.2.1 _ (Crc.getD_mem _ _ (by rw [HLEN.out]; omega))
          obtain ⟨ad, had⟩ : ∃ ad : Option Addr, (if cap - at_ = 12 then some (⟨b, off + at_, none⟩ : Addr) else some ⟨b, off + at_ + 12, none⟩) = ad := ⟨_, rfl⟩
          obtain ⟨aa, haa⟩ : ∃ a, ad = some a := by rw [← had]; split <;> exact ⟨_, rfl⟩
          subst haa
          have hD : SlB W3 (some aa) n ((Z.drop 12).take n) := by rw [← had]; exact hR3.cut 12 n (cap - at_) (by omega) (by omega)
          have HC : Hid (∀ w' : World, w'.heap = W3.heap → CallsIn Fence.wide 0 _ _ _ w' _) := fun w' hh => callsIn_wide.2 (clone_some aa n (cap - at_ - 12) ((Z.drop 12).take n) w' (hD.heap hh) (by omega))
          have HZ4 : Hid (Z.getD 4 0 = z4) := hz4
          have HYY : Hid (∀ g cp w4, W3.drew.heap.size ≤ g → Own w4 5 g ((Z.drop 12).take n) → W3.drew.grownBy w4 none → YieldAt Fence.wide 0 Tryz.prog l #[.agg #[.int .i64 (z4 : Int), .slice (some ⟨g, 0, none⟩) n cp]] w4 _) := fun g cp w4 hg hO4 hG4 => by
            have hG5 : wr.grownBy w4 (some S) := grownBy_trans hG3 (grownBy_weak (grownBy_trans (grownBy_drew (grownBy_refl W3 none)) hG4))
            have h1 := HY.out pre z4 ((Z.drop 12).take n) g cp wr w4 (HW.out.1.more (by rw [HN.out.2.2]; exact HNE.out)) hz256 hO4.1 HW.out.2.2.2.2.1 hG5 (Nat.le_trans hG3.size hg) hO4 (HW.out.2.2.1.grown hG5 (fun b' off' h => by
              obtain ⟨rfl, -⟩ : b = b' ∧ off = off' := by simpa using h
              simpa using hbS)) (Tab_row HW.out.2.2.2.1 hG5 (by simpa using hTS))
            rw [show ((Z.drop 12).take n).length = n by simp; rw [HLEN.out]; omega] at h1; exact h1
          have HW3 : Hid (ScanAt W3 S (some ⟨b, off, none⟩) len cap ((at_ : Int) + (12 + n + p)) 0 ∧ wr.grownBy W3 (some S)) := ⟨hS3, hG3⟩; clear hS3 hG3 hR3 hz4 hD v2 v3 e1 ef1 HB3 HG2 HP
          have h4I : (4 : Int) < ((len - at_ : Nat) : Int) := by omega
          have q1 : (12 : Int) + n ≤ ((cap - at_ : Nat) : Int) := by omega
          have q2 : (0 : Int) ≤ (12 : Int) + n := by omega
          have q3 : (12 : Int) ≤ (12 : Int) + n := by omega
          have q4 : max ((12 : Int) + n) 0 = 12 + n := by omega
          have q5 : ((12 : Int) + n).toNat - 12 = n := by omega
          have q6 : IntKind.i64.wrap (z4 : Int) = z4 := IntWalk.i64_in _ (by omega); go_wp2_with fail; refine (wpIn_wide (n := 0)).1 ?_
          gi_region_with (first
            | (refine ⟨trivial, rfl, ?_⟩; gi_at_call 78; refine (HC.out W3.drew rfl).mono ?_; rintro e w4 ⟨g, cp, rfl, hg, hO4, hG4⟩; have c44 : w4.cell? ⟨b, off + at_ + 4, none⟩ = some (.int .u8 (z4 : Int)) := ((bcell hG4).1 _ _ (cell_block_lt c4)).trans c4; obtain ⟨fn, tm, asg, bd, hy, hR⟩ := HYY.out g cp w4 hg hO4 hG4; have H4 : Hid (W3.grownBy w4 none) := grownBy_trans (grownBy_drew (grownBy_refl W3 none)) hG4; clear hg hO4 hG4)
            | (refine ⟨rfl, ?_⟩; refine hR.mono ?_; rintro e W5 ⟨rfl, hR5⟩)
            | fail)
          all_goals
            have hS5 : ScanAt W5 S (some ⟨b, off, none⟩) len cap (((at_ + (12 + n + p) : Nat)) : Int) 0 := by
              have h1 := HW3.out.1; have h2 : w4.heap[S]? = W3.heap[S]? := H4.out.block S h1.cells.2.2.2.2 (by simp)
              show W5.heap[S]? = _
              rw [hR5.2.1, h2]; have h3 : W3.heap[S]? = _ := h1; rw [h3]
              simp
            have HR5 : Hid (ScanAt W5 S (some ⟨b, off, none⟩) len cap (((at_ + (12 + n + p) : Nat)) : Int) 0 ∧ J (pre ++ [(z4, (Z.drop 12).take n)]) W5 ∧ SlB W5 (some ⟨b, off, none⟩) len zs ∧ Tab W5) := ⟨hS5, hR5.1, hR5.2.2.1, hR5.2.2.2⟩
            have HAT : Hid (At zs (pre ++ [(z4, (Z.drop 12).take n)]) (at_ + (12 + n + p))) := by
              have h1 := HW.out.1.next (by rw [HN.out.2.2]; exact HNE.out); rw [HN.out.2.2, HN.out.1, HZ4.out] at h1
              have h2 : recSize Z = 12 + n + p := by unfold recSize; rw [HN.out.1, HN.out.2.1]
              rw [h2] at h1; exact h1
            have HM : Hid (cellNat W5 ⟨S, 1, none⟩ = at_ + (12 + n + p) ∧ cellNat wr ⟨S, 1, none⟩ = at_) := by
              constructor
              · simp [cellNat, hS5.cells.2.1]; omega
              · simp [cellNat, HW.out.2.1.cells.2.1]
            clear hS5 hR5 hy hR c44 c4 H4 had; go_wp2; refine ⟨?rel, ?measure⟩
            case rel =>
              refine ⟨_, _, _, _, _, _, _, _, _, _, _, _, _, _, _, _, _, _, _, _, _, _, _, _, _, _, _, _, _, _, _, _, _, _, _, _, _, _, _, _, _, _, _, _, _, _, _, _, _, _, _, _, _, _, ?_, rfl⟩; exact ⟨at_ + (12 + n + p), 0, pre ++ [(z4, (Z.drop 12).take n)], HAT.out, HR5.out.1, HR5.out.2.2.1, HR5.out.2.2.2, HR5.out.2.1⟩
            case measure => rw [HM.out.1, HM.out.2]; omega
    · have hf1 : ((f : Int) != 0) = true := by rw [bne_iff_ne]; omega
      go_wp2; refine bodyPost_ret (results_none rfl _ _ _) rfl ?_; exact ⟨⟨_, rfl⟩, HEND.out (.inl hf0)⟩
theorem At.pre {zs : List Nat} {pre : List (Nat × List Nat)} {at_ : Nat} (h : At zs pre at_) : pre <+: (scan zs).1 := by rw [h.2]; exact ⟨_, rfl⟩
theorem rec_ty {zs : List Nat} (h : ¬ (fault zs ≠ 0 ∨ zs.length = 0)) : 1 ≤ zs.getD 4 0 := by
  have h1 := (fault_ok zs h).2.1
  by_cases hz : zs.getD 4 0 = 0
  · exact absurd (.inr (.inl hz)) h1
  · omega
theorem ownsRow_caps2 {w : World} {base e size g n cap : Nat} {xs : List Value} (h : w.ownsRow base e size (.slice (some ⟨g, 0, none⟩) n cap) n xs) : n ≤ cap ∧ cap ≤ maxLen := by
  rcases h.2 with ⟨h0, _⟩ | ⟨g', cap', cur, h0, hb, hg, hc, hm, hs, ht⟩
  · simp at h0
  · simp only [Value.slice.injEq, Option.some.injEq, Addr.mk.injEq, and_true, true_and] at h0; obtain ⟨-, rfl⟩ := h0; exact ⟨hc, hm⟩
theorem clone_cap (a : Addr) (len cap : Nat) (zs : List Nat) (w : World) (hsl : SlB w (some a) len zs) (hm : len ≤ 1073741824) :
    Calls Tryz.prog 78 #[.slice (some a) len cap] w fun e w' => ∃ g cp, e = .returned (.slice (some ⟨g, 0, none⟩) len cp) ∧ (w.heap.size ≤ g ∧ len ≤ cp ∧ cp ≤ maxLen) ∧ Own w' 5 g zs ∧ w.grownBy w' none := by
  obtain ⟨i0, TB⟩ := byteT; have HS : Hid (SlB w (some a) len zs) := hsl; have HZ : Hid (∀ z ∈ zs, z < 256) := hsl.2.1
  have heq : ∀ w', (binOp .eql 37 (.slice (some a) len cap) (.slice none 0 0)).run Tryz.prog w' = .ok (.bool false) w' := fun w' => Lib.run_eql_slice_some_nil w' a len cap Tryz.underlying37
  clear hsl
  go_enter Tryz.func78, Tryz.ntmps78
  go_wp2_with (at_builtin; refine wpList_append_b (by rfl) (.tmp 5) (.tmp 6) TB (by rfl) (base := w.heap.size) (g := w.heap.size) (n := 0) (cap := 0) (xs := []) (by rfl) (by exact World.ownsRow_made w #[] 0 (Nat.le_refl _) (Nat.zero_le _) rfl) (oa := some a) (m := len) (c := cap) (zs := zs) (by rfl) (by exact HS.out.grown0 (World.grownBy_alloc _ _ _)) (by omega) (by simp) ?_; intro g' cap' w1 hown' hgr hat hsz1)
  go_ret; have C1 : w.grownBy w1 none := grown_next hgr.out (World.grownBy_alloc w _ _) ⟨rfl, rfl, rfl, rfl⟩ (Nat.le_refl _); have h1 := hown'.out; rw [Nat.zero_add, List.nil_append] at h1; exact ⟨g', cap', rfl, ⟨(h1.lt g' rfl).1, ownsRow_caps2 h1⟩, own_made h1 HZ.out, C1⟩
set_option maxRecDepth 100000 in
set_option maxHeartbeats 4000000 in
theorem records_wide (l S b off : Nat) (len cap : Nat) (zs : List Nat) (J : List (Nat × List Nat) → World → Prop) (K : World → Prop) (hlc : len ≤ cap) (hm : cap ≤ maxLen) (hm2 : len ≤ 1048576) (hbS : b ≠ S) (hTS : 13 ≠ S)
    (hA : ∀ pre W W', J pre W → W.grownBy W' (some S) → J pre W')
    (hY : ∀ pre ty data g cp (W0 W : World), (pre ++ [(ty, data)]) <+: (scan zs).1 → 1 ≤ ty → ty < 256 → data.length ≤ 8192 → data.length ≤ cp → cp ≤ maxLen → (∀ z ∈ data, z < 256) → J pre W0 → W0.grownBy W (some S) → W0.heap.size ≤ g → Own W 5 g data → SlB W (some ⟨b, off, none⟩) len zs → Tab W → (∃ x y, ScanAt W S (some ⟨b, off, none⟩) len cap x y) → YieldAt Fence.wide 0 Tryz.prog l #[.agg #[.int .i64 (ty : Nat), .slice (some ⟨g, 0, none⟩) data.length cp]] W
      fun e W' => ∃ bo : Bool, e = .returned (.bool bo) ∧ ((bo = true ∧ J (pre ++ [(ty, data)]) W' ∧ W'.heap[S]? = W.heap[S]? ∧ SlB W' (some ⟨b, off, none⟩) len zs ∧ Tab W') ∨ (bo = false ∧ K W')))
    (w : World) (r : Int) (hS : ScanAt w S (some ⟨b, off, none⟩) len cap 0 r) (hsl : SlB w (some ⟨b, off, none⟩) len zs) (ht : Tab w) (h0 : J [] w) :
    Calls Tryz.prog 59 #[.pointer (some ⟨S, 0, none⟩), .func (.yield l) #[] #[]] w fun e w' => (∃ v, e = .returned v) ∧ ((J (scan zs).1 w' ∧ ScanAt w' S (some ⟨b, off, none⟩) len cap (((scan zs).2.1 : Nat) : Int) (((scan zs).2.2 : Nat) : Int)) ∨ K w') := by
  unfold maxLen at hm
  have HA : Hid (∀ pre W W', _ → _ → _) := hA; have HY : Hid (∀ pre ty data g cp (W0 W : World), _) := hY; have H0 : Hid (_ ∧ _ ∧ _ ∧ _) := And.intro hS (And.intro hsl (And.intro ht h0)); have hl : zs.length = len := hsl.1; clear hA hY hS hsl ht h0
  go_enter Tryz.func59, Tryz.ntmps59
  go_wp2
  go_loopw [4] (fun _ wr => ∃ (at_ : Nat) (r : Int) (pre : List (Nat × List Nat)), At zs pre at_ ∧ ScanAt wr S (some ⟨b, off, none⟩) len cap at_ r ∧ SlB wr (some ⟨b, off, none⟩) len zs ∧ Tab wr ∧ J pre wr) (fun _ wr => len - cellNat wr ⟨S, 1, none⟩)
  case atStart => exact ⟨0, r, [], At.zero zs, H0.out.1, H0.out.2.1, H0.out.2.2.1, H0.out.2.2.2⟩
  case round =>
    obtain ⟨at_, r, pre, hAt, hS, hsl, ht, hJ⟩ := hrel; have hat := hAt.1; rw [hl] at hat; obtain ⟨c0, c1, c2, cf, hSlt⟩ := hS.cells; have cf0 := cf 0; have cf1 := cf 1; have cf2 := cf 2; obtain ⟨ad, had⟩ : ∃ ad : Option Addr, (if cap = at_ then some (⟨b, off, none⟩ : Addr) else some ⟨b, off + at_, none⟩) = ad := ⟨_, rfl⟩
    have hrest : SlB wr ad (len - at_) (zs.drop at_) := by
      have h1 := hsl.cut at_ (len - at_) cap (by omega) hlc; rw [had, List.take_of_length_le (by simp; omega)] at h1; exact h1
    have hatI : (at_ : Int) ≤ (len : Int) := by omega
    have hat0 : (0 : Int) ≤ (at_ : Int) := by omega
    have HF : Hid (∀ w' : World, w'.heap = wr.heap → Calls _ _ _ w' _) := fun w' hh => frameFault_any ad (len - at_) (cap - at_) (zs.drop at_) w' (hrest.heap hh) (ht.heap hh) (by omega) (by unfold maxLen; omega) (by omega)
    have HW : Hid (At zs pre at_ ∧ ScanAt wr S _ len cap at_ r ∧ SlB wr (some ⟨b, off, none⟩) len zs ∧ Tab wr ∧ J pre wr ∧ SlB wr ad (len - at_) (zs.drop at_)) := ⟨hAt, hS, hsl, ht, hJ, hrest⟩; clear hAt hS hsl ht hJ hrest cf; go_wp2; go_quiet (fail); go_wp2_with fail; refine (HF.out (wr.drewN nq) rfl).mono ?_; have HAD : Hid (_ = ad) := had; clear HF had c0 c1 c2 cf0 cf1 cf2; rintro e w1 ⟨rfl, hG1'⟩; have hG1 : wr.grownBy w1 none := grownBy_trans (grownBy_drewN wr nq) hG1'; have hS1 : ScanAt w1 S (some ⟨b, off, none⟩) len cap at_ r := (hG1.block S hSlt (by simp)).trans HW.out.2.1; obtain ⟨d0, d1, d2, df, hSlt1⟩ := hS1.cells; have df0 := df 0; have df1 := df 1; have df2 := df 2; have HW1 : Hid (wr.grownBy w1 none ∧ ScanAt w1 S (some ⟨b, off, none⟩) len cap at_ r) := ⟨hG1, hS1⟩; have HLEN : Hid ((zs.drop at_).length = len - at_) := HW.out.2.2.2.2.2.1; obtain ⟨f, hf⟩ : ∃ f, fault (zs.drop at_) = f := ⟨_, rfl⟩; have HFE : Hid (fault (zs.drop at_) = f) := hf; rw [hf]; clear hG1 hG1' hS1 hf df
    have HEND : Hid (f ≠ 0 ∨ len - at_ = 0 → J (scan zs).1 (w1.setCell ⟨S, 2, none⟩ (.int .i64 (f : Int))) ∧ ScanAt (w1.setCell ⟨S, 2, none⟩ (.int .i64 (f : Int))) S (some ⟨b, off, none⟩) len cap (((scan zs).2.1 : Nat) : Int) (((scan zs).2.2 : Nat) : Int)) := by
      intro h; have hd := HW.out.1.done (by rw [HFE.out, HLEN.out]; exact h); rw [hd, HFE.out]; exact ⟨HA.out _ wr _ HW.out.2.2.2.2.1 (grownBy_setCell (grownBy_weak HW1.out.1)), HW1.out.2.set2 f⟩
    by_cases hf0 : f = 0
    · subst hf0
      by_cases hlz : len - at_ = 0
      · have hz2 : ((len - at_ : Nat) : Int) = 0 := by omega
        go_wp2; refine bodyPost_ret (results_none rfl _ _ _) rfl ?_; exact ⟨⟨_, rfl⟩, .inl (HEND.out (.inr hlz))⟩
      · clear HEND
        have hne : ¬ (fault (zs.drop at_) ≠ 0 ∨ (zs.drop at_).length = 0) := by rw [HFE.out, HLEN.out]; omega
        have hok := fault_ok _ hne
        have h12 : 12 ≤ len - at_ := by rw [← HLEN.out]; exact hok.1
        have hE : ad = some ⟨b, off + at_, none⟩ := by rw [← HAD.out, if_neg (by omega)]
        clear HAD; subst hE; obtain ⟨Z, hZ⟩ : ∃ Z, zs.drop at_ = Z := ⟨_, rfl⟩; rw [hZ] at hok HLEN HFE hne; have hsz := hok.2.2.1; rw [HLEN.out] at hsz
        have hn8 : recN Z ≤ 8192 := Nat.le_of_not_lt fun h => hok.2.1 (.inl h)
        unfold recSize at hsz
        have hG2 : wr.grownBy (w1.setCell ⟨S, 2, none⟩ (.int .i64 0)) (some S) := grownBy_setCell (grownBy_weak HW1.out.1); have hS2 := HW1.out.2.set2 0; obtain ⟨W2, hW2⟩ : ∃ W2, w1.setCell ⟨S, 2, none⟩ (.int .i64 0) = W2 := ⟨_, rfl⟩
        have HB2 : Hid (SlB (w1.setCell ⟨S, 2, none⟩ (.int .i64 0)) (some ⟨b, off + at_, none⟩) (len - at_) Z) := by
          show SlB _ _ _ _
          have h1 := HW.out.2.2.2.2.2; rw [hZ] at h1
          exact h1.grown hG2 (fun b' off' h => by
            obtain ⟨rfl, -⟩ : b = b' ∧ off + at_ = off' := by simpa using h
            simpa using hbS)
        have HP : Hid (∀ w', Calls _ _ _ w' _) := fun w' => padding_any (recN Z) w' (by omega)
        have HT : Hid (∀ w' : World, w'.heap = (w1.setCell ⟨S, 2, none⟩ (.int .i64 0)).heap → Calls _ _ _ w' _) := fun w' hh => takeNumber_any _ (len - at_) (cap - at_) Z w' (HB2.out.heap hh) (by omega) (by omega)
        rw [show leVal (Z.take 4) = recN Z from rfl] at HT; have HNE : Hid (¬ (fault Z ≠ 0 ∨ Z.length = 0)) := hne; obtain ⟨n, hn⟩ : ∃ n, recN Z = n := ⟨_, rfl⟩; obtain ⟨p, hp⟩ : ∃ p, pad n = p := ⟨_, rfl⟩; rw [hn] at HT HP hsz hn8; rw [hp] at HP hsz; have HN : Hid (recN Z = n ∧ pad n = p ∧ zs.drop at_ = Z) := ⟨hn, hp, hZ⟩; clear hne hok hn hp hG2 hS2 hW2 hZ HFE
        have hlz2 : ((len - at_ : Nat) : Int) ≠ 0 := by omega
        have hlz3 : (((len - at_ : Nat) : Int) == 0) = false := by rw [beq_eq_false_iff_ne]; exact hlz2
        go_wp2_with fail; refine (HT.out _ rfl).mono ?_; rintro e w2 ⟨rfl, hw2⟩
        have hS2 : ScanAt w2 S (some ⟨b, off, none⟩) len cap at_ 0 := by rw [hw2]; exact HW1.out.2.set2 0
        have HG2 : Hid (wr.grownBy w2 (some S) ∧ ScanAt w2 S (some ⟨b, off, none⟩) len cap at_ 0) := ⟨by rw [hw2]; exact grownBy_setCell (grownBy_weak HW1.out.1), hS2⟩; obtain ⟨e0, e1, e2, ef, hSlt2⟩ := hS2.cells; have ef1 := ef 1
        have HB3 : Hid (SlB w2 (some ⟨b, off + at_, none⟩) (len - at_) Z) := by show SlB _ _ _ _; rw [hw2]; exact HB2.out
        clear HB2 HT HW1 d0 d1 d2 df0 df1 df2 hS2 ef hw2 e0 e2 hSlt1; go_wp2_with fail; have v1 : IntKind.i64.wrap (12 + (n : Int)) = 12 + n := IntWalk.i64_in _ (by omega); have v2 : IntKind.i64.wrap (12 + (n : Int) + p) = 12 + n + p := IntWalk.i64_in _ (by omega); have v3 : IntKind.i64.wrap ((at_ : Int) + (12 + n + p)) = at_ + (12 + n + p) := IntWalk.i64_in _ (by omega)
        go_region_with (first | (go_at_call 77; refine (HP.out _).mono ?_; rintro e w3 ⟨rfl, rfl⟩) | fail)
        all_goals
          have hS3 : ScanAt ((w2.setCell ⟨S, 1, none⟩ (.int .i64 ((at_ : Int) + (12 + n + p)))).drew) S (some ⟨b, off, none⟩) len cap ((at_ : Int) + (12 + n + p)) 0 := HG2.out.2.set1 _; have hG3 : wr.grownBy ((w2.setCell ⟨S, 1, none⟩ (.int .i64 ((at_ : Int) + (12 + n + p)))).drew) (some S) := grownBy_drew (grownBy_setCell HG2.out.1)
          have hR3 : SlB ((w2.setCell ⟨S, 1, none⟩ (.int .i64 ((at_ : Int) + (12 + n + p)))).drew) (some ⟨b, off + at_, none⟩) (len - at_) Z := by
            have h1 := HW.out.2.2.2.2.2; rw [HN.out.2.2] at h1
            exact h1.grown hG3 (fun b' off' h => by
              obtain ⟨rfl, -⟩ : b = b' ∧ off + at_ = off' := by simpa using h
              simpa using hbS)
          generalize (w2.setCell ⟨S, 1, none⟩ (.int .i64 ((at_ : Int) + (12 + n + p)))).drew = W3 at hS3 hG3 hR3 ⊢; have c4 := hR3.cellAt 4 (by omega); obtain ⟨z4, hz4⟩ : ∃ z, Z.getD 4 0 = z := ⟨_, rfl⟩; rw [hz4] at c4
          have hz256 : z4 < 256 := by rw [← hz4]; exact hR3.2.1 _ (Crc.getD_mem _ _ (by rw [HLEN.out]; omega))
          obtain ⟨ad, had⟩ : ∃ ad : Option Addr, (if cap - at_ = 12 then some (⟨b, off + at_, none⟩ : Addr) else some ⟨b, off + at_ + 12, none⟩) = ad := ⟨_, rfl⟩
          obtain ⟨aa, haa⟩ : ∃ a, ad = some a := by rw [← had]; split <;> exact ⟨_, rfl⟩
          subst haa
          have hD : SlB W3 (some aa) n ((Z.drop 12).take n) := by rw [← had]; exact hR3.cut 12 n (cap - at_) (by omega) (by omega)
          have HC : Hid (∀ w' : World, w'.heap = W3.heap → CallsIn Fence.wide 0 _ _ _ w' _) := fun w' hh => callsIn_wide.2 (clone_cap aa n (cap - at_ - 12) ((Z.drop 12).take n) w' (hD.heap hh) (by omega))
          have HZ4 : Hid (Z.getD 4 0 = z4) := hz4
          have HTY : Hid (1 ≤ z4) := by
            show _ ≤ _
            rw [← hz4, ← HN.out.2.2]; exact rec_ty (by rw [HN.out.2.2]; exact HNE.out)
          have HDL : Hid (((Z.drop 12).take n).length = n) := by show _ = _; simp; rw [HLEN.out]; omega
          have HPRE : Hid ((pre ++ [(z4, (Z.drop 12).take n)]) <+: (scan zs).1) := by
            have h1 := HW.out.1.next (by rw [HN.out.2.2]; exact HNE.out); rw [HN.out.2.2, HN.out.1, hz4] at h1; exact h1.pre
          have HYY : Hid (∀ g cp w4, (W3.drew.heap.size ≤ g ∧ n ≤ cp ∧ cp ≤ maxLen) → Own w4 5 g ((Z.drop 12).take n) → W3.drew.grownBy w4 none → YieldAt Fence.wide 0 Tryz.prog l #[.agg #[.int .i64 (z4 : Int), .slice (some ⟨g, 0, none⟩) n cp]] w4 _) := fun g cp w4 hg hO4 hG4 => by
            have hG5 : wr.grownBy w4 (some S) := grownBy_trans hG3 (grownBy_weak (grownBy_trans (grownBy_drew (grownBy_refl W3 none)) hG4))
            have h1 := HY.out pre z4 ((Z.drop 12).take n) g cp wr w4 HPRE.out HTY.out hz256 (by rw [HDL.out]; omega) (by rw [HDL.out]; exact hg.2.1) hg.2.2 hO4.1 HW.out.2.2.2.2.1 hG5 (Nat.le_trans hG3.size hg.1) hO4 (HW.out.2.2.1.grown hG5 (fun b' off' h => by
              obtain ⟨rfl, -⟩ : b = b' ∧ off = off' := by simpa using h
              simpa using hbS)) (Tab_row HW.out.2.2.2.1 hG5 (by simpa using hTS)) ⟨_, _, ((grownBy_trans (grownBy_drew (grownBy_refl W3 none)) hG4).block S hS3.cells.2.2.2.2 (by simp)).trans hS3⟩
            rw [show ((Z.drop 12).take n).length = n by simp; rw [HLEN.out]; omega] at h1; exact h1
          have HW3 : Hid (ScanAt W3 S (some ⟨b, off, none⟩) len cap ((at_ : Int) + (12 + n + p)) 0 ∧ wr.grownBy W3 (some S)) := ⟨hS3, hG3⟩; clear hS3 hG3 hR3 hz4 hD v2 v3 e1 ef1 HB3 HG2 HP
          have h4I : (4 : Int) < ((len - at_ : Nat) : Int) := by omega
          have q1 : (12 : Int) + n ≤ ((cap - at_ : Nat) : Int) := by omega
          have q2 : (0 : Int) ≤ (12 : Int) + n := by omega
          have q3 : (12 : Int) ≤ (12 : Int) + n := by omega
          have q4 : max ((12 : Int) + n) 0 = 12 + n := by omega
          have q5 : ((12 : Int) + n).toNat - 12 = n := by omega
          have q6 : IntKind.i64.wrap (z4 : Int) = z4 := IntWalk.i64_in _ (by omega); go_wp2_with fail; refine (wpIn_wide (n := 0)).1 ?_
          gi_region_with (first
            | (refine ⟨trivial, rfl, ?_⟩; gi_at_call 78; refine (HC.out W3.drew rfl).mono ?_; rintro e w4 ⟨g, cp, rfl, hg, hO4, hG4⟩; have c44 : w4.cell? ⟨b, off + at_ + 4, none⟩ = some (.int .u8 (z4 : Int)) := ((bcell hG4).1 _ _ (cell_block_lt c4)).trans c4; obtain ⟨fn, tm, asg, bd, hy, hR⟩ := HYY.out g cp w4 hg hO4 hG4; have H4 : Hid (W3.grownBy w4 none) := grownBy_trans (grownBy_drew (grownBy_refl W3 none)) hG4; clear hg hO4 hG4)
            | (refine ⟨rfl, ?_⟩; refine hR.mono ?_; rintro e W5 ⟨bo, rfl, hB5⟩)
            | fail)
          all_goals
            rcases hB5 with ⟨rfl, hR5⟩ | ⟨rfl, hK5⟩
            rotate_left
            · have HK5 : Hid (K W5) := hK5; clear hy hR c44 c4 H4 had; go_wp2; refine bodyPost_ret (results_none rfl _ _ _) rfl ?_; exact ⟨⟨_, rfl⟩, .inr HK5.out⟩
            have hS5 : ScanAt W5 S (some ⟨b, off, none⟩) len cap (((at_ + (12 + n + p) : Nat)) : Int) 0 := by
              have h1 := HW3.out.1; have h2 : w4.heap[S]? = W3.heap[S]? := H4.out.block S h1.cells.2.2.2.2 (by simp)
              show W5.heap[S]? = _
              rw [hR5.2.1, h2]; have h3 : W3.heap[S]? = _ := h1; rw [h3]
              simp
            have HR5 : Hid (ScanAt W5 S (some ⟨b, off, none⟩) len cap (((at_ + (12 + n + p) : Nat)) : Int) 0 ∧ J (pre ++ [(z4, (Z.drop 12).take n)]) W5 ∧ SlB W5 (some ⟨b, off, none⟩) len zs ∧ Tab W5) := ⟨hS5, hR5.1, hR5.2.2.1, hR5.2.2.2⟩
            have HAT : Hid (At zs (pre ++ [(z4, (Z.drop 12).take n)]) (at_ + (12 + n + p))) := by
              have h1 := HW.out.1.next (by rw [HN.out.2.2]; exact HNE.out); rw [HN.out.2.2, HN.out.1, HZ4.out] at h1
              have h2 : recSize Z = 12 + n + p := by unfold recSize; rw [HN.out.1, HN.out.2.1]
              rw [h2] at h1; exact h1
            have HM : Hid (cellNat W5 ⟨S, 1, none⟩ = at_ + (12 + n + p) ∧ cellNat wr ⟨S, 1, none⟩ = at_) := by
              constructor
              · simp [cellNat, hS5.cells.2.1]; omega
              · simp [cellNat, HW.out.2.1.cells.2.1]
            clear hS5 hR5 hy hR c44 c4 H4 had; go_wp2; refine ⟨?rel, ?measure⟩
            case rel =>
              refine ⟨_, _, _, _, _, _, _, _, _, _, _, _, _, _, _, _, _, _, _, _, _, _, _, _, _, _, _, _, _, _, _, _, _, _, _, _, _, _, _, _, _, _, _, _, _, _, _, _, _, _, _, _, _, _, ?_, rfl⟩; exact ⟨at_ + (12 + n + p), 0, pre ++ [(z4, (Z.drop 12).take n)], HAT.out, HR5.out.1, HR5.out.2.2.1, HR5.out.2.2.2, HR5.out.2.1⟩
            case measure => rw [HM.out.1, HM.out.2]; omega
    · have hf1 : ((f : Int) != 0) = true := by rw [bne_iff_ne]; omega
      go_wp2; refine bodyPost_ret (results_none rfl _ _ _) rfl ?_; exact ⟨⟨_, rfl⟩, .inl (HEND.out (.inl hf0))⟩
/-- the loop's record -/
def loopRec (fn : FuncId) (tmps : Array Value) (ps : Array Tmp) (assign body : Code) (d : Nat) (s : LoopState) : Loop :=
  { state := s, pending := none, fn := fn, tmps := tmps, params := ps, assign := assign, body := body, defers := d }
theorem wp_range_bound {P : Program} {g : Operand} {ps : Array Tmp} {assign body : Code} {Q : Exit → Act → World → Prop} {a : Act} {w : World} {f : FuncId} {bound : Array Value}
    (hg : a.eval g = .func (.func f) bound #[]) (he : ∀ args w, (callFunc f args).run P w = .ok (.enter f args) w)
    (h : ∀ fn, Calls P f (bound ++ #[.func (.yield (w.heap.size + 1)) #[] #[]]) ((w.alloc (.deferred (some []))).alloc (.loop (loopRec fn a.tmps ps assign body w.heap.size .ready)))
      (rangePost Fence.wide 0 P (w.heap.size + 1) Q { a with defers := [{ target := .collected w.heap.size, args := #[] }] ++ a.defers })) :
    (Code.rangeFunc g ps assign body).wp P Q a w := by
  refine (wpIn_wide (n := 0)).1 (wpIn_rangeFunc fun fn _ => ?_)
  refine ⟨w.heap.size + 1, [{ target := .collected w.heap.size, args := #[] }], (w.alloc (.deferred (some []))).alloc (.loop (loopRec fn a.tmps ps assign body w.heap.size .ready)),
    { target := .fn (.func f) #[], args := bound ++ #[.func (.yield (w.heap.size + 1)) #[] #[]] }, (w.alloc (.deferred (some []))).alloc (.loop (loopRec fn a.tmps ps assign body w.heap.size .ready)), f,
    bound ++ #[.func (.yield (w.heap.size + 1)) #[] #[]], (w.alloc (.deferred (some []))).alloc (.loop (loopRec fn a.tmps ps assign body w.heap.size .ready)), ?_, ?_, ?_, ?_, ?_, ?_⟩
  · exact run_enterLoop_outer _ _ _ _ _
  · simp only [resolve, hg]
    simp [go_sem]
  · intro f' _; trivial
  · simp [invoke, he]
  · intro h; cases h
  · exact callsIn_wide.2 (h fn)

/-- one round: the assignment's code and the body's, each told by what it leaves -/
theorem yield_round {P : Program} {l fn : Nat} {tmps : Array Value} {ps : Array Tmp} {assign body : Code} {d : Nat} {args : Array Value} {W : World} {R : Ending → World → Prop}
    (hl : W.heap[l]? = some (.loop (loopRec fn tmps ps assign body d .ready))) (hs : args.size = ps.size)
    (h : assign.wpIn (Fence.wide.inRound l) 0 P (Exit.then (fun a₁ w₁ => w₁.heap[l]? = some (.loop (loopRec fn tmps ps assign body d .ready)) ∧
        body.wpIn (Fence.wide.inRound l) 0 P (fun e _ w₃ => e = .normal ∧ w₃.heap[l]? = some (.loop (loopRec fn tmps ps assign body d .busy)) ∧ R (.returned (.bool true)) (w₃.putObj l (.loop (loopRec fn tmps ps assign body d .ready)))) a₁
          (w₁.putObj l (.loop (loopRec fn tmps ps assign body d .busy)))) (fun _ _ _ => False))
      { tmps := (ps.zip args).foldl (fun tmps (t, a) => tmps.setIfInBounds t a) tmps, defers := [] } W) :
    YieldAt Fence.wide 0 P l args W R := by
  refine ⟨fn, _, assign, body, run_yield hl hs, roundIn_of_wpIn trivial ?_⟩; refine Code.wpIn_mono (fun e a w hq => ?_) h
  cases e with
  | normal =>
    obtain ⟨h1, h2⟩ := hq; refine ⟨_, run_beginRound h1 rfl, ?_⟩; refine Code.wpIn_mono (fun e' a' w' hq' => ?_) h2; obtain ⟨rfl, h3, h4⟩ := hq'; exact ⟨_, _, run_endRound none h3, h4⟩
  | _ => exact hq.elim
/-- the same, the two states of the record under names -/
theorem yield_round2 {P : Program} {l fn : Nat} {tmps : Array Value} {ps : Array Tmp} {assign body : Code} {d : Nat} {args : Array Value} {W : World} {R : Ending → World → Prop} {L0 : Loop}
    (hL : loopRec fn tmps ps assign body d .ready = L0) (hl : W.heap[l]? = some (.loop L0)) (hs : args.size = ps.size)
    (h : ∀ Lb : Loop, assign.wpIn (Fence.wide.inRound l) 0 P (Exit.then (fun a₁ w₁ => w₁.heap[l]? = some (.loop L0) ∧
        body.wpIn (Fence.wide.inRound l) 0 P (fun e _ w₃ => e = .normal ∧ w₃.heap[l]? = some (.loop Lb) ∧ R (.returned (.bool true)) (w₃.putObj l (.loop L0))) a₁
          (w₁.putObj l (.loop Lb))) (fun _ _ _ => False))
      { tmps := (ps.zip args).foldl (fun tmps (t, a) => tmps.setIfInBounds t a) tmps, defers := [] } W) :
    YieldAt Fence.wide 0 P l args W R := by
  subst hL; exact yield_round hl hs (h _)
section
variable {P : Program} {ops : Array Oper} {Q : Exit → Act → World → Prop} {md : Region.Mode} {l : Nat}
def noDefer (ops : Array Oper) : Bool := ops.toList.all fun o => match o.op with | .defer _ => false | _ => true
theorem noDefer_spec (h : noDefer ops = true) {i : Nat} {o : Oper} (ho : ops[i]? = some o) : ∀ c, o.op ≠ .defer c := by
  intro c hc; have h1 := List.all_eq_true.1 h o (by rw [← Array.getElem?_toList] at ho; exact List.mem_of_getElem? ho)
  simp [hc] at h1
theorem oper_in {o : Oper} {a : Act} {w : World} {K : Act → World → Prop} (hd : ∀ c, o.op ≠ .defer c) (h : o.wp P a w K Q) : o.wpIn (Fence.wide.inRound l) 0 P a w K Q := by
  refine ⟨fun _ _ => trivial, ?_⟩; rw [Oper.semAt_plain (Fence.wide.inRound l) a.eval o hd]
  unfold Oper.wp at h
  generalize (execOp a.eval o).run P w = r at h ⊢
  cases r with
  | ok n w' =>
    cases n with
    | enter f args => exact ⟨fun hc => (by cases hc), (callsIn_wide (n := 0)).2 h⟩
    | row row args => exact ⟨fun hc => (by cases hc), fun c cs _ => by
        obtain ⟨v, w'', h1, h2⟩ := h c cs
        exact ⟨v, w'', h1, stepsIn_wide.2 h2⟩⟩
    | value v => exact h
    | skip => exact h
    | defer d => exact h
    | _ => exact h.elim
  | halt x w' => cases x <;> exact h
theorem wpAny_in (hn : noDefer ops = true) (hL : ¬ LetsOut Q) : ∀ (fuel : Nat) (listed : Array Bool) (a : Act) (w : World), wpAny P md ops Q fuel listed a w → wpAnyIn (Fence.wide.inRound l) 0 P md ops Q fuel listed a w
  | 0, _, _, _, h => h
  | fuel + 1, _, _, _, h => ⟨h.1, fun i hi => by
      have h1 := wpOp_mono (fun a' w' h' => wpAny_in hn hL fuel _ a' w' h') (h.2 i hi)
      unfold wpOp at h1
      unfold wpOpIn
      split
      · rename_i ho; simpa [ho] using h1
      · rename_i o ho
        simp only [ho] at h1
        split
        · rename_i hw
          rw [if_pos hw] at h1
          rcases h1 with h1 | h1
          · exact oper_in (noDefer_spec hn ho) h1
          · exact absurd h1.2 hL
        · rename_i hw
          rw [if_neg hw] at h1
          exact ⟨fun _ _ => trivial, h1⟩⟩
theorem wpIn_region_Z {id : Nat} {a : Act} {w : World} (S : World → Prop) (ex : Nat → Bool) (hm : P.follows .mixedOrders = true) (hn : noDefer ops = true) (hL : ¬ LetsOut Q) (h : wpAnyZ P .any ops Q S ex ops.size (Array.replicate ops.size false) a w.drew) : (Code.region id ops true).wpIn (Fence.wide.inRound l) 0 P Q a w :=
  wpIn_region_any hm (wpAny_in hn hL _ _ _ _ (wpAny_of_Z _ _ _ _ h))
end
/-- a round whose body may leave by a return -/
theorem yield_roundW {P : Program} {l fn : Nat} {tmps : Array Value} {ps : Array Tmp} {assign body : Code} {d : Nat} {args : Array Value} {W : World} {R : Ending → World → Prop} {L0 : Loop}
    (hL : loopRec fn tmps ps assign body d .ready = L0) (hl : W.heap[l]? = some (.loop L0)) (hs : args.size = ps.size)
    (h : ∀ Lb Ld : Loop, Ld.pending = some .ret → Ld.state = .done → assign.wpIn (Fence.wide.inRound l) 0 P (Exit.then (fun a₁ w₁ => w₁.heap[l]? = some (.loop L0) ∧
        body.wpIn (Fence.wide.inRound l) 0 P (fun e _ w₃ => (e = .normal ∧ w₃.heap[l]? = some (.loop Lb) ∧ R (.returned (.bool true)) (w₃.putObj l (.loop L0))) ∨ (e = .ret ∧ w₃.heap[l]? = some (.loop Lb) ∧ R (.returned (.bool false)) (w₃.putObj l (.loop Ld)))) a₁
          (w₁.putObj l (.loop Lb))) (fun _ _ _ => False))
      { tmps := (ps.zip args).foldl (fun tmps (t, a) => tmps.setIfInBounds t a) tmps, defers := [] } W) :
    YieldAt Fence.wide 0 P l args W R := by
  subst hL; refine ⟨fn, _, assign, body, run_yield hl hs, roundIn_of_wpIn trivial ?_⟩; refine Code.wpIn_mono (fun e a w hq => ?_) (h (loopRec fn tmps ps assign body d .busy) { loopRec fn tmps ps assign body d .busy with state := .done, pending := some .ret } rfl rfl)
  cases e with
  | normal =>
    obtain ⟨h1, h2⟩ := hq; refine ⟨_, run_beginRound h1 rfl, ?_⟩; refine Code.wpIn_mono (fun e' a' w' hq' => ?_) h2
    rcases hq' with ⟨rfl, h3, h4⟩ | ⟨rfl, h3, h4⟩
    · exact ⟨_, _, run_endRound none h3, h4⟩
    · exact ⟨_, _, run_endRound (some .ret) h3, h4⟩
  | _ => exact hq.elim
end Go.Proofs.YtjnegjgpkboocaaGreatDoor
