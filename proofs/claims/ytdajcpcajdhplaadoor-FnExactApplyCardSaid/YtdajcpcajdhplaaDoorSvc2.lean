/-
  ItemDec
-/
import Derived.Test.YtdajcpcajdhplaaDoorSvc1
import Derived.Deep.RegionHeld3
import Derived.Laws.AppendOwnNone
import Derived.Deep.AppendLies
import Derived.Lib.BufferMore
import Derived.BigQuiet
/-
  An item read: DecodeItem, the program's and the model's, walked.
-/
namespace Go.Proofs.YtdajcpcajdhplaaDoor
open Go.RowKit

/-- bytes.Clone of bytes that aren't nil -/
theorem bclone_some (a : Addr) (len cap : Nat) (zs : List Nat) (w : World) (hsl : SlB w (some a) len zs) (hm : len ≤ 1073741824) :
    Calls Tryd.prog 54 #[.slice (some a) len cap] w fun e w' => ∃ g cp, e = .returned (.slice (some ⟨g, 0, none⟩) len cp) ∧ w.heap.size ≤ g ∧ Own w' 5 g zs ∧ w.grownBy w' none := by
  obtain ⟨i0, TB⟩ := byteT; have HS : Hid (SlB w (some a) len zs) := hsl; have HZ : Hid (∀ z ∈ zs, z < 256) := hsl.2.1
  have heq : ∀ w', (binOp .eql 22 (.slice (some a) len cap) (.slice none 0 0)).run Tryd.prog w' = .ok (.bool false) w' := fun w' => Lib.run_eql_slice_some_nil w' a len cap Tryd.underlying22
  clear hsl
  go_enter Tryd.func54, Tryd.ntmps54
  go_wp2_with (at_builtin; refine wpList_append_b (by rfl) (.tmp 5) (.tmp 6) TB (by rfl) (base := w.heap.size) (g := w.heap.size) (n := 0) (cap := 0) (xs := []) (by rfl) (by exact World.ownsRow_made w #[] 0 (Nat.le_refl _) (Nat.zero_le _) rfl) (oa := some a) (m := len) (c := cap) (zs := zs) (by rfl) (by exact HS.out.grown0 (World.grownBy_alloc _ _ _)) (by omega) (by simp) ?_; intro g' cap' w1 hown' hgr hat hsz1)
  go_ret; have C1 : w.grownBy w1 none := grown_next hgr.out (World.grownBy_alloc w _ _) ⟨rfl, rfl, rfl, rfl⟩ (Nat.le_refl _); have h1 := hown'.out; rw [Nat.zero_add, List.nil_append] at h1; exact ⟨g', cap', rfl, (h1.lt g' rfl).1, own_made h1 HZ.out, C1⟩
set_option maxHeartbeats 400000 in
theorem itemClone_some (cl sq : Int) (a : Addr) (len cap : Nat) (zs : List Nat) (w : World) (hsl : SlB w (some a) len zs) (hm : len ≤ 1073741824) :
    Calls Tryd.prog 31 #[.agg #[.int .i64 cl, .int .i64 sq, .slice (some a) len cap]] w fun e w' => ∃ g cp, e = .returned (.agg #[.int .i64 cl, .int .i64 sq, .slice (some ⟨g, 0, none⟩) len cp]) ∧ w.heap.size ≤ g ∧ Own w' 5 g zs ∧ w.grownBy w' none := by
  have HS : Hid (SlB w (some a) len zs) := hsl; clear hsl
  go_enter Tryd.func31, Tryd.ntmps31
  go_wp2_with fail; refine (bclone_some a len cap zs _ (HS.out.grown0 (grownBy_alloc (World.grownBy_alloc _ _ _) _)) hm).mono ?_; rintro e w1 ⟨g1, c1, rfl, hg1, hO1, hG1⟩; obtain ⟨hc, hf⟩ := bcell hG1
  have hz : w.heap.size + 1 + 1 ≤ w1.heap.size := by have := hG1.size; simpa using this
  have hg1' : w.heap.size + 1 + 1 ≤ g1 := by simpa using hg1
  have R : Hid (Own w1 5 g1 zs ∧ w.grownBy w1 none) := ⟨hO1, grownBy_trans (grownBy_alloc (World.grownBy_alloc w _ none) _) hG1⟩; have x0 : w1.cell? ⟨w.heap.size, 0, none⟩ = some (.int .i64 cl) := (hc _ _ (by simp; omega)).trans (by simp); have x1 : w1.cell? ⟨w.heap.size, 1, none⟩ = some (.int .i64 sq) := (hc _ _ (by simp; omega)).trans (by simp); have x2 : w1.cell? ⟨w.heap.size, 2, none⟩ = some (.slice (some a) len cap) := (hc _ _ (by simp; omega)).trans (by simp); have y0 : w1.cell? ⟨w.heap.size + 1, 0, none⟩ = some (.int .i64 0) := (hc _ _ (by simp)).trans (by simp); have y1 : w1.cell? ⟨w.heap.size + 1, 1, none⟩ = some (.int .i64 0) := (hc _ _ (by simp)).trans (by simp); have y2 : w1.cell? ⟨w.heap.size + 1, 2, none⟩ = some (.slice none 0 0) := (hc _ _ (by simp)).trans (by simp); have fx : w1.frozen? ⟨w.heap.size, 2, none⟩ = false := (hf _ _ (by simp; omega)).trans (by simp); have fy0 : w1.frozen? ⟨w.heap.size + 1, 0, none⟩ = false := (hf _ _ (by simp)).trans (by simp); have fy1 : w1.frozen? ⟨w.heap.size + 1, 1, none⟩ = false := (hf _ _ (by simp)).trans (by simp); have fy2 : w1.frozen? ⟨w.heap.size + 1, 2, none⟩ = false := (hf _ _ (by simp)).trans (by simp); clear hO1 hG1 hg1 hc hf; go_wp2; refine bodyPost_ret (v := .agg #[.int .i64 cl, .int .i64 sq, .slice (some ⟨g1, 0, none⟩) len c1]) (by simp [results, Tryd.results31, go_sem, y0, y1, y2]) rfl ⟨g1, c1, rfl, by omega, ?_, ?_⟩
  · exact (((R.out.1.setOther (by simp; omega)).setOther (by simp; omega)).setOther (by simp; omega)).setOther (by simp; omega)
  · exact grownBy_setNew (grownBy_setNew (grownBy_setNew (grownBy_setNew R.out.2 (by simp)) (by simp)) (by simp)) (by simp)
/-- the numbers that the bytes of an item tell -/
def decCl (zs : List Nat) : Nat := leVal (zs.take 4)
def decSq (zs : List Nat) : Nat := leVal ((zs.drop 4).take 4)
theorem val4_lt (l : List Nat) (h : ∀ z ∈ l, z < 256) (hl : l.length = 4) : leVal l < 4294967296 := by
  have := leVal_lt l h; rw [hl] at this; exact this
set_option maxHeartbeats 400000 in
theorem implDecodeItem_short (oa : Option Addr) (len cap : Nat) (w : World) (h8 : len < 8) :
    Calls Tryd.prog 11 #[.slice oa len cap] w fun e w' => e = .returned (.tuple #[.agg #[.int .i64 0, .int .i64 0, .slice none 0 0], .int .i64 5]) ∧ w.grownBy w' none := by
  go_enter Tryd.func11, Tryd.ntmps11
  go_wp2; refine bodyPost_ret (v := .tuple #[.agg #[.int .i64 0, .int .i64 0, .slice none 0 0], .int .i64 5]) (by simp [results, Tryd.results11, go_sem]) rfl ⟨rfl, ?_⟩; exact World.grownBy_alloc _ _ _
set_option maxHeartbeats 400000 in
theorem specDecodeItem_short (oa : Option Addr) (len cap : Nat) (w : World) (h8 : len < 8) :
    Calls Tryd.prog 45 #[.slice oa len cap] w fun e w' => e = .returned (.tuple #[.agg #[.int .i64 0, .int .i64 0, .slice none 0 0], .int .i64 5]) ∧ w.grownBy w' none := by
  go_enter Tryd.func45, Tryd.ntmps45
  go_wp2; refine bodyPost_ret (v := .tuple #[.agg #[.int .i64 0, .int .i64 0, .slice none 0 0], .int .i64 5]) (by simp [results, Tryd.results45, go_sem]) rfl ⟨rfl, ?_⟩; exact World.grownBy_alloc _ _ _

set_option maxRecDepth 4000 in
set_option maxHeartbeats 400000 in
theorem implDecodeItem_ok (oa : Option Addr) (len cap : Nat) (zs : List Nat) (w : World) (hsl : SlB w oa len zs) (h8 : 8 ≤ len) (hcp : len ≤ cap) (hm : len ≤ 1073741824) (hok : itemOk (decCl zs) (decSq zs) (len - 8)) :
    Calls Tryd.prog 11 #[.slice oa len cap] w fun e w' => ∃ g cp, e = .returned (.tuple #[.agg #[.int .i64 (decCl zs : Int), .int .i64 (decSq zs : Int), .slice (some ⟨g, 0, none⟩) (len - 8) cp], .int .i64 0]) ∧ w.heap.size ≤ g ∧ Own w' 5 g (zs.drop 8) ∧ w.grownBy w' none := by
  have hl : zs.length = len := hsl.1; obtain ⟨b, off, rfl, -⟩ := hsl.2.2 (by omega); have HS : Hid (SlB w (some ⟨b, off, none⟩) len zs) := hsl; have HK : Hid (itemOk (decCl zs) (decSq zs) (len - 8)) := hok; have hc32 : decCl zs < 4294967296 := val4_lt _ (fun z hz => hsl.2.1 z (List.mem_of_mem_take hz)) (by simp; omega); have hq32 : decSq zs < 4294967296 := val4_lt _ (fun z hz => hsl.2.1 z (List.mem_of_mem_drop (List.mem_of_mem_take hz))) (by simp; omega); obtain ⟨C, hCe⟩ : ∃ C, decCl zs = C := ⟨_, rfl⟩; obtain ⟨Q, hQe⟩ : ∃ Q, decSq zs = Q := ⟨_, rfl⟩
  have HT1 : Hid (∀ X : World, w.grownBy X none → Calls Tryd.prog 30 #[.slice (some ⟨b, off, none⟩) len cap] X fun e w' => e = .returned (.int .u32 (C : Int)) ∧ w' = X) := by
    intro X hX; rw [← hCe]; exact takeNumber_any _ len cap zs X (HS.out.grown0 hX) (by omega) hm
  have HT2 : Hid (∀ X : World, w.grownBy X none → Calls Tryd.prog 30 #[.slice (some ⟨b, off + 4, none⟩) (len - 4) (cap - 4)] X fun e w' => e = .returned (.int .u32 (Q : Int)) ∧ w' = X) := by
    intro X hX; rw [← hQe]; have h1 := slb_cut (HS.out.grown0 hX) 4 (len - 4) (by omega); rw [drop_take_all zs 4 (len - 4) (by omega)] at h1; exact takeNumber_any _ (len - 4) (cap - 4) (zs.drop 4) X h1 (by omega) (by omega)
  rw [hCe, hQe] at HK ⊢; rw [hCe] at hc32; rw [hQe] at hq32; clear hsl hok hCe hQe
  have ec : IntKind.i64.wrap (C : Int) = C := by rw [IntKind.wrap_i64]; omega
  have eq : IntKind.i64.wrap (Q : Int) = Q := by rw [IntKind.wrap_i64]; omega
  have n4 : ¬ (cap = 4) := by omega
  have z1 : (4 : Int) ≤ (len : Int) := by omega
  have z2 : (8 : Int) ≤ (len : Int) := by omega
  have z3 : (len : Int) ≤ (cap : Int) := by omega
  have z4 : (4 : Int) ≤ (cap : Int) := by omega
  have z5 : (8 : Int) ≤ (cap : Int) := by omega
  have z6 : (0 : Int) ≤ (cap : Int) := by omega
  obtain ⟨ad, had⟩ : ∃ ad : Addr, (if cap = 8 then (⟨b, off, none⟩ : Addr) else ⟨b, off + 8, none⟩) = ad := ⟨_, rfl⟩
  have HD : Hid (∀ X : World, w.grownBy X none → SlB X (some ad) (len - 8) (zs.drop 8)) := by
    intro X hX; have h1 := slb_cutIf (HS.out.grown0 hX) 8 (len - 8) cap (by omega) hcp; rw [drop_take_all zs 8 (len - 8) (by omega)] at h1
    by_cases c8 : cap = 8
    · rw [if_pos c8] at h1 had; rw [← had]; exact h1
    · rw [if_neg c8] at h1 had; rw [← had]; exact h1
  have HAD : Hid ((cap = 8 → ad = ⟨b, off, none⟩) ∧ (¬ cap = 8 → ad = ⟨b, off + 8, none⟩)) := ⟨fun h => by rw [← had, if_pos h], fun h => by rw [← had, if_neg h]⟩; clear had
  rcases (show (cap = 8 ∧ len = 8) ∨ ¬ cap = 8 by omega) with ⟨rfl, rfl⟩ | c8
  · obtain rfl := HAD.out.1 rfl
    go_enter Tryd.func11, Tryd.ntmps11
    go_wp2_with fail
    go_region_held3 (fun _ => True) (first | exact trivial | fail)
      (first
        | (go_at_call 30; refine calls_args (args := #[.slice (some ⟨b, off, none⟩) 8 8]) (by rfl) ((HT1.out _ (by repeat (first | exact grownBy_refl _ _ | apply grownBy_drew | apply grownBy_alloc))).mono ?_); rintro e w' ⟨rfl, rfl⟩)
        | (go_at_call 30; refine calls_args (args := #[.slice (some ⟨b, off + 4, none⟩) 4 4]) (by rfl) ((HT2.out _ (by repeat (first | exact grownBy_refl _ _ | apply grownBy_drew | apply grownBy_alloc))).mono ?_); rintro e w' ⟨rfl, rfl⟩)
        | fail)
    all_goals
      go_wp2_with fail; refine (valid_yes _ _ _ _ _ _ HK.out).mono ?_; rintro e w2 ⟨rfl, hG2⟩
      have hz2 : w.heap.size + 2 ≤ w2.heap.size := by have := hG2.size; simpa using this
      have x0 : w2.cell? ⟨w.heap.size + 1, 0, none⟩ = some (.int .i64 (C : Int)) := ((bcell hG2).1 _ _ (by simp)).trans (by simp); have x1 : w2.cell? ⟨w.heap.size + 1, 1, none⟩ = some (.int .i64 (Q : Int)) := ((bcell hG2).1 _ _ (by simp)).trans (by simp); have x2 : w2.cell? ⟨w.heap.size + 1, 2, none⟩ = some (.slice (some ⟨b, off, none⟩) 0 0) := ((bcell hG2).1 _ _ (by simp)).trans (by simp); have y0 : w2.cell? ⟨w.heap.size, 0, none⟩ = some (.int .i64 0) := ((bcell hG2).1 _ _ (by simp; omega)).trans (by simp); have y1 : w2.cell? ⟨w.heap.size, 1, none⟩ = some (.int .i64 0) := ((bcell hG2).1 _ _ (by simp; omega)).trans (by simp); have y2 : w2.cell? ⟨w.heap.size, 2, none⟩ = some (.slice none 0 0) := ((bcell hG2).1 _ _ (by simp; omega)).trans (by simp); have f0 : w2.frozen? ⟨w.heap.size, 0, none⟩ = false := ((bcell hG2).2 _ _ (by simp; omega)).trans (by simp); have f1 : w2.frozen? ⟨w.heap.size, 1, none⟩ = false := ((bcell hG2).2 _ _ (by simp; omega)).trans (by simp); have f2 : w2.frozen? ⟨w.heap.size, 2, none⟩ = false := ((bcell hG2).2 _ _ (by simp; omega)).trans (by simp); have HG2 : Hid (w.grownBy w2 none) := grownBy_trans (by repeat (first | exact grownBy_refl _ _ | apply grownBy_drew | apply grownBy_alloc)) hG2; clear hG2 HT1 HT2; go_wp2_with fail; refine (itemClone_some _ _ _ _ _ (zs.drop 8) _ (HD.out _ HG2.out) (by omega)).mono ?_; rintro e w3 ⟨g3, c3, rfl, hg3, hO3, hG3⟩; have hz3 := hG3.size; have y0' : w3.cell? ⟨w.heap.size, 0, none⟩ = some (.int .i64 0) := ((bcell hG3).1 _ _ (by omega)).trans y0; have y1' : w3.cell? ⟨w.heap.size, 1, none⟩ = some (.int .i64 0) := ((bcell hG3).1 _ _ (by omega)).trans y1; have y2' : w3.cell? ⟨w.heap.size, 2, none⟩ = some (.slice none 0 0) := ((bcell hG3).1 _ _ (by omega)).trans y2; have f0' : w3.frozen? ⟨w.heap.size, 0, none⟩ = false := ((bcell hG3).2 _ _ (by omega)).trans f0; have f1' : w3.frozen? ⟨w.heap.size, 1, none⟩ = false := ((bcell hG3).2 _ _ (by omega)).trans f1; have f2' : w3.frozen? ⟨w.heap.size, 2, none⟩ = false := ((bcell hG3).2 _ _ (by omega)).trans f2; have HG3 : Hid (w.grownBy w3 none ∧ Own w3 5 g3 (zs.drop 8)) := ⟨grownBy_trans HG2.out hG3, hO3⟩; clear hG3 hO3 x0 x1 x2 y0 y1 y2 f0 f1 f2; go_wp2; refine bodyPost_ret (v := .tuple #[.agg #[.int .i64 (C : Int), .int .i64 (Q : Int), .slice (some ⟨g3, 0, none⟩) 0 c3], .int .i64 0]) (by simp [results, Tryd.results11, go_sem, y0', y1', y2']) rfl ⟨g3, c3, rfl, by omega, ?_, ?_⟩
      · exact ((HG3.out.2.setOther (by simp; omega)).setOther (by simp; omega)).setOther (by simp; omega)
      · exact grownBy_setNew (grownBy_setNew (grownBy_setNew HG3.out.1 (by simp)) (by simp)) (by simp)
  · obtain rfl := HAD.out.2 c8
    go_enter Tryd.func11, Tryd.ntmps11
    go_wp2_with fail
    go_region_held3 (fun _ => True) (first | exact trivial | fail)
      (first
        | (go_at_call 30; refine calls_args (args := #[.slice (some ⟨b, off, none⟩) len cap]) (by rfl) ((HT1.out _ (by repeat (first | exact grownBy_refl _ _ | apply grownBy_drew | apply grownBy_alloc))).mono ?_); rintro e w' ⟨rfl, rfl⟩)
        | (go_at_call 30; refine calls_args (args := #[.slice (some ⟨b, off + 4, none⟩) (len - 4) (cap - 4)]) (by rfl) ((HT2.out _ (by repeat (first | exact grownBy_refl _ _ | apply grownBy_drew | apply grownBy_alloc))).mono ?_); rintro e w' ⟨rfl, rfl⟩)
        | fail)
    all_goals
      go_wp2_with fail; refine (valid_yes _ _ _ _ _ _ HK.out).mono ?_; rintro e w2 ⟨rfl, hG2⟩
      have hz2 : w.heap.size + 2 ≤ w2.heap.size := by have := hG2.size; simpa using this
      have x0 : w2.cell? ⟨w.heap.size + 1, 0, none⟩ = some (.int .i64 (C : Int)) := ((bcell hG2).1 _ _ (by simp)).trans (by simp); have x1 : w2.cell? ⟨w.heap.size + 1, 1, none⟩ = some (.int .i64 (Q : Int)) := ((bcell hG2).1 _ _ (by simp)).trans (by simp); have x2 : w2.cell? ⟨w.heap.size + 1, 2, none⟩ = some (.slice (some ⟨b, off + 8, none⟩) (len - 8) (cap - 8)) := ((bcell hG2).1 _ _ (by simp)).trans (by simp); have y0 : w2.cell? ⟨w.heap.size, 0, none⟩ = some (.int .i64 0) := ((bcell hG2).1 _ _ (by simp; omega)).trans (by simp); have y1 : w2.cell? ⟨w.heap.size, 1, none⟩ = some (.int .i64 0) := ((bcell hG2).1 _ _ (by simp; omega)).trans (by simp); have y2 : w2.cell? ⟨w.heap.size, 2, none⟩ = some (.slice none 0 0) := ((bcell hG2).1 _ _ (by simp; omega)).trans (by simp); have f0 : w2.frozen? ⟨w.heap.size, 0, none⟩ = false := ((bcell hG2).2 _ _ (by simp; omega)).trans (by simp); have f1 : w2.frozen? ⟨w.heap.size, 1, none⟩ = false := ((bcell hG2).2 _ _ (by simp; omega)).trans (by simp); have f2 : w2.frozen? ⟨w.heap.size, 2, none⟩ = false := ((bcell hG2).2 _ _ (by simp; omega)).trans (by simp); have HG2 : Hid (w.grownBy w2 none) := grownBy_trans (by repeat (first | exact grownBy_refl _ _ | apply grownBy_drew | apply grownBy_alloc)) hG2; clear hG2 HT1 HT2; go_wp2_with fail; refine (itemClone_some _ _ _ _ _ (zs.drop 8) _ (HD.out _ HG2.out) (by omega)).mono ?_; rintro e w3 ⟨g3, c3, rfl, hg3, hO3, hG3⟩; have hz3 := hG3.size; have y0' : w3.cell? ⟨w.heap.size, 0, none⟩ = some (.int .i64 0) := ((bcell hG3).1 _ _ (by omega)).trans y0; have y1' : w3.cell? ⟨w.heap.size, 1, none⟩ = some (.int .i64 0) := ((bcell hG3).1 _ _ (by omega)).trans y1; have y2' : w3.cell? ⟨w.heap.size, 2, none⟩ = some (.slice none 0 0) := ((bcell hG3).1 _ _ (by omega)).trans y2; have f0' : w3.frozen? ⟨w.heap.size, 0, none⟩ = false := ((bcell hG3).2 _ _ (by omega)).trans f0; have f1' : w3.frozen? ⟨w.heap.size, 1, none⟩ = false := ((bcell hG3).2 _ _ (by omega)).trans f1; have f2' : w3.frozen? ⟨w.heap.size, 2, none⟩ = false := ((bcell hG3).2 _ _ (by omega)).trans f2; have HG3 : Hid (w.grownBy w3 none ∧ Own w3 5 g3 (zs.drop 8)) := ⟨grownBy_trans HG2.out hG3, hO3⟩; clear hG3 hO3 x0 x1 x2 y0 y1 y2 f0 f1 f2; go_wp2; refine bodyPost_ret (v := .tuple #[.agg #[.int .i64 (C : Int), .int .i64 (Q : Int), .slice (some ⟨g3, 0, none⟩) (len - 8) c3], .int .i64 0]) (by simp [results, Tryd.results11, go_sem, y0', y1', y2']) rfl ⟨g3, c3, rfl, by omega, ?_, ?_⟩
      · exact ((HG3.out.2.setOther (by simp; omega)).setOther (by simp; omega)).setOther (by simp; omega)
      · exact grownBy_setNew (grownBy_setNew (grownBy_setNew HG3.out.1 (by simp)) (by simp)) (by simp)
set_option maxRecDepth 4000 in
set_option maxHeartbeats 400000 in
theorem implDecodeItem_no (oa : Option Addr) (len cap : Nat) (zs : List Nat) (w : World) (hsl : SlB w oa len zs) (h8 : 8 ≤ len) (hcp : len ≤ cap) (hm : len ≤ 1073741824) (hok : ¬ itemOk (decCl zs) (decSq zs) (len - 8)) :
    Calls Tryd.prog 11 #[.slice oa len cap] w fun e w' => e = .returned (.tuple #[.agg #[.int .i64 0, .int .i64 0, .slice none 0 0], .int .i64 5]) ∧ w.grownBy w' none := by
  have hl : zs.length = len := hsl.1; obtain ⟨b, off, rfl, -⟩ := hsl.2.2 (by omega); have HS : Hid (SlB w (some ⟨b, off, none⟩) len zs) := hsl; have HK : Hid (¬ itemOk (decCl zs) (decSq zs) (len - 8)) := hok; have hc32 : decCl zs < 4294967296 := val4_lt _ (fun z hz => hsl.2.1 z (List.mem_of_mem_take hz)) (by simp; omega); have hq32 : decSq zs < 4294967296 := val4_lt _ (fun z hz => hsl.2.1 z (List.mem_of_mem_drop (List.mem_of_mem_take hz))) (by simp; omega); obtain ⟨C, hCe⟩ : ∃ C, decCl zs = C := ⟨_, rfl⟩; obtain ⟨Q, hQe⟩ : ∃ Q, decSq zs = Q := ⟨_, rfl⟩
  have HT1 : Hid (∀ X : World, w.grownBy X none → Calls Tryd.prog 30 #[.slice (some ⟨b, off, none⟩) len cap] X fun e w' => e = .returned (.int .u32 (C : Int)) ∧ w' = X) := by
    intro X hX; rw [← hCe]; exact takeNumber_any _ len cap zs X (HS.out.grown0 hX) (by omega) hm
  have HT2 : Hid (∀ X : World, w.grownBy X none → Calls Tryd.prog 30 #[.slice (some ⟨b, off + 4, none⟩) (len - 4) (cap - 4)] X fun e w' => e = .returned (.int .u32 (Q : Int)) ∧ w' = X) := by
    intro X hX; rw [← hQe]; have h1 := slb_cut (HS.out.grown0 hX) 4 (len - 4) (by omega); rw [drop_take_all zs 4 (len - 4) (by omega)] at h1; exact takeNumber_any _ (len - 4) (cap - 4) (zs.drop 4) X h1 (by omega) (by omega)
  rw [hCe, hQe] at HK; rw [hCe] at hc32; rw [hQe] at hq32; clear hsl hok hCe hQe
  have ec : IntKind.i64.wrap (C : Int) = C := by rw [IntKind.wrap_i64]; omega
  have eq : IntKind.i64.wrap (Q : Int) = Q := by rw [IntKind.wrap_i64]; omega
  have n4 : ¬ (cap = 4) := by omega
  have z1 : (4 : Int) ≤ (len : Int) := by omega
  have z2 : (8 : Int) ≤ (len : Int) := by omega
  have z3 : (len : Int) ≤ (cap : Int) := by omega
  have z4 : (4 : Int) ≤ (cap : Int) := by omega
  have z5 : (8 : Int) ≤ (cap : Int) := by omega
  have z6 : (0 : Int) ≤ (cap : Int) := by omega
  obtain ⟨ad, had⟩ : ∃ ad : Addr, (if cap = 8 then (⟨b, off, none⟩ : Addr) else ⟨b, off + 8, none⟩) = ad := ⟨_, rfl⟩
  have HD : Hid (∀ X : World, w.grownBy X none → SlB X (some ad) (len - 8) (zs.drop 8)) := by
    intro X hX; have h1 := slb_cutIf (HS.out.grown0 hX) 8 (len - 8) cap (by omega) hcp; rw [drop_take_all zs 8 (len - 8) (by omega)] at h1
    by_cases c8 : cap = 8
    · rw [if_pos c8] at h1 had; rw [← had]; exact h1
    · rw [if_neg c8] at h1 had; rw [← had]; exact h1
  have HAD : Hid ((cap = 8 → ad = ⟨b, off, none⟩) ∧ (¬ cap = 8 → ad = ⟨b, off + 8, none⟩)) := ⟨fun h => by rw [← had, if_pos h], fun h => by rw [← had, if_neg h]⟩; clear had
  rcases (show (cap = 8 ∧ len = 8) ∨ ¬ cap = 8 by omega) with ⟨rfl, rfl⟩ | c8
  · obtain rfl := HAD.out.1 rfl
    go_enter Tryd.func11, Tryd.ntmps11
    go_wp2_with fail
    go_region_held3 (fun _ => True) (first | exact trivial | fail)
      (first
        | (go_at_call 30; refine calls_args (args := #[.slice (some ⟨b, off, none⟩) 8 8]) (by rfl) ((HT1.out _ (by repeat (first | exact grownBy_refl _ _ | apply grownBy_drew | apply grownBy_alloc))).mono ?_); rintro e w' ⟨rfl, rfl⟩)
        | (go_at_call 30; refine calls_args (args := #[.slice (some ⟨b, off + 4, none⟩) 4 4]) (by rfl) ((HT2.out _ (by repeat (first | exact grownBy_refl _ _ | apply grownBy_drew | apply grownBy_alloc))).mono ?_); rintro e w' ⟨rfl, rfl⟩)
        | fail)
    all_goals
      go_wp2_with fail; refine (valid_no _ _ _ _ _ _ HK.out (by unfold maxLen; omega)).mono ?_; rintro e w2 ⟨rfl, hG2⟩
      have hz2 : w.heap.size + 2 ≤ w2.heap.size := by have := hG2.size; simpa using this
      have x0 : w2.cell? ⟨w.heap.size + 1, 0, none⟩ = some (.int .i64 (C : Int)) := ((bcell hG2).1 _ _ (by simp)).trans (by simp); have x1 : w2.cell? ⟨w.heap.size + 1, 1, none⟩ = some (.int .i64 (Q : Int)) := ((bcell hG2).1 _ _ (by simp)).trans (by simp); have x2 : w2.cell? ⟨w.heap.size + 1, 2, none⟩ = some (.slice (some ⟨b, off, none⟩) 0 0) := ((bcell hG2).1 _ _ (by simp)).trans (by simp); have y0 : w2.cell? ⟨w.heap.size, 0, none⟩ = some (.int .i64 0) := ((bcell hG2).1 _ _ (by simp; omega)).trans (by simp); have y1 : w2.cell? ⟨w.heap.size, 1, none⟩ = some (.int .i64 0) := ((bcell hG2).1 _ _ (by simp; omega)).trans (by simp); have y2 : w2.cell? ⟨w.heap.size, 2, none⟩ = some (.slice none 0 0) := ((bcell hG2).1 _ _ (by simp; omega)).trans (by simp); have f0 : w2.frozen? ⟨w.heap.size, 0, none⟩ = false := ((bcell hG2).2 _ _ (by simp; omega)).trans (by simp); have f1 : w2.frozen? ⟨w.heap.size, 1, none⟩ = false := ((bcell hG2).2 _ _ (by simp; omega)).trans (by simp); have f2 : w2.frozen? ⟨w.heap.size, 2, none⟩ = false := ((bcell hG2).2 _ _ (by simp; omega)).trans (by simp); have HG2 : Hid (w.grownBy w2 none) := grownBy_trans (by repeat (first | exact grownBy_refl _ _ | apply grownBy_drew | apply grownBy_alloc)) hG2; clear hG2 HT1 HT2 x0 x1 x2; go_wp2; refine bodyPost_ret (v := .tuple #[.agg #[.int .i64 0, .int .i64 0, .slice none 0 0], .int .i64 5]) (by simp [results, Tryd.results11, go_sem, y0, y1, y2]) rfl ⟨rfl, ?_⟩; exact grownBy_setNew (grownBy_setNew (grownBy_setNew HG2.out (by simp)) (by simp)) (by simp)
  · obtain rfl := HAD.out.2 c8
    go_enter Tryd.func11, Tryd.ntmps11
    go_wp2_with fail
    go_region_held3 (fun _ => True) (first | exact trivial | fail)
      (first
        | (go_at_call 30; refine calls_args (args := #[.slice (some ⟨b, off, none⟩) len cap]) (by rfl) ((HT1.out _ (by repeat (first | exact grownBy_refl _ _ | apply grownBy_drew | apply grownBy_alloc))).mono ?_); rintro e w' ⟨rfl, rfl⟩)
        | (go_at_call 30; refine calls_args (args := #[.slice (some ⟨b, off + 4, none⟩) (len - 4) (cap - 4)]) (by rfl) ((HT2.out _ (by repeat (first | exact grownBy_refl _ _ | apply grownBy_drew | apply grownBy_alloc))).mono ?_); rintro e w' ⟨rfl, rfl⟩)
        | fail)
    all_goals
      go_wp2_with fail; refine (valid_no _ _ _ _ _ _ HK.out (by unfold maxLen; omega)).mono ?_; rintro e w2 ⟨rfl, hG2⟩
      have hz2 : w.heap.size + 2 ≤ w2.heap.size := by have := hG2.size; simpa using this
      have x0 : w2.cell? ⟨w.heap.size + 1, 0, none⟩ = some (.int .i64 (C : Int)) := ((bcell hG2).1 _ _ (by simp)).trans (by simp); have x1 : w2.cell? ⟨w.heap.size + 1, 1, none⟩ = some (.int .i64 (Q : Int)) := ((bcell hG2).1 _ _ (by simp)).trans (by simp); have x2 : w2.cell? ⟨w.heap.size + 1, 2, none⟩ = some (.slice (some ⟨b, off + 8, none⟩) (len - 8) (cap - 8)) := ((bcell hG2).1 _ _ (by simp)).trans (by simp); have y0 : w2.cell? ⟨w.heap.size, 0, none⟩ = some (.int .i64 0) := ((bcell hG2).1 _ _ (by simp; omega)).trans (by simp); have y1 : w2.cell? ⟨w.heap.size, 1, none⟩ = some (.int .i64 0) := ((bcell hG2).1 _ _ (by simp; omega)).trans (by simp); have y2 : w2.cell? ⟨w.heap.size, 2, none⟩ = some (.slice none 0 0) := ((bcell hG2).1 _ _ (by simp; omega)).trans (by simp); have f0 : w2.frozen? ⟨w.heap.size, 0, none⟩ = false := ((bcell hG2).2 _ _ (by simp; omega)).trans (by simp); have f1 : w2.frozen? ⟨w.heap.size, 1, none⟩ = false := ((bcell hG2).2 _ _ (by simp; omega)).trans (by simp); have f2 : w2.frozen? ⟨w.heap.size, 2, none⟩ = false := ((bcell hG2).2 _ _ (by simp; omega)).trans (by simp); have HG2 : Hid (w.grownBy w2 none) := grownBy_trans (by repeat (first | exact grownBy_refl _ _ | apply grownBy_drew | apply grownBy_alloc)) hG2; clear hG2 HT1 HT2 x0 x1 x2; go_wp2; refine bodyPost_ret (v := .tuple #[.agg #[.int .i64 0, .int .i64 0, .slice none 0 0], .int .i64 5]) (by simp [results, Tryd.results11, go_sem, y0, y1, y2]) rfl ⟨rfl, ?_⟩; exact grownBy_setNew (grownBy_setNew (grownBy_setNew HG2.out (by simp)) (by simp)) (by simp)
end Go.Proofs.YtdajcpcajdhplaaDoor
