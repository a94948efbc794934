/-
  Dk19, Dk20, Dk21, Dk22, Dk23
-/
import Derived.Test.YtgehhfncjoogiaaGreatDoorSyn2
import Derived.BigQuiet
namespace Go.Proofs.YtgehhfncjoogiaaGreatDoor
open Go.RowKit Go.Maps

set_option maxRecDepth 20000 in
set_option maxHeartbeats 2000000 in
theorem carryCut_any (d : Nat) (nm tn : ByteArray) (da : Option Addr) (dn dc : Nat) (M : Dk) (ms : List Bd) (B : Nat) (ob : Option Nat) (m : Bd) (ln : Nat) (w : World) (h : DkAt w B d M ms) (hs : nm.size ≤ maxLen) (hob : M.LD.atKey (kS nm) .nil = bD ob) (hq : M.queue.length ≤ 100000) (hm : m ∈ ms) (hmo : ob = some m.b) (hl : ln ≤ m.L.length) :
    Calls Tryz.prog 56 #[.pointer (some ⟨d, 0, none⟩), .agg #[.int .i64 3, .int .i64 (ln : Int), .string nm, .string tn, .slice da dn dc]] w fun e w' => e = .returned (.tuple #[]) ∧ StepOut w w' B d M M.N M.LD (onL m.b (fun L => L.take ln) (ms.map Bd.tell)) (fun q' => ((q' = [] ∧ ln = m.L.length) ∨ ∃ x : Ch, q' = [x] ∧ x.kind = 2 ∧ x.b = m.b ∧ x.at_ = ln ∧ x.bs = [] ∧ ln < m.L.length)) := by
  have hg0 : w.grownBy (w.alloc (.cells #[.int .i64 3, .int .i64 (ln : Int), .string nm, .string tn, .slice da dn dc] 33)).drew none := grownBy_drew (World.grownBy_alloc w _ none); subst hmo; have HC : Hid (Calls _ _ _ _ _) := cut_any d M ms B m ln (w.alloc (.cells #[.int .i64 3, .int .i64 (ln : Int), .string nm, .string tn, .slice da dn dc] 33)).drew (h.grown0 hg0) hm hl hq; have hdw : d < w.heap.size := (Array.getElem?_eq_some_iff.1 h.box).1
  have c0 : w.cell? ⟨d, 0, none⟩ = some (.map (some M.lb)) := by
    have h8 := h.box; rw [Dk.box] at h8; exact (zCr h8).trans rfl
  have HM : Hid (NMap w M.lb M.N M.LD) := h.dl; have HG0 : Hid (w.grownBy (w.alloc (.cells #[.int .i64 3, .int .i64 (ln : Int), .string nm, .string tn, .slice da dn dc] 33)).drew none ∧ B ≤ w.heap.size) := ⟨hg0, h.sizeB⟩; clear h hg0
  go_enter Tryz.func56, Tryz.ntmps56
  go_upto_region 1 with fail
  refine wp_region_Z (fun Y => Y.cell? ⟨d, 0, none⟩ = some (.map (some M.lb)) ∧ Y.cell? ⟨w.heap.size, 2, none⟩ = some (.string nm) ∧ NMap Y M.lb M.N M.LD) (fun _ => false) (by kernel_rfl) ?_; have hX : (w.alloc (.cells #[.int .i64 3, .int .i64 (ln : Int), .string nm, .string tn, .slice da dn dc] 33)).heap[w.heap.size]? = some (.cells #[.int .i64 3, .int .i64 (ln : Int), .string nm, .string tn, .slice da dn dc] 33 (0, 0)) := heap_alloc_new w _
  have hS : (w.alloc (.cells #[.int .i64 3, .int .i64 (ln : Int), .string nm, .string tn, .slice da dn dc] 33)).drew.cell? ⟨d, 0, none⟩ = some (.map (some M.lb)) ∧ (w.alloc (.cells #[.int .i64 3, .int .i64 (ln : Int), .string nm, .string tn, .slice da dn dc] 33)).drew.cell? ⟨w.heap.size, 2, none⟩ = some (.string nm) ∧ NMap (w.alloc (.cells #[.int .i64 3, .int .i64 (ln : Int), .string nm, .string tn, .slice da dn dc] 33)).drew M.lb M.N M.LD := by
    refine ⟨?_, (zCr hX).trans rfl, HM.out.alloc _⟩; exact (World.cell?_of_block (w := w) (a := ⟨d, 0, none⟩) (heap_alloc_old w _ hdw)).trans c0
  refine zTk 0 ?_; simp only [Act.put, zq1, zq2, zq3]; refine zTk 1 ?_; simp only [Act.put, zq1, zq2, zq3]; refine zTk 2 ?_; simp only [Act.put, zq1, zq2, zq3]; refine zLs 3 rfl hS (by intro W hW; have c0 := hW.1; go_simp; first | done | with_reducible rfl) ?_; simp only [Act.put, zq1, zq2, zq3]; refine zTk 4 ?_; simp only [Act.put, zq1, zq2, zq3]; refine zLs 5 rfl hS (by intro W hW; have c0 := hW.2.1; go_simp; first | done | with_reducible rfl) ?_; simp only [Act.put, zq1, zq2, zq3]; refine zLs 6 rfl hS (by intro W hW; have c0 := run_look hW.2.2 hs hob; go_simp; first | done | with_reducible rfl) ?_; simp only [Act.put, zq1, zq2, zq3]; refine zTk 7 ?_; simp only [Act.put, zq1, zq2, zq3]; refine wpAnyZ_done (by kernel_rfl) ?_ _; have kk : (w.alloc (.cells #[.int .i64 3, .int .i64 (ln : Int), .string nm, .string tn, .slice da dn dc] 33)).drew.cell? ⟨w.heap.size, 0, none⟩ = some (.int .i64 3) := (zCr hX).trans rfl; have ka : (w.alloc (.cells #[.int .i64 3, .int .i64 (ln : Int), .string nm, .string tn, .slice da dn dc] 33)).drew.cell? ⟨w.heap.size, 1, none⟩ = some (.int .i64 (ln : Int)) := (zCr hX).trans rfl; clear hS hX c0; simp only [bP]; go_wp2_with fail; refine HC.out.mono ?_; rintro e w1 ⟨rfl, ms1, qv1, q1, g1, g2, g3, g4, g5⟩; have HF : Hid (StepOut w w1 B d M M.N M.LD (onL m.b (fun L => L.take ln) (ms.map Bd.tell)) (fun q' => ((q' = [] ∧ ln = m.L.length) ∨ ∃ x : Ch, q' = [x] ∧ x.kind = 2 ∧ x.b = m.b ∧ x.at_ = ln ∧ x.bs = [] ∧ ln < m.L.length))) := ⟨ms1, qv1, q1, g1, g2, g3, (Moves.of_grown0 HG0.out.1).trans g4, fun k hk => (g5 k hk).trans (HG0.out.1.block k (Nat.lt_of_lt_of_le hk HG0.out.2) (by simp))⟩; clear HC g1 g2 g3 g4 g5; go_wp2; refine bodyPost_end (results_none rfl _ _ _) rfl ⟨rfl, HF.out⟩
set_option maxRecDepth 20000 in
set_option maxHeartbeats 2000000 in
theorem carryWrite_any (d : Nat) (nm tn : ByteArray) (da : Option Addr) (dn dc : Nat) (M : Dk) (ms : List Bd) (B : Nat) (ob : Option Nat) (m : Bd) (at_ : Nat) (D : List Nat) (w : World) (h : DkAt w B d M ms) (hs : nm.size ≤ maxLen) (hob : M.LD.atKey (kS nm) .nil = bD ob) (hq : M.queue.length ≤ 100000) (hm : m ∈ ms) (hmo : ob = some m.b) (hsl : SlB w da dn D) (hcap : dn ≤ dc) (hda : ∀ b off, da = some ⟨b, off, none⟩ → b < B) (hal : at_ ≤ m.L.length) (had : at_ + dn ≤ 65536) :
    Calls Tryz.prog 56 #[.pointer (some ⟨d, 0, none⟩), .agg #[.int .i64 2, .int .i64 (at_ : Int), .string nm, .string tn, .slice da dn dc]] w fun e w' => e = .returned (.tuple #[]) ∧ StepOut w w' B d M M.N M.LD (onL m.b (fun L => ov L at_ D) (ms.map Bd.tell)) (fun q' => ((q' = [] ∧ D = []) ∨ ∃ x : Ch, q' = [x] ∧ x.kind = 1 ∧ x.b = m.b ∧ x.at_ = at_ ∧ x.D = D ∧ x.bs = [] ∧ D ≠ [])) := by
  have hg0 : w.grownBy (w.alloc (.cells #[.int .i64 2, .int .i64 (at_ : Int), .string nm, .string tn, .slice da dn dc] 33)).drew none := grownBy_drew (World.grownBy_alloc w _ none); subst hmo; have HC : Hid (Calls _ _ _ _ _) := write_any d M ms B m at_ dn dc da D (w.alloc (.cells #[.int .i64 2, .int .i64 (at_ : Int), .string nm, .string tn, .slice da dn dc] 33)).drew (h.grown0 hg0) hm (hsl.grown0 hg0) hcap hda hal had hq; have hdw : d < w.heap.size := (Array.getElem?_eq_some_iff.1 h.box).1
  have c0 : w.cell? ⟨d, 0, none⟩ = some (.map (some M.lb)) := by
    have h8 := h.box; rw [Dk.box] at h8; exact (zCr h8).trans rfl
  have HM : Hid (NMap w M.lb M.N M.LD) := h.dl; have HG0 : Hid (w.grownBy (w.alloc (.cells #[.int .i64 2, .int .i64 (at_ : Int), .string nm, .string tn, .slice da dn dc] 33)).drew none ∧ B ≤ w.heap.size) := ⟨hg0, h.sizeB⟩; clear h hg0
  go_enter Tryz.func56, Tryz.ntmps56
  go_upto_region 1 with fail
  refine wp_region_Z (fun Y => Y.cell? ⟨d, 0, none⟩ = some (.map (some M.lb)) ∧ Y.cell? ⟨w.heap.size, 2, none⟩ = some (.string nm) ∧ NMap Y M.lb M.N M.LD) (fun _ => false) (by kernel_rfl) ?_; have hX : (w.alloc (.cells #[.int .i64 2, .int .i64 (at_ : Int), .string nm, .string tn, .slice da dn dc] 33)).heap[w.heap.size]? = some (.cells #[.int .i64 2, .int .i64 (at_ : Int), .string nm, .string tn, .slice da dn dc] 33 (0, 0)) := heap_alloc_new w _
  have hS : (w.alloc (.cells #[.int .i64 2, .int .i64 (at_ : Int), .string nm, .string tn, .slice da dn dc] 33)).drew.cell? ⟨d, 0, none⟩ = some (.map (some M.lb)) ∧ (w.alloc (.cells #[.int .i64 2, .int .i64 (at_ : Int), .string nm, .string tn, .slice da dn dc] 33)).drew.cell? ⟨w.heap.size, 2, none⟩ = some (.string nm) ∧ NMap (w.alloc (.cells #[.int .i64 2, .int .i64 (at_ : Int), .string nm, .string tn, .slice da dn dc] 33)).drew M.lb M.N M.LD := by
    refine ⟨?_, (zCr hX).trans rfl, HM.out.alloc _⟩; exact (World.cell?_of_block (w := w) (a := ⟨d, 0, none⟩) (heap_alloc_old w _ hdw)).trans c0
  refine zTk 0 ?_; simp only [Act.put, zq1, zq2, zq3]; refine zTk 1 ?_; simp only [Act.put, zq1, zq2, zq3]; refine zTk 2 ?_; simp only [Act.put, zq1, zq2, zq3]; refine zLs 3 rfl hS (by intro W hW; have c0 := hW.1; go_simp; first | done | with_reducible rfl) ?_; simp only [Act.put, zq1, zq2, zq3]; refine zTk 4 ?_; simp only [Act.put, zq1, zq2, zq3]; refine zLs 5 rfl hS (by intro W hW; have c0 := hW.2.1; go_simp; first | done | with_reducible rfl) ?_; simp only [Act.put, zq1, zq2, zq3]; refine zLs 6 rfl hS (by intro W hW; have c0 := run_look hW.2.2 hs hob; go_simp; first | done | with_reducible rfl) ?_; simp only [Act.put, zq1, zq2, zq3]; refine zTk 7 ?_; simp only [Act.put, zq1, zq2, zq3]; refine wpAnyZ_done (by kernel_rfl) ?_ _; have kk : (w.alloc (.cells #[.int .i64 2, .int .i64 (at_ : Int), .string nm, .string tn, .slice da dn dc] 33)).drew.cell? ⟨w.heap.size, 0, none⟩ = some (.int .i64 2) := (zCr hX).trans rfl; have ka : (w.alloc (.cells #[.int .i64 2, .int .i64 (at_ : Int), .string nm, .string tn, .slice da dn dc] 33)).drew.cell? ⟨w.heap.size, 1, none⟩ = some (.int .i64 (at_ : Int)) := (zCr hX).trans rfl; have kd : (w.alloc (.cells #[.int .i64 2, .int .i64 (at_ : Int), .string nm, .string tn, .slice da dn dc] 33)).drew.cell? ⟨w.heap.size, 4, none⟩ = some (.slice da dn dc) := (zCr hX).trans rfl; clear hS hX c0; simp only [bP]; go_wp2_with fail; refine HC.out.mono ?_; rintro e w1 ⟨rfl, ms1, qv1, q1, g1, g2, g3, g4, g5⟩; have HF : Hid (StepOut w w1 B d M M.N M.LD (onL m.b (fun L => ov L at_ D) (ms.map Bd.tell)) (fun q' => ((q' = [] ∧ D = []) ∨ ∃ x : Ch, q' = [x] ∧ x.kind = 1 ∧ x.b = m.b ∧ x.at_ = at_ ∧ x.D = D ∧ x.bs = [] ∧ D ≠ []))) := ⟨ms1, qv1, q1, g1, g2, g3, (Moves.of_grown0 HG0.out.1).trans g4, fun k hk => (g5 k hk).trans (HG0.out.1.block k (Nat.lt_of_lt_of_le hk HG0.out.2) (by simp))⟩; clear HC g1 g2 g3 g4 g5; go_wp2; refine bodyPost_end (results_none rfl _ _ _) rfl ⟨rfl, HF.out⟩
set_option maxRecDepth 20000 in
set_option maxHeartbeats 2000000 in
theorem carryRemove_any (d : Nat) (a : Int) (nm tn : ByteArray) (da : Option Addr) (dn dc : Nat) (M : Dk) (ms : List Bd) (B : Nat) (ob : Option Nat) (w : World) (h : DkAt w B d M ms) (hs : nm.size ≤ maxLen) (hob : M.LD.atKey (kS nm) .nil = bD ob) (hq : M.queue.length ≤ 100000) (hN : M.N + 1 ≤ 1000000) :
    Calls Tryz.prog 56 #[.pointer (some ⟨d, 0, none⟩), .agg #[.int .i64 5, .int .i64 a, .string nm, .string tn, .slice da dn dc]] w fun e w' => e = .returned (.tuple #[]) ∧ StepOut w w' B d M (M.N + 1) (bindD M.LD [(nm, none)]) (ms.map Bd.tell) (fun q' => ∃ x : Ch, q' = [x] ∧ x.kind = 3 ∧ x.bs = [(nm, none)]) := by
  have hg0 : w.grownBy (w.alloc (.cells #[.int .i64 5, .int .i64 a, .string nm, .string tn, .slice da dn dc] 33)).drew none := grownBy_drew (World.grownBy_alloc w _ none); have hg1 : w.grownBy ((w.alloc (.cells #[.int .i64 5, .int .i64 a, .string nm, .string tn, .slice da dn dc] 33)).alloc (.cells #[.string nm, .pointer none] 127)).drew none := grownBy_drew (grown_step (World.grownBy_alloc w _ none) (World.grownBy_alloc _ _ none) (by simp))
  have hbb : ((w.alloc (.cells #[.int .i64 5, .int .i64 a, .string nm, .string tn, .slice da dn dc] 33)).alloc (.cells #[.string nm, .pointer none] 127)).drew.heap[w.heap.size + 1]? = some (.cells #[.string nm, .pointer none] 127 (0, 0)) := by
    have h9 := heap_alloc_new (w.alloc (.cells #[.int .i64 5, .int .i64 a, .string nm, .string tn, .slice da dn dc] 33)) (.cells #[.string nm, .pointer none] 127); rw [show (w.alloc (.cells #[.int .i64 5, .int .i64 a, .string nm, .string tn, .slice da dn dc] 33)).heap.size = w.heap.size + 1 by simp] at h9; exact h9
  have hbn : BnS ((w.alloc (.cells #[.int .i64 5, .int .i64 a, .string nm, .string tn, .slice da dn dc] 33)).alloc (.cells #[.string nm, .pointer none] 127)).drew (some ⟨w.heap.size + 1, 0, none⟩) [(nm, none)] := by
    intro i y hy
    match i, hy with
    | 0, hy =>
      obtain rfl : (nm, none) = y := by simpa using hy
      exact ⟨hs, _, rfl, (zCr hbb).trans rfl, (zCr hbb).trans rfl, _, hbb⟩
  have HC : Hid (Calls _ _ _ _ _) := changeNames_any d M ms B (some ⟨w.heap.size + 1, 0, none⟩) 1 [(nm, none)] ((w.alloc (.cells #[.int .i64 5, .int .i64 a, .string nm, .string tn, .slice da dn dc] 33)).alloc (.cells #[.string nm, .pointer none] 127)).drew (h.grown0 hg1) hbn (by simp) hN hq; have HG1 : Hid (w.grownBy ((w.alloc (.cells #[.int .i64 5, .int .i64 a, .string nm, .string tn, .slice da dn dc] 33)).alloc (.cells #[.string nm, .pointer none] 127)).drew none) := hg1; clear hg1 hbb hbn; simp only [List.length_cons, List.length_nil, Nat.zero_add] at HC; have hdw : d < w.heap.size := (Array.getElem?_eq_some_iff.1 h.box).1
  have c0 : w.cell? ⟨d, 0, none⟩ = some (.map (some M.lb)) := by
    have h8 := h.box; rw [Dk.box] at h8; exact (zCr h8).trans rfl
  have HM : Hid (NMap w M.lb M.N M.LD) := h.dl; have HG0 : Hid (w.grownBy (w.alloc (.cells #[.int .i64 5, .int .i64 a, .string nm, .string tn, .slice da dn dc] 33)).drew none ∧ B ≤ w.heap.size) := ⟨hg0, h.sizeB⟩; clear h hg0
  go_enter Tryz.func56, Tryz.ntmps56
  go_upto_region 1 with fail
  refine wp_region_Z (fun Y => Y.cell? ⟨d, 0, none⟩ = some (.map (some M.lb)) ∧ Y.cell? ⟨w.heap.size, 2, none⟩ = some (.string nm) ∧ NMap Y M.lb M.N M.LD) (fun _ => false) (by kernel_rfl) ?_; have hX : (w.alloc (.cells #[.int .i64 5, .int .i64 a, .string nm, .string tn, .slice da dn dc] 33)).heap[w.heap.size]? = some (.cells #[.int .i64 5, .int .i64 a, .string nm, .string tn, .slice da dn dc] 33 (0, 0)) := heap_alloc_new w _
  have hS : (w.alloc (.cells #[.int .i64 5, .int .i64 a, .string nm, .string tn, .slice da dn dc] 33)).drew.cell? ⟨d, 0, none⟩ = some (.map (some M.lb)) ∧ (w.alloc (.cells #[.int .i64 5, .int .i64 a, .string nm, .string tn, .slice da dn dc] 33)).drew.cell? ⟨w.heap.size, 2, none⟩ = some (.string nm) ∧ NMap (w.alloc (.cells #[.int .i64 5, .int .i64 a, .string nm, .string tn, .slice da dn dc] 33)).drew M.lb M.N M.LD := by
    refine ⟨?_, (zCr hX).trans rfl, HM.out.alloc _⟩; exact (World.cell?_of_block (w := w) (a := ⟨d, 0, none⟩) (heap_alloc_old w _ hdw)).trans c0
  refine zTk 0 ?_; simp only [Act.put, zq1, zq2, zq3]; refine zTk 1 ?_; simp only [Act.put, zq1, zq2, zq3]; refine zTk 2 ?_; simp only [Act.put, zq1, zq2, zq3]; refine zLs 3 rfl hS (by intro W hW; have c0 := hW.1; go_simp; first | done | with_reducible rfl) ?_; simp only [Act.put, zq1, zq2, zq3]; refine zTk 4 ?_; simp only [Act.put, zq1, zq2, zq3]; refine zLs 5 rfl hS (by intro W hW; have c0 := hW.2.1; go_simp; first | done | with_reducible rfl) ?_; simp only [Act.put, zq1, zq2, zq3]; refine zLs 6 rfl hS (by intro W hW; have c0 := run_look hW.2.2 hs hob; go_simp; first | done | with_reducible rfl) ?_; simp only [Act.put, zq1, zq2, zq3]; refine zTk 7 ?_; simp only [Act.put, zq1, zq2, zq3]; refine wpAnyZ_done (by kernel_rfl) ?_ _; have kk : (w.alloc (.cells #[.int .i64 5, .int .i64 a, .string nm, .string tn, .slice da dn dc] 33)).drew.cell? ⟨w.heap.size, 0, none⟩ = some (.int .i64 5) := (zCr hX).trans rfl; have kn : (w.alloc (.cells #[.int .i64 5, .int .i64 a, .string nm, .string tn, .slice da dn dc] 33)).drew.cell? ⟨w.heap.size, 2, none⟩ = some (.string nm) := (zCr hX).trans rfl; clear hS hX c0; go_wp2_with fail; refine HC.out.mono ?_; rintro e w1 ⟨rfl, ms1, qv1, q1, g1, g2, g3, g4, g5⟩; have HF : Hid (StepOut w w1 B d M (M.N + 1) (bindD M.LD [(nm, none)]) (ms.map Bd.tell) (fun q' => ∃ x : Ch, q' = [x] ∧ x.kind = 3 ∧ x.bs = [(nm, none)])) := ⟨ms1, qv1, q1, g1, g2, g3, (Moves.of_grown0 HG1.out).trans g4, fun k hk => (g5 k hk).trans (HG1.out.block k (Nat.lt_of_lt_of_le hk HG0.out.2) (by simp))⟩; clear HC g1 g2 g3 g4 g5; go_wp2; refine bodyPost_end (results_none rfl _ _ _) rfl ⟨rfl, HF.out⟩
theorem Bods.add {w w' : World} {B : Nat} {ms : List Bd} (h : Bods w B ms) (hg : w.grownBy w' none) (hB : B ≤ w.heap.size) {m : Bd} (hm : BdAt w' B m) (hb : w.heap.size ≤ m.b) (hl : rowBlk m.lv = none) (hs : rowBlk m.sv = none) (hz : m.L.length ≤ 65536 ∧ m.S.length ≤ 65536) : Bods w' B (ms ++ [m]) := by
  have h' := h.grown0 hg; refine ⟨fun x hx => ?_, fun x hx => ?_, ?_, fun x hx y hy hne g hg' hc => ?_⟩
  · rcases List.mem_append.1 hx with h9 | h9
    · exact h'.each x h9
    · obtain rfl : x = m := by simpa using h9
      exact ⟨hm, hz⟩
  · rcases List.mem_append.1 hx with h9 | h9
    · exact h.low x h9
    · obtain rfl : x = m := by simpa using h9
      omega
  · rw [List.map_append]; refine List.nodup_append.2 ⟨h.one, by simp, fun a ha b hb' => ?_⟩; obtain ⟨x, hx, rfl⟩ := List.mem_map.1 ha
    obtain rfl : b = m.b := by simpa using hb'
    have := (h.each x hx).1.lt (.inl rfl)
    omega
  · rcases List.mem_append.1 hx with h9 | h9
    · rcases List.mem_append.1 hy with h8 | h8
      · exact h.apart x h9 y h8 hne g hg' hc
      · obtain rfl : y = m := by simpa using h8
        rcases hc with hc | hc
        · rw [hl] at hc; cases hc
        · rw [hs] at hc; cases hc
    · obtain rfl : x = m := by simpa using h9
      rcases hg' with hc | hc
      · rw [hl] at hc; cases hc
      · rw [hs] at hc; cases hc
theorem DkAt.add {w w' : World} {B d : Nat} {M : Dk} {ms : List Bd} (h : DkAt w B d M ms) (hg : w.grownBy w' none) {m : Bd} (hm : BdAt w' B m) (hb : w.heap.size ≤ m.b) (hl : rowBlk m.lv = none) (hs : rowBlk m.sv = none) (hz : m.L.length ≤ 65536 ∧ m.S.length ≤ 65536) : DkAt w' B d M (ms ++ [m]) := by
  have h' := h.grown0 hg
  have hT : ∀ b, Has ms b → Has (ms ++ [m]) b := fun b hb => by
    unfold Has at hb ⊢
    rw [List.map_append]; exact List.mem_append_left _ hb
  exact ⟨h'.box, h'.dl, h'.ds, h'.ne, h'.low, h.bods.add hg h.sizeB hm hb hl hs hz, h'.q, h'.chs, fun x hx => (h.refs x hx).to hT, h.refL.to hT, h.refS.to hT⟩
set_option maxRecDepth 20000 in
set_option maxHeartbeats 2000000 in
theorem carryCreate_any (d : Nat) (a : Int) (nm tn : ByteArray) (da : Option Addr) (dn dc : Nat) (M : Dk) (ms : List Bd) (B : Nat) (ob : Option Nat) (w : World) (h : DkAt w B d M ms) (hs : nm.size ≤ maxLen) (hob : M.LD.atKey (kS nm) .nil = bD ob) (hq : M.queue.length ≤ 100000) (hN : M.N + 1 ≤ 1000000) :
    Calls Tryz.prog 56 #[.pointer (some ⟨d, 0, none⟩), .agg #[.int .i64 1, .int .i64 a, .string nm, .string tn, .slice da dn dc]] w fun e w' => e = .returned (.tuple #[]) ∧ StepOut w w' B d M (M.N + 1) (bindD M.LD [(nm, some (w.heap.size + 1))]) (ms.map Bd.tell ++ [(w.heap.size + 1, [], [])]) (fun q' => ∃ x : Ch, q' = [x] ∧ x.kind = 3 ∧ x.bs = [(nm, some (w.heap.size + 1))]) := by
  have hg0 : w.grownBy (w.alloc (.cells #[.int .i64 1, .int .i64 a, .string nm, .string tn, .slice da dn dc] 33)).drew none := grownBy_drew (World.grownBy_alloc w _ none)
  have s1 : (w.alloc (.cells #[.int .i64 1, .int .i64 a, .string nm, .string tn, .slice da dn dc] 33)).heap.size = w.heap.size + 1 := by simp
  have s2 : ((w.alloc (.cells #[.int .i64 1, .int .i64 a, .string nm, .string tn, .slice da dn dc] 33)).alloc (.cells #[.slice none 0 0, .slice none 0 0, .int .i64 0] 93)).heap.size = w.heap.size + 1 + 1 := by simp
  have hg1 : w.grownBy (((w.alloc (.cells #[.int .i64 1, .int .i64 a, .string nm, .string tn, .slice da dn dc] 33)).alloc (.cells #[.slice none 0 0, .slice none 0 0, .int .i64 0] 93)).alloc (.cells #[.string nm, .pointer (some ⟨w.heap.size + 1, 0, none⟩)] 127)).drew none := grownBy_drew (grown_step (grown_step (World.grownBy_alloc w _ none) (World.grownBy_alloc _ _ none) (by simp)) (World.grownBy_alloc _ _ none) (by simp))
  have hbb : (((w.alloc (.cells #[.int .i64 1, .int .i64 a, .string nm, .string tn, .slice da dn dc] 33)).alloc (.cells #[.slice none 0 0, .slice none 0 0, .int .i64 0] 93)).alloc (.cells #[.string nm, .pointer (some ⟨w.heap.size + 1, 0, none⟩)] 127)).drew.heap[w.heap.size + 1 + 1]? = some (.cells #[.string nm, .pointer (some ⟨w.heap.size + 1, 0, none⟩)] 127 (0, 0)) := by
    have h9 := heap_alloc_new ((w.alloc (.cells #[.int .i64 1, .int .i64 a, .string nm, .string tn, .slice da dn dc] 33)).alloc (.cells #[.slice none 0 0, .slice none 0 0, .int .i64 0] 93)) (.cells #[.string nm, .pointer (some ⟨w.heap.size + 1, 0, none⟩)] 127); rw [s2] at h9; exact h9
  have hnb : (((w.alloc (.cells #[.int .i64 1, .int .i64 a, .string nm, .string tn, .slice da dn dc] 33)).alloc (.cells #[.slice none 0 0, .slice none 0 0, .int .i64 0] 93)).alloc (.cells #[.string nm, .pointer (some ⟨w.heap.size + 1, 0, none⟩)] 127)).drew.heap[w.heap.size + 1]? = some (.cells #[.slice none 0 0, .slice none 0 0, .int .i64 0] 93 (0, 0)) := by
    have h9 := heap_alloc_new (w.alloc (.cells #[.int .i64 1, .int .i64 a, .string nm, .string tn, .slice da dn dc] 33)) (.cells #[.slice none 0 0, .slice none 0 0, .int .i64 0] 93); rw [s1] at h9; exact (heap_alloc_old ((w.alloc (.cells #[.int .i64 1, .int .i64 a, .string nm, .string tn, .slice da dn dc] 33)).alloc (.cells #[.slice none 0 0, .slice none 0 0, .int .i64 0] 93)) _ (by rw [s2]; omega)).trans h9
  have hnw : BdAt (((w.alloc (.cells #[.int .i64 1, .int .i64 a, .string nm, .string tn, .slice da dn dc] 33)).alloc (.cells #[.slice none 0 0, .slice none 0 0, .int .i64 0] 93)).alloc (.cells #[.string nm, .pointer (some ⟨w.heap.size + 1, 0, none⟩)] 127)).drew B (⟨w.heap.size + 1, .slice none 0 0, .slice none 0 0, [], [], 0⟩ : Bd) := ⟨hnb, ⟨by simp, .inl ⟨rfl, none, rfl⟩⟩, ⟨by simp, .inl ⟨rfl, none, rfl⟩⟩, fun g hg => by cases hg⟩
  have hbn : BnS (((w.alloc (.cells #[.int .i64 1, .int .i64 a, .string nm, .string tn, .slice da dn dc] 33)).alloc (.cells #[.slice none 0 0, .slice none 0 0, .int .i64 0] 93)).alloc (.cells #[.string nm, .pointer (some ⟨w.heap.size + 1, 0, none⟩)] 127)).drew (some ⟨w.heap.size + 1 + 1, 0, none⟩) [(nm, some (w.heap.size + 1))] := by
    intro i y hy
    match i, hy with
    | 0, hy =>
      obtain rfl : (nm, some (w.heap.size + 1)) = y := by simpa using hy
      exact ⟨hs, _, rfl, (zCr hbb).trans rfl, (zCr hbb).trans rfl, _, hbb⟩
  have hbr : ∀ y ∈ [(nm, some (w.heap.size + 1))], ∀ b, y.2 = some b → Has (ms ++ [(⟨w.heap.size + 1, .slice none 0 0, .slice none 0 0, [], [], 0⟩ : Bd)]) b := by
    intro y hy b hb
    obtain rfl : y = (nm, some (w.heap.size + 1)) := by simpa using hy
    obtain rfl : w.heap.size + 1 = b := by simpa using hb
    unfold Has
    simp
  have HC : Hid (Calls _ _ _ _ _) := changeNames_any d M (ms ++ [(⟨w.heap.size + 1, .slice none 0 0, .slice none 0 0, [], [], 0⟩ : Bd)]) B (some ⟨w.heap.size + 1 + 1, 0, none⟩) 1 [(nm, some (w.heap.size + 1))] (((w.alloc (.cells #[.int .i64 1, .int .i64 a, .string nm, .string tn, .slice da dn dc] 33)).alloc (.cells #[.slice none 0 0, .slice none 0 0, .int .i64 0] 93)).alloc (.cells #[.string nm, .pointer (some ⟨w.heap.size + 1, 0, none⟩)] 127)).drew (h.add hg1 hnw (by show w.heap.size ≤ w.heap.size + 1; omega) rfl rfl ⟨by simp, by simp⟩) hbn hbr hN hq; rw [show (ms ++ [(⟨w.heap.size + 1, .slice none 0 0, .slice none 0 0, [], [], 0⟩ : Bd)]).map Bd.tell = ms.map Bd.tell ++ [(w.heap.size + 1, [], [])] by rw [List.map_append]; rfl] at HC; have HG1 : Hid (w.grownBy (((w.alloc (.cells #[.int .i64 1, .int .i64 a, .string nm, .string tn, .slice da dn dc] 33)).alloc (.cells #[.slice none 0 0, .slice none 0 0, .int .i64 0] 93)).alloc (.cells #[.string nm, .pointer (some ⟨w.heap.size + 1, 0, none⟩)] 127)).drew none) := hg1; clear hg1 hbb hbn hnb hnw hbr s1 s2; simp only [List.length_cons, List.length_nil, Nat.zero_add] at HC; have hdw : d < w.heap.size := (Array.getElem?_eq_some_iff.1 h.box).1
  have c0 : w.cell? ⟨d, 0, none⟩ = some (.map (some M.lb)) := by
    have h8 := h.box; rw [Dk.box] at h8; exact (zCr h8).trans rfl
  have HM : Hid (NMap w M.lb M.N M.LD) := h.dl; have HG0 : Hid (w.grownBy (w.alloc (.cells #[.int .i64 1, .int .i64 a, .string nm, .string tn, .slice da dn dc] 33)).drew none ∧ B ≤ w.heap.size) := ⟨hg0, h.sizeB⟩; clear h hg0
  go_enter Tryz.func56, Tryz.ntmps56
  go_upto_region 1 with fail
  refine wp_region_Z (fun Y => Y.cell? ⟨d, 0, none⟩ = some (.map (some M.lb)) ∧ Y.cell? ⟨w.heap.size, 2, none⟩ = some (.string nm) ∧ NMap Y M.lb M.N M.LD) (fun _ => false) (by kernel_rfl) ?_; have hX : (w.alloc (.cells #[.int .i64 1, .int .i64 a, .string nm, .string tn, .slice da dn dc] 33)).heap[w.heap.size]? = some (.cells #[.int .i64 1, .int .i64 a, .string nm, .string tn, .slice da dn dc] 33 (0, 0)) := heap_alloc_new w _
  have hS : (w.alloc (.cells #[.int .i64 1, .int .i64 a, .string nm, .string tn, .slice da dn dc] 33)).drew.cell? ⟨d, 0, none⟩ = some (.map (some M.lb)) ∧ (w.alloc (.cells #[.int .i64 1, .int .i64 a, .string nm, .string tn, .slice da dn dc] 33)).drew.cell? ⟨w.heap.size, 2, none⟩ = some (.string nm) ∧ NMap (w.alloc (.cells #[.int .i64 1, .int .i64 a, .string nm, .string tn, .slice da dn dc] 33)).drew M.lb M.N M.LD := by
    refine ⟨?_, (zCr hX).trans rfl, HM.out.alloc _⟩; exact (World.cell?_of_block (w := w) (a := ⟨d, 0, none⟩) (heap_alloc_old w _ hdw)).trans c0
  refine zTk 0 ?_; simp only [Act.put, zq1, zq2, zq3]; refine zTk 1 ?_; simp only [Act.put, zq1, zq2, zq3]; refine zTk 2 ?_; simp only [Act.put, zq1, zq2, zq3]; refine zLs 3 rfl hS (by intro W hW; have c0 := hW.1; go_simp; first | done | with_reducible rfl) ?_; simp only [Act.put, zq1, zq2, zq3]; refine zTk 4 ?_; simp only [Act.put, zq1, zq2, zq3]; refine zLs 5 rfl hS (by intro W hW; have c0 := hW.2.1; go_simp; first | done | with_reducible rfl) ?_; simp only [Act.put, zq1, zq2, zq3]; refine zLs 6 rfl hS (by intro W hW; have c0 := run_look hW.2.2 hs hob; go_simp; first | done | with_reducible rfl) ?_; simp only [Act.put, zq1, zq2, zq3]; refine zTk 7 ?_; simp only [Act.put, zq1, zq2, zq3]; refine wpAnyZ_done (by kernel_rfl) ?_ _; have kk : (w.alloc (.cells #[.int .i64 1, .int .i64 a, .string nm, .string tn, .slice da dn dc] 33)).drew.cell? ⟨w.heap.size, 0, none⟩ = some (.int .i64 1) := (zCr hX).trans rfl; have kn : (w.alloc (.cells #[.int .i64 1, .int .i64 a, .string nm, .string tn, .slice da dn dc] 33)).drew.cell? ⟨w.heap.size, 2, none⟩ = some (.string nm) := (zCr hX).trans rfl; clear hS hX c0; go_wp2_with fail; refine HC.out.mono ?_; rintro e w1 ⟨rfl, ms1, qv1, q1, g1, g2, g3, g4, g5⟩; have HF : Hid (StepOut w w1 B d M (M.N + 1) (bindD M.LD [(nm, some (w.heap.size + 1))]) (ms.map Bd.tell ++ [(w.heap.size + 1, [], [])]) (fun q' => ∃ x : Ch, q' = [x] ∧ x.kind = 3 ∧ x.bs = [(nm, some (w.heap.size + 1))])) := ⟨ms1, qv1, q1, g1, g2, g3, (Moves.of_grown0 HG1.out).trans g4, fun k hk => (g5 k hk).trans (HG1.out.block k (Nat.lt_of_lt_of_le hk HG0.out.2) (by simp))⟩; clear HC g1 g2 g3 g4 g5; go_wp2; refine bodyPost_end (results_none rfl _ _ _) rfl ⟨rfl, HF.out⟩
set_option maxRecDepth 20000 in
set_option maxHeartbeats 2000000 in
theorem carryRename_any (d : Nat) (a : Int) (nm tn : ByteArray) (da : Option Addr) (dn dc : Nat) (M : Dk) (ms : List Bd) (B : Nat) (ob : Option Nat) (m : Bd) (w : World) (h : DkAt w B d M ms) (hs : nm.size ≤ maxLen) (hob : M.LD.atKey (kS nm) .nil = bD ob) (hq : M.queue.length ≤ 100000) (hst : tn.size ≤ maxLen) (hm : m ∈ ms) (hmo : ob = some m.b) (hne : (tn.toList == nm.toList) = false) (hN : M.N + 2 ≤ 1000000) :
    Calls Tryz.prog 56 #[.pointer (some ⟨d, 0, none⟩), .agg #[.int .i64 4, .int .i64 a, .string nm, .string tn, .slice da dn dc]] w fun e w' => e = .returned (.tuple #[]) ∧ StepOut w w' B d M (M.N + 2) (bindD M.LD [(tn, some m.b), (nm, none)]) (ms.map Bd.tell) (fun q' => ∃ x : Ch, q' = [x] ∧ x.kind = 3 ∧ x.bs = [(tn, some m.b), (nm, none)]) := by
  have hg0 : w.grownBy (w.alloc (.cells #[.int .i64 4, .int .i64 a, .string nm, .string tn, .slice da dn dc] 33)).drew none := grownBy_drew (World.grownBy_alloc w _ none); subst hmo; have hg1 : w.grownBy ((w.alloc (.cells #[.int .i64 4, .int .i64 a, .string nm, .string tn, .slice da dn dc] 33)).alloc (.cells #[.string tn, .pointer (some ⟨m.b, 0, none⟩), .string nm, .pointer none] 127)).drew none := grownBy_drew (grown_step (World.grownBy_alloc w _ none) (World.grownBy_alloc _ _ none) (by simp))
  have hbb : ((w.alloc (.cells #[.int .i64 4, .int .i64 a, .string nm, .string tn, .slice da dn dc] 33)).alloc (.cells #[.string tn, .pointer (some ⟨m.b, 0, none⟩), .string nm, .pointer none] 127)).drew.heap[w.heap.size + 1]? = some (.cells #[.string tn, .pointer (some ⟨m.b, 0, none⟩), .string nm, .pointer none] 127 (0, 0)) := by
    have h9 := heap_alloc_new (w.alloc (.cells #[.int .i64 4, .int .i64 a, .string nm, .string tn, .slice da dn dc] 33)) (.cells #[.string tn, .pointer (some ⟨m.b, 0, none⟩), .string nm, .pointer none] 127); rw [show (w.alloc (.cells #[.int .i64 4, .int .i64 a, .string nm, .string tn, .slice da dn dc] 33)).heap.size = w.heap.size + 1 by simp] at h9; exact h9
  have hbn : BnS ((w.alloc (.cells #[.int .i64 4, .int .i64 a, .string nm, .string tn, .slice da dn dc] 33)).alloc (.cells #[.string tn, .pointer (some ⟨m.b, 0, none⟩), .string nm, .pointer none] 127)).drew (some ⟨w.heap.size + 1, 0, none⟩) [(tn, some m.b), (nm, none)] := by
    intro i y hy
    match i, hy with
    | 0, hy =>
      obtain rfl : (tn, some m.b) = y := by simpa using hy
      exact ⟨hst, _, rfl, (zCr hbb).trans rfl, (zCr hbb).trans rfl, _, hbb⟩
    | 1, hy =>
      obtain rfl : (nm, none) = y := by simpa using hy
      exact ⟨hs, _, rfl, (zCr hbb).trans rfl, (zCr hbb).trans rfl, _, hbb⟩
  have hbr : ∀ y ∈ [(tn, some m.b), (nm, none)], ∀ b, y.2 = some b → Has ms b := by
    intro y hy b hb
    rcases List.mem_cons.1 hy with rfl | hy
    · obtain rfl : m.b = b := by simpa using hb
      exact List.mem_map_of_mem hm
    · obtain rfl : y = (nm, none) := by simpa using hy
      cases hb
  have HC : Hid (Calls _ _ _ _ _) := changeNames_any d M ms B (some ⟨w.heap.size + 1, 0, none⟩) 2 [(tn, some m.b), (nm, none)] ((w.alloc (.cells #[.int .i64 4, .int .i64 a, .string nm, .string tn, .slice da dn dc] 33)).alloc (.cells #[.string tn, .pointer (some ⟨m.b, 0, none⟩), .string nm, .pointer none] 127)).drew (h.grown0 hg1) hbn hbr hN hq; have HG1 : Hid (w.grownBy ((w.alloc (.cells #[.int .i64 4, .int .i64 a, .string nm, .string tn, .slice da dn dc] 33)).alloc (.cells #[.string tn, .pointer (some ⟨m.b, 0, none⟩), .string nm, .pointer none] 127)).drew none) := hg1; clear hg1 hbb hbn hbr; simp only [List.length_cons, List.length_nil, Nat.zero_add] at HC; have hdw : d < w.heap.size := (Array.getElem?_eq_some_iff.1 h.box).1
  have c0 : w.cell? ⟨d, 0, none⟩ = some (.map (some M.lb)) := by
    have h8 := h.box; rw [Dk.box] at h8; exact (zCr h8).trans rfl
  have HM : Hid (NMap w M.lb M.N M.LD) := h.dl; have HG0 : Hid (w.grownBy (w.alloc (.cells #[.int .i64 4, .int .i64 a, .string nm, .string tn, .slice da dn dc] 33)).drew none ∧ B ≤ w.heap.size) := ⟨hg0, h.sizeB⟩; clear h hg0
  go_enter Tryz.func56, Tryz.ntmps56
  go_upto_region 1 with fail
  refine wp_region_Z (fun Y => Y.cell? ⟨d, 0, none⟩ = some (.map (some M.lb)) ∧ Y.cell? ⟨w.heap.size, 2, none⟩ = some (.string nm) ∧ NMap Y M.lb M.N M.LD) (fun _ => false) (by kernel_rfl) ?_; have hX : (w.alloc (.cells #[.int .i64 4, .int .i64 a, .string nm, .string tn, .slice da dn dc] 33)).heap[w.heap.size]? = some (.cells #[.int .i64 4, .int .i64 a, .string nm, .string tn, .slice da dn dc] 33 (0, 0)) := heap_alloc_new w _
  have hS : (w.alloc (.cells #[.int .i64 4, .int .i64 a, .string nm, .string tn, .slice da dn dc] 33)).drew.cell? ⟨d, 0, none⟩ = some (.map (some M.lb)) ∧ (w.alloc (.cells #[.int .i64 4, .int .i64 a, .string nm, .string tn, .slice da dn dc] 33)).drew.cell? ⟨w.heap.size, 2, none⟩ = some (.string nm) ∧ NMap (w.alloc (.cells #[.int .i64 4, .int .i64 a, .string nm, .string tn, .slice da dn dc] 33)).drew M.lb M.N M.LD := by
    refine ⟨?_, (zCr hX).trans rfl, HM.out.alloc _⟩; exact (World.cell?_of_block (w := w) (a := ⟨d, 0, none⟩) (heap_alloc_old w _ hdw)).trans c0
  refine zTk 0 ?_; simp only [Act.put, zq1, zq2, zq3]; refine zTk 1 ?_; simp only [Act.put, zq1, zq2, zq3]; refine zTk 2 ?_; simp only [Act.put, zq1, zq2, zq3]; refine zLs 3 rfl hS (by intro W hW; have c0 := hW.1; go_simp; first | done | with_reducible rfl) ?_; simp only [Act.put, zq1, zq2, zq3]; refine zTk 4 ?_; simp only [Act.put, zq1, zq2, zq3]; refine zLs 5 rfl hS (by intro W hW; have c0 := hW.2.1; go_simp; first | done | with_reducible rfl) ?_; simp only [Act.put, zq1, zq2, zq3]; refine zLs 6 rfl hS (by intro W hW; have c0 := run_look hW.2.2 hs hob; go_simp; first | done | with_reducible rfl) ?_; simp only [Act.put, zq1, zq2, zq3]; refine zTk 7 ?_; simp only [Act.put, zq1, zq2, zq3]; refine wpAnyZ_done (by kernel_rfl) ?_ _; have kk : (w.alloc (.cells #[.int .i64 4, .int .i64 a, .string nm, .string tn, .slice da dn dc] 33)).drew.cell? ⟨w.heap.size, 0, none⟩ = some (.int .i64 4) := (zCr hX).trans rfl; have kn : (w.alloc (.cells #[.int .i64 4, .int .i64 a, .string nm, .string tn, .slice da dn dc] 33)).drew.cell? ⟨w.heap.size, 2, none⟩ = some (.string nm) := (zCr hX).trans rfl; have kt : (w.alloc (.cells #[.int .i64 4, .int .i64 a, .string nm, .string tn, .slice da dn dc] 33)).drew.cell? ⟨w.heap.size, 3, none⟩ = some (.string tn) := (zCr hX).trans rfl; clear hS hX c0; simp only [bP]; go_wp2_with fail; refine HC.out.mono ?_; rintro e w1 ⟨rfl, ms1, qv1, q1, g1, g2, g3, g4, g5⟩; have HF : Hid (StepOut w w1 B d M (M.N + 2) (bindD M.LD [(tn, some m.b), (nm, none)]) (ms.map Bd.tell) (fun q' => ∃ x : Ch, q' = [x] ∧ x.kind = 3 ∧ x.bs = [(tn, some m.b), (nm, none)])) := ⟨ms1, qv1, q1, g1, g2, g3, (Moves.of_grown0 HG1.out).trans g4, fun k hk => (g5 k hk).trans (HG1.out.block k (Nat.lt_of_lt_of_le hk HG0.out.2) (by simp))⟩; clear HC g1 g2 g3 g4 g5; go_wp2; refine bodyPost_end (results_none rfl _ _ _) rfl ⟨rfl, HF.out⟩
set_option maxRecDepth 20000 in
set_option maxHeartbeats 2000000 in
theorem carryRenameSame_any (d : Nat) (a : Int) (nm tn : ByteArray) (da : Option Addr) (dn dc : Nat) (M : Dk) (ms : List Bd) (B : Nat) (ob : Option Nat) (w : World) (h : DkAt w B d M ms) (hs : nm.size ≤ maxLen) (hob : M.LD.atKey (kS nm) .nil = bD ob)(hne : (tn.toList == nm.toList) = true) :
    Calls Tryz.prog 56 #[.pointer (some ⟨d, 0, none⟩), .agg #[.int .i64 4, .int .i64 a, .string nm, .string tn, .slice da dn dc]] w fun e w' => e = .returned (.tuple #[]) ∧ w.grownBy w' none := by
  have hg0 : w.grownBy (w.alloc (.cells #[.int .i64 4, .int .i64 a, .string nm, .string tn, .slice da dn dc] 33)).drew none := grownBy_drew (World.grownBy_alloc w _ none); have hdw : d < w.heap.size := (Array.getElem?_eq_some_iff.1 h.box).1
  have c0 : w.cell? ⟨d, 0, none⟩ = some (.map (some M.lb)) := by
    have h8 := h.box; rw [Dk.box] at h8; exact (zCr h8).trans rfl
  have HM : Hid (NMap w M.lb M.N M.LD) := h.dl; have HG0 : Hid (w.grownBy (w.alloc (.cells #[.int .i64 4, .int .i64 a, .string nm, .string tn, .slice da dn dc] 33)).drew none ∧ B ≤ w.heap.size) := ⟨hg0, h.sizeB⟩; clear h hg0
  go_enter Tryz.func56, Tryz.ntmps56
  go_upto_region 1 with fail
  refine wp_region_Z (fun Y => Y.cell? ⟨d, 0, none⟩ = some (.map (some M.lb)) ∧ Y.cell? ⟨w.heap.size, 2, none⟩ = some (.string nm) ∧ NMap Y M.lb M.N M.LD) (fun _ => false) (by kernel_rfl) ?_; have hX : (w.alloc (.cells #[.int .i64 4, .int .i64 a, .string nm, .string tn, .slice da dn dc] 33)).heap[w.heap.size]? = some (.cells #[.int .i64 4, .int .i64 a, .string nm, .string tn, .slice da dn dc] 33 (0, 0)) := heap_alloc_new w _
  have hS : (w.alloc (.cells #[.int .i64 4, .int .i64 a, .string nm, .string tn, .slice da dn dc] 33)).drew.cell? ⟨d, 0, none⟩ = some (.map (some M.lb)) ∧ (w.alloc (.cells #[.int .i64 4, .int .i64 a, .string nm, .string tn, .slice da dn dc] 33)).drew.cell? ⟨w.heap.size, 2, none⟩ = some (.string nm) ∧ NMap (w.alloc (.cells #[.int .i64 4, .int .i64 a, .string nm, .string tn, .slice da dn dc] 33)).drew M.lb M.N M.LD := by
    refine ⟨?_, (zCr hX).trans rfl, HM.out.alloc _⟩; exact (World.cell?_of_block (w := w) (a := ⟨d, 0, none⟩) (heap_alloc_old w _ hdw)).trans c0
  refine zTk 0 ?_; simp only [Act.put, zq1, zq2, zq3]; refine zTk 1 ?_; simp only [Act.put, zq1, zq2, zq3]; refine zTk 2 ?_; simp only [Act.put, zq1, zq2, zq3]; refine zLs 3 rfl hS (by intro W hW; have c0 := hW.1; go_simp; first | done | with_reducible rfl) ?_; simp only [Act.put, zq1, zq2, zq3]; refine zTk 4 ?_; simp only [Act.put, zq1, zq2, zq3]; refine zLs 5 rfl hS (by intro W hW; have c0 := hW.2.1; go_simp; first | done | with_reducible rfl) ?_; simp only [Act.put, zq1, zq2, zq3]; refine zLs 6 rfl hS (by intro W hW; have c0 := run_look hW.2.2 hs hob; go_simp; first | done | with_reducible rfl) ?_; simp only [Act.put, zq1, zq2, zq3]; refine zTk 7 ?_; simp only [Act.put, zq1, zq2, zq3]; refine wpAnyZ_done (by kernel_rfl) ?_ _; have kk : (w.alloc (.cells #[.int .i64 4, .int .i64 a, .string nm, .string tn, .slice da dn dc] 33)).drew.cell? ⟨w.heap.size, 0, none⟩ = some (.int .i64 4) := (zCr hX).trans rfl; have kn : (w.alloc (.cells #[.int .i64 4, .int .i64 a, .string nm, .string tn, .slice da dn dc] 33)).drew.cell? ⟨w.heap.size, 2, none⟩ = some (.string nm) := (zCr hX).trans rfl; have kt : (w.alloc (.cells #[.int .i64 4, .int .i64 a, .string nm, .string tn, .slice da dn dc] 33)).drew.cell? ⟨w.heap.size, 3, none⟩ = some (.string tn) := (zCr hX).trans rfl; clear hS hX c0; go_wp2_with fail; refine bodyPost_end (results_none rfl _ _ _) rfl ⟨rfl, HG0.out.1⟩
def totL (P : Pb) : Nat := (P.map (fun y => y.2.1.length)).sum
def marked (c : Int) (ms : List Bd) : Nat := (ms.map (fun m => if m.k = c then m.L.length else 0)).sum
theorem marked_le (c : Int) : ∀ ms : List Bd, marked c ms ≤ totL (ms.map Bd.tell)
  | [] => Nat.le_refl _
  | m :: ms => by
    have h := marked_le c ms; simp only [marked, totL, List.map_cons, List.sum_cons] at h ⊢
    have : (if m.k = c then m.L.length else 0) ≤ m.tell.2.1.length := by
      show (if m.k = c then m.L.length else 0) ≤ m.L.length
      split <;> omega
    omega
theorem marked_put {c : Int} {m : Bd} : ∀ {ms : List Bd}, m ∈ ms → (ms.map Bd.b).Nodup → m.k ≠ c → marked c (putB { m with k := c } ms) = marked c ms + m.L.length
  | [], h, _, _ => by cases h
  | x :: ms, h, hn, hk => by
    rw [List.map_cons, List.nodup_cons] at hn
    rcases List.mem_cons.1 h with rfl | h
    · have e1 : putB { m with k := c } ms = ms := by
        rw [putB]
        conv => rhs; rw [← List.map_id ms]
        refine List.map_congr_left (fun y hy => ?_); rw [if_neg]
        · rfl
        · rintro he; exact hn.1 (he ▸ List.mem_map_of_mem hy)
      show marked c ((if m.b = m.b then { m with k := c } else m) :: putB { m with k := c } ms) = _
      rw [e1, if_pos rfl]; simp only [marked, List.map_cons, List.sum_cons, if_true, if_neg hk]
      omega
    · have h9 := marked_put h hn.2 hk
      have hx : x.b ≠ m.b := fun he => hn.1 (he ▸ List.mem_map_of_mem h)
      show marked c ((if x.b = m.b then { m with k := c } else x) :: putB { m with k := c } ms) = _
      rw [if_neg hx]; simp only [marked, List.map_cons, List.sum_cons] at h9 ⊢
      omega
theorem putB_tellK {ms : List Bd} {m : Bd} {c : Int} (hu : ∀ x ∈ ms, x.b = m.b → x = m) : (putB { m with k := c } ms).map Bd.tell = ms.map Bd.tell := by
  rw [putB, List.map_map]; refine List.map_congr_left (fun x hx => ?_)
  show Bd.tell (if x.b = m.b then { m with k := c } else x) = Bd.tell x
  split
  · rename_i h
    obtain rfl := hu x hx h
    rfl
  · rfl
structure LbSt (w wr : World) (B d : Nat) (M : Dk) (r : Nat) (P : Pb) (c : Int) (left : Lit → Bool) (cnt s : Nat) : Prop where
  rg : wr.ranges Tryz.prog 9 ptrE M.lb r M.N M.LD left cnt
  box : wr.heap[d]? = some { M with cnt := c }.box
  bods : ∃ ms2, Bods wr B ms2 ∧ ms2.map Bd.tell = P ∧ s ≤ marked c ms2
  mv : Moves [] [93, 90] w wr
  low : ∀ k, k < B → wr.heap[k]? = w.heap[k]?
  rn : w.heap.size ≤ r
theorem LbSt.next {w wr w1 : World} {B d : Nat} {M : Dk} {ms : List Bd} {r : Nat} {P : Pb} {c : Int} {left : Lit → Bool} {cnt cnt' s : Nat} {kl : Lit} (hD : DkAt w B d M ms) (h : LbSt w wr B d M r P c left cnt s) (hrg : w1.ranges Tryz.prog 9 ptrE M.lb r M.N M.LD (fun z => left z && !z.sameKey kl) cnt') (hg1 : wr.grownBy w1 (some r)) : LbSt w w1 B d M r P c (fun z => left z && !z.sameKey kl) cnt' s := by
  obtain ⟨es, ck, sc, se, c0, q1, -, -, -, q2, -⟩ := h.rg; have hT1 : Turn (fun k => k = r) wr w1 := Turn.of_grown hg1 (fun g hg => by cases hg; rfl); obtain ⟨ms2, b1, b2, b3⟩ := h.bods; have hws := h.mv.size; have hrn := h.rn; have hBw := hD.sizeB; refine ⟨hrg, hT1.blk h.box (fun hc => by have h9 := h.box; rw [show d = r from hc, q2] at h9; cases h9), ⟨ms2, b1.turn hT1 (fun k hk cur t f hc => by obtain rfl : k = r := hk; rw [q2] at hc; cases hc), b2, b3⟩, ?_, fun k hk => (hT1.block k (by omega) (by show ¬ k = r; omega)).trans (h.low k hk), h.rn⟩; exact ⟨hT1.os.trans h.mv.os, hT1.tape.trans h.mv.tape, hT1.output.trans h.mv.output, Nat.le_trans h.mv.size hT1.size, fun k hk hc => (hT1.block k (by omega) (by show ¬ k = r; omega)).trans (h.mv.block k hk hc)⟩
theorem LbSt.mark {w wr : World} {B d : Nat} {M : Dk} {ms ms2 : List Bd} {r : Nat} {P : Pb} {c : Int} {left : Lit → Bool} {cnt s : Nat} {m : Bd} (hD : DkAt w B d M ms) (h : LbSt w wr B d M r P c left cnt s) (hb : Bods wr B ms2) (ht : ms2.map Bd.tell = P) (hs : s ≤ marked c ms2) (hm : m ∈ ms2) (hk : m.k ≠ c) :
    LbSt w (wr.setCell ⟨m.b, 2, none⟩ (.int .i64 c)) B d M r P c left cnt (s + m.L.length) := by
  have hm1 := (hb.each m hm).1; have hbx : wr.heap[m.b]? = some (.cells #[m.lv, m.sv, .int .i64 m.k] 93 (0, 0)) := hm1.box; have hT : Turn (fun k => k = m.b) wr (wr.setCell ⟨m.b, 2, none⟩ (.int .i64 c)) := (Turn.refl (fun k => k = m.b) wr).set (a := ⟨m.b, 2, none⟩) (show m.b = m.b from rfl) _; have hm' : BdAt (wr.setCell ⟨m.b, 2, none⟩ (.int .i64 c)) B { m with k := c } := ⟨(heap_setCell_same wr m.b 2 _ _ _ hbx).trans rfl, hm1.live.turn hT (fun g hg hc => by subst hc; exact hm1.live.ne hbx (by decide) hg), hm1.syn.turn hT (fun g hg hc => by subst hc; exact hm1.syn.ne hbx (by decide) hg), hm1.apart⟩; have b3 := hb.put hm (m' := { m with k := c }) rfl ⟨hT.os, hT.tape, hT.output, hT.size, fun k hk hc => hT.block k hk (fun hc' => hc (.inl hc'))⟩ hm' (fun g hg => .inl hg) (hb.each m hm).2; have hMd : Moves [] [93, 90] wr (wr.setCell ⟨m.b, 2, none⟩ (.int .i64 c)) := Moves.of_turn hT (fun k _ hk => .inr (by obtain rfl : k = m.b := hk; exact ⟨_, _, _, hbx, by simp⟩)); have gg : wr.grownBy (wr.setCell ⟨m.b, 2, none⟩ (.int .i64 c)) (some m.b) := ⟨hT.os, hT.tape, hT.output, hT.size, fun k hk hne => hT.block k hk (fun hc => hne (by rw [hc]))⟩; obtain ⟨es, ck, sc, se, c0, q1, -, -, -, q2, -⟩ := h.rg
  have n1 : M.lb ≠ m.b := fun hc => by rw [← hc, q1] at hbx; cases hbx
  have n2 : r ≠ m.b := fun hc => by rw [← hc, q2] at hbx; cases hbx
  have n3 : d ≠ m.b := fun hc => by
    have h9 := h.box; rw [hc, hbx] at h9; have h8 := Option.some.inj h9
    injection h8 with _ h7 _
    exact absurd h7 (by decide)
  have hlow := hb.low m hm; have hBw := hD.sizeB; have hws := h.mv.size; refine ⟨h.rg.kept gg (by simpa using n1) (by simpa using n2), hT.blk h.box n3, ⟨_, b3, (putB_tellK (fun x hx he => hb.same hx hm he)).trans ht, ?_⟩, h.mv.trans hMd, fun k hk => (hT.block k (by omega) (by show ¬ k = m.b; omega)).trans (h.low k hk), h.rn⟩; rw [marked_put hm hb.one hk]
  omega
theorem drewN_grown (w : World) (n : Nat) : w.grownBy (w.drewN n) none := ⟨rfl, rfl, rfl, Nat.le_refl _, fun _ _ _ => rfl⟩
theorem LbSt.grown {w wr w' : World} {B d : Nat} {M : Dk} {ms : List Bd} {r : Nat} {P : Pb} {c : Int} {left : Lit → Bool} {cnt s : Nat} (hD : DkAt w B d M ms) (h : LbSt w wr B d M r P c left cnt s) (hg : wr.grownBy w' none) : LbSt w w' B d M r P c left cnt s := by
  obtain ⟨ms2, b1, b2, b3⟩ := h.bods; have hBw := hD.sizeB; have hws := h.mv.size; exact ⟨h.rg.kept hg (by simp) (by simp), grown_blk hg h.box, ⟨ms2, b1.grown0 hg, b2, b3⟩, h.mv.trans (Moves.of_grown0 hg), fun k hk => (hg.block k (by omega) (by simp)).trans (h.low k hk), h.rn⟩
def LbOut (w w' : World) (B d : Nat) (M : Dk) (P : Pb) : Prop :=
  ∃ ms' c, DkAt w' B d { M with cnt := c } ms' ∧ ms'.map Bd.tell = P ∧ Moves [] [93, 90] w w' ∧ ∀ k, k < B → w'.heap[k]? = w.heap[k]?
theorem LbSt.fin {w wr : World} {B d : Nat} {M : Dk} {ms : List Bd} {r : Nat} {P : Pb} {c : Int} {left : Lit → Bool} {cnt s : Nat} (hD : DkAt w B d M ms) (hP : P = ms.map Bd.tell) (h : LbSt w wr B d M r P c left cnt s) : LbOut w wr B d M P ∧ s ≤ totL P := by
  obtain ⟨ms2, b1, b2, b3⟩ := h.bods
  have hH : ∀ b, Has ms b → Has ms2 b := fun b hb => has_of_tell (by rw [b2, hP]) hb
  refine ⟨⟨ms2, c, ⟨h.box, h.rg.owns, h.mv.map hD.ds (by simp), hD.ne, hD.low, b1, own1_moves hD.q (Nat.le_refl _) h.mv (by decide) (by simp), fun x hx => (hD.chs x hx).moves h.mv (by decide) (by simp) h.low, fun x hx => (hD.refs x hx).to hH, hD.refL.to hH, hD.refS.to hH⟩, b2, h.mv, h.low⟩, ?_⟩; rw [← b2]; exact Nat.le_trans b3 (marked_le c ms2)
set_option maxRecDepth 20000 in
set_option maxHeartbeats 4000000 in
theorem liveBytes_any (d : Nat) (M : Dk) (ms : List Bd) (B : Nat) (w : World) (h : DkAt w B d M ms) (hb : totL (ms.map Bd.tell) ≤ 1099511627776) :
    Calls Tryz.prog 74 #[.pointer (some ⟨d, 0, none⟩)] w fun e w' => ∃ s : Nat, e = .returned (.int .i64 (s : Int)) ∧ s ≤ totL (ms.map Bd.tell) ∧ LbOut w w' B d M (ms.map Bd.tell) := by
  obtain ⟨P, hP⟩ : ∃ y, ms.map Bd.tell = y := ⟨_, rfl⟩; have HD : Hid (DkAt w B d M ms ∧ P = ms.map Bd.tell) := ⟨h, hP.symm⟩; rw [hP] at hb ⊢; have hbx : w.heap[d]? = some (.cells #[.map (some M.lb), .map (some M.sb), M.qv, .int .i64 M.cap, .int .i64 M.fuse, .bool M.off, .int .i64 M.cnt] 90 (0, 0)) := h.box; have c6 : w.cell? ⟨d, 6, none⟩ = some (.int .i64 M.cnt) := (zCr hbx).trans rfl
  have f6 : w.frozen? ⟨d, 6, none⟩ = false := by simp [World.frozen?, hbx]
  obtain ⟨c, hc⟩ : ∃ y, IntKind.i64.wrap (M.cnt + 1) = y := ⟨_, rfl⟩; have HBX : Hid ((w.setCell ⟨d, 6, none⟩ (.int .i64 c)).heap[d]? = some { M with cnt := c }.box) := (heap_setCell_same w d 6 _ _ _ hbx).trans rfl; have c0 : (w.setCell ⟨d, 6, none⟩ (.int .i64 c)).cell? ⟨d, 0, none⟩ = some (.map (some M.lb)) := (zCr HBX.out).trans rfl; have HT : Hid (Turn (fun k => k = d) w (w.setCell ⟨d, 6, none⟩ (.int .i64 c))) := (Turn.refl (fun k => k = d) w).set (a := ⟨d, 6, none⟩) (show d = d from rfl) _; have HM : Hid (Moves [] [93, 90] w (w.setCell ⟨d, 6, none⟩ (.int .i64 c))) := Moves.of_turn HT.out (fun k _ hk => .inr (by obtain rfl : k = d := hk; exact ⟨_, _, _, hbx, by simp⟩)); have HN : Hid (NMap (w.setCell ⟨d, 6, none⟩ (.int .i64 c)) M.lb M.N M.LD) := HM.out.map h.dl (by simp); have HBD : Hid (Bods (w.setCell ⟨d, 6, none⟩ (.int .i64 c)) B ms) := h.bods.moves (Moves.of_turn HT.out (fun k _ hk => .inr (by obtain rfl : k = d := hk; exact ⟨_, _, _, hbx, by simp⟩)) : Moves [] [90] w _) (by decide) (by decide) (by simp); clear h hbx hP
  go_enter Tryz.func74, Tryz.ntmps74
  go_wp2_with (first | (at_range; refine wpList_range_own _ rfl _ 87 rfl 9 91 keyS undMap ptrE M.lb M.N M.LD rfl (by first | (rw [hc]; exact HN.out) | exact HN.out) ?_; intro w0 hrg0 hg0 hs0))
  have hr0 : (w.setCell ⟨d, 6, none⟩ (.int .i64 c)).heap.size = w.heap.size := by simp
  rw [hr0] at hrg0; obtain ⟨r, hr⟩ : ∃ y, w.heap.size = y := ⟨_, rfl⟩; rw [hr] at hrg0
  have HL0 : Hid (LbSt w w0 B d M r P c (has M.LD) (Maps.size M.LD) 0) := by
    have hM0 := HM.out.trans (Moves.of_grown0 hg0); have hBw := HD.out.1.sizeB; refine ⟨hrg0, grown_blk hg0 HBX.out, ⟨ms, HBD.out.grown0 hg0, HD.out.2.symm, Nat.zero_le _⟩, hM0, fun k hk => (hg0.block k (by rw [hr0]; omega) (by simp)).trans (HT.out.block k (by omega) ?_), by omega⟩; have := HD.out.1.low.2.2
    show ¬ k = d
    omega
  rw [hr0, hr]; clear hrg0 hg0 hs0 hr0 HBD HN HM HT HBX c0 c6 f6; have HC0 : Hid (IntKind.i64.wrap (M.cnt + 1) = c) := hc; clear hc
  try go_frame
  go_loopw [3, 5] (fun sv _ wi => ∃ (s : Nat) (left : Lit → Bool) (cnt : Nat), sv = .int .i64 (s : Int) ∧ LbSt w wi B d M r P c left cnt s) (fun _ _ wi => wi.rangeLeft M.lb r)
  case atStart => exact ⟨0, _, _, rfl, HL0.out⟩
  case round =>
    obtain ⟨s, left, cnt, rfl, hcl⟩ := hrel; have HC : Hid (LbSt w wr B d M r P c left cnt s) := hcl; clear hcl HL0
    go_wp2_with (at_next; refine wpList_next_ranges _ rfl _ rfl 9 keyS ptrE Value.string bP (fun key kl hk9 => Maps.keyOf_string_inv Tryz.underlying9 hk9) (fun v y hv9 => by obtain ⟨ob, rfl, -⟩ := ptrE_inv hv9; exact ⟨ob, rfl⟩) M.lb r M.N M.LD left cnt rfl HC.out.rg ?dn ?mr)
    case dn =>
      intro hc0 hl0; clear hl0 hc0; go_wp2; go_ret; have h9 := HC.out.fin HD.out.1 HD.out.2; exact ⟨s, rfl, h9.2, h9.1⟩
    case mr =>
      intro x ob kl y1 y2 w1 cnt1 hkey hlk hv hat hrg hlt1 hg1 hs1 hen; have HN : Hid (LbSt w w1 B d M r P c (fun z => left z && !z.sameKey kl) cnt1 s ∧ cnt1 < cnt) := ⟨HC.out.next HD.out.1 hrg hg1, hlt1⟩
      have hmk : ∀ z, ptrE (bP ob) = some z → z = (bD ob, []) := fun z hz => by rw [ptrE_mk] at hz; exact (Option.some.inj hz).symm
      have hy := hmk _ hv; obtain ⟨rfl, -⟩ := Prod.mk.inj hy
      have hob : ∃ b, ob = some b := by
        cases ob with
        | some b => exact ⟨b, rfl⟩
        | none =>
          have h9 := HD.out.1.refL.2 kl (.lit (.int .i64 0)) (hat _)
          cases h9
      obtain ⟨b, rfl⟩ := hob; obtain ⟨ms2, b1, b2, b3⟩ := HN.out.1.bods; have hH : Has ms2 b := has_of_tell (by rw [b2, HD.out.2]) (HD.out.1.refL.1 kl b (hat .nil)); obtain ⟨m, hm, hmb⟩ := hH.get; subst hmb; have hm1 := (b1.each m hm).1; obtain ⟨la, lc, hlv, -⟩ := hm1.live.is; obtain ⟨ln, hln⟩ : ∃ y, m.L.length = y := ⟨_, rfl⟩; rw [hln] at hlv
      have hbx1 : w1.heap[m.b]? = some (.cells #[.slice la ln lc, m.sv, .int .i64 m.k] 93 (0, 0)) := by rw [hm1.box, Bd.blk, hlv]
      have k2 : w1.cell? ⟨m.b, 2, none⟩ = some (.int .i64 m.k) := (zCr hbx1).trans rfl; have k6 : w1.cell? ⟨d, 6, none⟩ = some (.int .i64 c) := (zCr HN.out.1.box).trans rfl; have hsb : s ≤ 1099511627776 := Nat.le_trans (HN.out.1.fin HD.out.1 HD.out.2).2 hb
      by_cases hkc : m.k = c
      · have e1 : (m.k != c) = false := by simp [hkc]
        clear hv hat hrg hlt1 hg1 hs1 hmk hy hm1 hlv hln hbx1 hkey hlk b1 b2 b3 hm hH hkc; simp only [bP] at hen ⊢; go_wp2; go_quiet (fail); have HNq : Hid (LbSt w (w1.drewN nq) B d M r P c (fun z => left z && !z.sameKey kl) cnt1 s) := HN.out.1.grown HD.out.1 (drewN_grown _ _); generalize w1.drewN nq = W2 at HNq ⊢; go_wp2; (try simp only [Act.put]); go_roundw
        case rel => exact ⟨_, _, _, rfl, HNq.out⟩
        case measure =>
          have e1 := HNq.out.rg.left_eq; have e2 := HC.out.rg.left_eq; have e3 := HN.out.2
          first | omega | (simp only []; omega) | (rw [e1, e2]; exact e3)
      · have e1 : (m.k != c) = true := by simp [hkc]
        have HB : Hid (w1.heap[m.b]? = some (.cells #[.slice la ln lc, m.sv, .int .i64 m.k] 93 (0, 0)) ∧ Bods w1 B ms2 ∧ ms2.map Bd.tell = P ∧ s ≤ marked c ms2 ∧ m ∈ ms2 ∧ m.k ≠ c ∧ m.L.length = ln) := ⟨hbx1, b1, b2, b3, hm, hkc, hln⟩
        have hlb : ln ≤ 65536 := by rw [← hln]; exact (b1.each m hm).2.1
        have v1 : IntKind.i64.wrap ((s : Int) + (ln : Int)) = (s : Int) + (ln : Int) := IntWalk.i64_in _ (by omega); clear hv hat hrg hlt1 hg1 hs1 hmk hy hm1 hlv hln hbx1 hkey hlk b1 b2 b3 hm hH hkc; simp only [bP] at hen ⊢; go_wp2; go_quiet (fail); have hgq := drewN_grown w1 nq; have HNq : Hid (LbSt w (w1.drewN nq) B d M r P c (fun z => left z && !z.sameKey kl) cnt1 s) := HN.out.1.grown HD.out.1 hgq; have hbx2 := grown_blk hgq HB.out.1; have HBq : Hid (Bods (w1.drewN nq) B ms2) := HB.out.2.1.grown0 hgq; clear hgq k2 k6; generalize w1.drewN nq = W2 at HNq hbx2 HBq ⊢; have k2 : W2.cell? ⟨m.b, 2, none⟩ = some (.int .i64 m.k) := (zCr hbx2).trans rfl; have k6 : W2.cell? ⟨d, 6, none⟩ = some (.int .i64 c) := (zCr HNq.out.box).trans rfl
        have f2 : W2.frozen? ⟨m.b, 2, none⟩ = false := by simp [World.frozen?, hbx2]
        have HS : Hid (LbSt w (W2.setCell ⟨m.b, 2, none⟩ (.int .i64 c)) B d M r P c (fun z => left z && !z.sameKey kl) cnt1 (s + ln)) := by
          rw [← HB.out.2.2.2.2.2.2]; exact HNq.out.mark HD.out.1 HBq.out HB.out.2.2.1 HB.out.2.2.2.1 HB.out.2.2.2.2.1 HB.out.2.2.2.2.2.1
        have k0 : (W2.setCell ⟨m.b, 2, none⟩ (.int .i64 c)).cell? ⟨m.b, 0, none⟩ = some (.slice la ln lc) := (zCr (heap_setCell_same W2 m.b 2 _ _ _ hbx2)).trans rfl; clear hbx2; go_wp2; (try simp only [Act.put]); go_roundw
        case rel => exact ⟨s + ln, _, _, by simp, HS.out⟩
        case measure =>
          have e1 := HS.out.rg.left_eq; have e2 := HC.out.rg.left_eq; have e3 := HN.out.2
          first | omega | (simp only []; omega) | (rw [e1, e2]; exact e3)
end Go.Proofs.YtgehhfncjoogiaaGreatDoor
