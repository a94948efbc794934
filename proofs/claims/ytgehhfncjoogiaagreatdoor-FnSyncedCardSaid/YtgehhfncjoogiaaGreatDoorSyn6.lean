/-
  Dk26, Dk27, Dk28, ShapesW, ImgY, Dk29, AppN, Shelf, Sn, Fl, Md0, Md1, Md2
-/
import Derived.Test.YtgehhfncjoogiaaGreatDoorSyn5
import Derived.Test.YtgehhfncjoogiaaGreatDoorSyn1
import Derived.BigQuiet
import Derived.Deep.QuietTactic
import Derived.Laws.AppendOwn
import Derived.Shelf.Sort.Plain
import Derived.Shelf.Slices.In.SortNone
import Derived.Test.YtgehhfncjoogiaaGreatDoorProg
namespace Go.Proofs.YtgehhfncjoogiaaGreatDoor
open Go.RowKit Go.Maps

def StFt (k : Nat) (ob : Option Nat) (ms : List Bd) (cap a : Int) (dn : Nat) (f : Option Nat) : Prop :=
  (∀ j, f = some j → j < 13) ∧ (f = none → ∃ m ∈ ms, ob = some m.b ∧ (k = 2 → 0 ≤ a ∧ a ≤ (m.L.length : Int) ∧ a + (dn : Int) ≤ 65536) ∧ (k = 3 → 0 ≤ a ∧ a ≤ (m.L.length : Int)))
  ∧ ∀ m ∈ ms, ob = some m.b → (k = 2 → 0 ≤ a ∧ a ≤ (m.L.length : Int) ∧ a + (dn : Int) ≤ 65536 ∧ (totL (ms.map Bd.tell) : Int) + (dn : Int) ≤ cap) → k = 2 ∨ k = 6 → f = none
theorem StFt.none3 {k : Nat} {ms : List Bd} {cap a : Int} {dn : Nat} : StFt k none ms cap a dn (some 3) := ⟨by simp, by simp, fun _ _ h => by cases h⟩
theorem LbOut.of_grown {w w1 w' : World} {B d : Nat} {M : Dk} {P : Pb} (hg : w.grownBy w1 none) (hB : B ≤ w.heap.size) (h : LbOut w1 w' B d M P) : LbOut w w' B d M P := by
  obtain ⟨ms', c, h1, h2, h3, h4⟩ := h; exact ⟨ms', c, h1, h2, (Moves.of_grown0 hg).trans h3, fun k hk => (h4 k hk).trans (hg.block k (Nat.lt_of_lt_of_le hk hB) (by simp))⟩
set_option maxRecDepth 20000 in
set_option maxHeartbeats 4000000 in
theorem stepFault1 (d : Nat) (a : Int) (nm tn : ByteArray) (da : Option Addr) (dn dc : Nat) (M : Dk) (ms : List Bd) (B : Nat) (ad : Nat → Addr) (ob : Option Nat) (w : World) (h : DkAt w B d M ms) (hE : ErrsAt w B ad) (hs : nm.size ≤ 1048576) (hob : M.LD.atKey (kS nm) .nil = bD ob) :
    Calls Tryz.prog 55 #[.pointer (some ⟨d, 0, none⟩), .agg #[.int .i64 1, .int .i64 a, .string nm, .string tn, .slice da dn dc]] w fun e w' => ∃ f : Option Nat, e = .returned (errV ad f) ∧ CrFt nm ob (Maps.size M.LD) f ∧ LbOut w w' B d M (ms.map Bd.tell) := by
  have hg0 : w.grownBy (w.alloc (.cells #[.int .i64 1, .int .i64 a, .string nm, .string tn, .slice da dn dc] 33)) none := World.grownBy_alloc w _ none; have HC : Hid (Calls _ _ _ _ _) := createFault_any d M ms B ad nm ob (w.alloc (.cells #[.int .i64 1, .int .i64 a, .string nm, .string tn, .slice da dn dc] 33)) (h.grown0 hg0) (hE.grown hg0) hs hob; have HL : Hid (LbOut w (w.alloc (.cells #[.int .i64 1, .int .i64 a, .string nm, .string tn, .slice da dn dc] 33)) B d M (ms.map Bd.tell)) := LbOut.of_grown hg0 h.sizeB (LbOut.refl (h.grown0 hg0)); clear h hE hg0
  go_enter Tryz.func55, Tryz.ntmps55
  go_wp2_with fail; refine HC.out.mono ?_; rintro e w1 ⟨f, rfl, hf, hw1⟩; subst hw1; have HF : Hid (CrFt nm ob (Maps.size M.LD) f) := hf; clear hf HC
  cases f <;> simp only [errV] <;> go_wp2 <;> go_ret
  · exact ⟨none, rfl, HF.out, HL.out⟩
  · exact ⟨some _, rfl, HF.out, HL.out⟩
theorem stepFault7 (d : Nat) (a : Int) (nm tn : ByteArray) (da : Option Addr) (dn dc : Nat) (M : Dk) (ms : List Bd) (B : Nat) (w : World) (h : DkAt w B d M ms) :
    Calls Tryz.prog 55 #[.pointer (some ⟨d, 0, none⟩), .agg #[.int .i64 7, .int .i64 a, .string nm, .string tn, .slice da dn dc]] w fun e w' => e = .returned .nilIface ∧ LbOut w w' B d M (ms.map Bd.tell) := by
  have HD : Hid (LbOut w (w.alloc (.cells #[.int .i64 7, .int .i64 a, .string nm, .string tn, .slice da dn dc] 33)) B d M (ms.map Bd.tell)) := LbOut.of_grown (World.grownBy_alloc w _ none) h.sizeB (LbOut.refl (h.grown0 (World.grownBy_alloc w _ none))); clear h
  go_enter Tryz.func55, Tryz.ntmps55
  go_wp2; go_ret; exact ⟨rfl, HD.out⟩
set_option maxRecDepth 20000 in
set_option maxHeartbeats 4000000 in
theorem stepFault2 (d : Nat) (a : Int) (nm tn : ByteArray) (da : Option Addr) (dn dc : Nat) (M : Dk) (ms : List Bd) (B : Nat) (ad : Nat → Addr) (ob : Option Nat) (w : World) (h : DkAt w B d M ms) (hE : ErrsAt w B ad) (hs : nm.size ≤ maxLen) (hob : M.LD.atKey (kS nm) .nil = bD ob) (hb : totL (ms.map Bd.tell) ≤ 1099511627776) (hz : dn ≤ 1048576) (hat : -9223372036854775808 ≤ a ∧ a ≤ 9223372036854775807) :
    Calls Tryz.prog 55 #[.pointer (some ⟨d, 0, none⟩), .agg #[.int .i64 2, .int .i64 a, .string nm, .string tn, .slice da dn dc]] w fun e w' => ∃ f : Option Nat, e = .returned (errV ad f) ∧ StFt 2 ob ms M.cap a dn f ∧ LbOut w w' B d M (ms.map Bd.tell) := by
  have hg0 : w.grownBy (w.alloc (.cells #[.int .i64 2, .int .i64 a, .string nm, .string tn, .slice da dn dc] 33)).drew none := grownBy_drew (World.grownBy_alloc w _ none); have HD : Hid (DkAt (w.alloc (.cells #[.int .i64 2, .int .i64 a, .string nm, .string tn, .slice da dn dc] 33)).drew B d M ms ∧ w.grownBy (w.alloc (.cells #[.int .i64 2, .int .i64 a, .string nm, .string tn, .slice da dn dc] 33)).drew none ∧ B ≤ w.heap.size ∧ ErrsAt (w.alloc (.cells #[.int .i64 2, .int .i64 a, .string nm, .string tn, .slice da dn dc] 33)).drew B ad ∧ LbOut w (w.alloc (.cells #[.int .i64 2, .int .i64 a, .string nm, .string tn, .slice da dn dc] 33)).drew B d M (ms.map Bd.tell)) := ⟨h.grown0 hg0, hg0, h.sizeB, hE.grown hg0, LbOut.of_grown hg0 h.sizeB (LbOut.refl (h.grown0 hg0))⟩; have hdw : d < w.heap.size := (Array.getElem?_eq_some_iff.1 h.box).1
  have c0 : w.cell? ⟨d, 0, none⟩ = some (.map (some M.lb)) := by
    have h8 := h.box; rw [Dk.box] at h8; exact (zCr h8).trans rfl
  have HM : Hid (NMap w M.lb M.N M.LD) := h.dl
  have HR : Hid (∀ b, ob = some b → ∃ m ∈ ms, m.b = b) := fun b hb => (h.refL.1 (kS nm) b (by rw [hob, hb])).get
  clear h hE hg0
  go_enter Tryz.func55, Tryz.ntmps55
  go_upto_region 5 with fail
  refine wp_region_Z (fun Y => Y.cell? ⟨d, 0, none⟩ = some (.map (some M.lb)) ∧ Y.cell? ⟨w.heap.size, 2, none⟩ = some (.string nm) ∧ NMap Y M.lb M.N M.LD) (fun _ => false) (by kernel_rfl) ?_; have hX : (w.alloc (.cells #[.int .i64 2, .int .i64 a, .string nm, .string tn, .slice da dn dc] 33)).heap[w.heap.size]? = some (.cells #[.int .i64 2, .int .i64 a, .string nm, .string tn, .slice da dn dc] 33 (0, 0)) := heap_alloc_new w _
  have hS : (w.alloc (.cells #[.int .i64 2, .int .i64 a, .string nm, .string tn, .slice da dn dc] 33)).drew.cell? ⟨d, 0, none⟩ = some (.map (some M.lb)) ∧ (w.alloc (.cells #[.int .i64 2, .int .i64 a, .string nm, .string tn, .slice da dn dc] 33)).drew.cell? ⟨w.heap.size, 2, none⟩ = some (.string nm) ∧ NMap (w.alloc (.cells #[.int .i64 2, .int .i64 a, .string nm, .string tn, .slice da dn dc] 33)).drew M.lb M.N M.LD := by
    refine ⟨?_, (zCr hX).trans rfl, HM.out.alloc _⟩; exact (World.cell?_of_block (w := w) (a := ⟨d, 0, none⟩) (heap_alloc_old w _ hdw)).trans c0
  refine zTk 0 ?_; simp only [Act.put, zq1, zq2, zq3]; refine zTk 1 ?_; simp only [Act.put, zq1, zq2, zq3]; refine zTk 2 ?_; simp only [Act.put, zq1, zq2, zq3]; refine zLs 3 rfl hS (by intro W hW; have c0 := hW.1; go_simp; first | done | with_reducible rfl) ?_; simp only [Act.put, zq1, zq2, zq3]; refine zTk 4 ?_; simp only [Act.put, zq1, zq2, zq3]; refine zLs 5 rfl hS (by intro W hW; have c0 := hW.2.1; go_simp; first | done | with_reducible rfl) ?_; simp only [Act.put, zq1, zq2, zq3]; refine zLs 6 rfl hS (by intro W hW; have c0 := run_look hW.2.2 hs hob; go_simp; first | done | with_reducible rfl) ?_; simp only [Act.put, zq1, zq2, zq3]; refine zTk 7 ?_; simp only [Act.put, zq1, zq2, zq3]; refine wpAnyZ_done (by kernel_rfl) ?_ _; have hX2 : (w.alloc (.cells #[.int .i64 2, .int .i64 a, .string nm, .string tn, .slice da dn dc] 33)).drew.heap[w.heap.size]? = some (.cells #[.int .i64 2, .int .i64 a, .string nm, .string tn, .slice da dn dc] 33 (0, 0)) := hX; clear hS hX c0 HM hdw; generalize (w.alloc (.cells #[.int .i64 2, .int .i64 a, .string nm, .string tn, .slice da dn dc] 33)).drew = W1 at HD hX2 ⊢; have k0 : W1.cell? ⟨w.heap.size, 0, none⟩ = some (.int .i64 2) := (zCr hX2).trans rfl; have k1 : W1.cell? ⟨w.heap.size, 1, none⟩ = some (.int .i64 a) := (zCr hX2).trans rfl; have k3 : W1.cell? ⟨w.heap.size, 3, none⟩ = some (.string tn) := (zCr hX2).trans rfl; have k4 : W1.cell? ⟨w.heap.size, 4, none⟩ = some (.slice da dn dc) := (zCr hX2).trans rfl; have g3 := HD.out.2.2.2.1.cell 3 (by decide); clear hX2 hob
  cases ob with
  | none =>
    simp only [bP]; go_wp2; go_ret; exact ⟨some 3, rfl, StFt.none3, HD.out.2.2.2.2⟩
  | some b =>
    obtain ⟨m, hm, hmb⟩ := HR.out b rfl; subst hmb; have HMM : Hid (m ∈ ms) := hm
    have HU : Hid (∀ m' ∈ ms, some m.b = some m'.b → m' = m) := fun m' hm' he => HD.out.1.bods.same hm' hm (Option.some.inj he).symm
    clear HR g3; simp only [bP]; have HW : Hid (Calls _ _ _ _ _) := writeFault_any d M ms B ad m a dn W1 HD.out.1 HD.out.2.2.2.1 hm hb hz hat; clear hm; go_wp2_with fail; refine HW.out.mono ?_; rintro e w1 ⟨f, rfl, hf, hlo⟩; have HF : Hid (WrFt m.L.length (totL (ms.map Bd.tell)) M.cap a dn f ∧ LbOut w w1 B d M (ms.map Bd.tell)) := ⟨hf, hlo.of_grown HD.out.2.1 HD.out.2.2.1⟩; clear hf hlo HW
    cases f <;> simp only [errV] <;> go_wp2 <;> go_ret
    · refine ⟨none, rfl, ⟨by simp, fun _ => ⟨m, HMM.out, rfl, fun _ => HF.out.1.2.1 rfl, fun h => by cases h⟩, by simp⟩, HF.out.2⟩
    · rename_i j
      refine ⟨some j, rfl, ⟨HF.out.1.1, by simp, fun m' hm' he h2 _ => ?_⟩, HF.out.2⟩; obtain rfl := HU.out m' hm' he; exact HF.out.1.2.2 (h2 rfl).1 (h2 rfl).2.1 (h2 rfl).2.2.1 (h2 rfl).2.2.2
set_option maxRecDepth 20000 in
set_option maxHeartbeats 4000000 in
theorem stepFault3 (d : Nat) (a : Int) (nm tn : ByteArray) (da : Option Addr) (dn dc : Nat) (M : Dk) (ms : List Bd) (B : Nat) (ad : Nat → Addr) (ob : Option Nat) (w : World) (h : DkAt w B d M ms) (hE : ErrsAt w B ad) (hs : nm.size ≤ maxLen) (hob : M.LD.atKey (kS nm) .nil = bD ob) :
    Calls Tryz.prog 55 #[.pointer (some ⟨d, 0, none⟩), .agg #[.int .i64 3, .int .i64 a, .string nm, .string tn, .slice da dn dc]] w fun e w' => ∃ f : Option Nat, e = .returned (errV ad f) ∧ StFt 3 ob ms M.cap a dn f ∧ LbOut w w' B d M (ms.map Bd.tell) := by
  have hg0 : w.grownBy (w.alloc (.cells #[.int .i64 3, .int .i64 a, .string nm, .string tn, .slice da dn dc] 33)).drew none := grownBy_drew (World.grownBy_alloc w _ none); have HD : Hid (DkAt (w.alloc (.cells #[.int .i64 3, .int .i64 a, .string nm, .string tn, .slice da dn dc] 33)).drew B d M ms ∧ w.grownBy (w.alloc (.cells #[.int .i64 3, .int .i64 a, .string nm, .string tn, .slice da dn dc] 33)).drew none ∧ B ≤ w.heap.size ∧ ErrsAt (w.alloc (.cells #[.int .i64 3, .int .i64 a, .string nm, .string tn, .slice da dn dc] 33)).drew B ad ∧ LbOut w (w.alloc (.cells #[.int .i64 3, .int .i64 a, .string nm, .string tn, .slice da dn dc] 33)).drew B d M (ms.map Bd.tell)) := ⟨h.grown0 hg0, hg0, h.sizeB, hE.grown hg0, LbOut.of_grown hg0 h.sizeB (LbOut.refl (h.grown0 hg0))⟩; have hdw : d < w.heap.size := (Array.getElem?_eq_some_iff.1 h.box).1
  have c0 : w.cell? ⟨d, 0, none⟩ = some (.map (some M.lb)) := by
    have h8 := h.box; rw [Dk.box] at h8; exact (zCr h8).trans rfl
  have HM : Hid (NMap w M.lb M.N M.LD) := h.dl
  have HR : Hid (∀ b, ob = some b → ∃ m ∈ ms, m.b = b) := fun b hb => (h.refL.1 (kS nm) b (by rw [hob, hb])).get
  clear h hE hg0
  go_enter Tryz.func55, Tryz.ntmps55
  go_upto_region 5 with fail
  refine wp_region_Z (fun Y => Y.cell? ⟨d, 0, none⟩ = some (.map (some M.lb)) ∧ Y.cell? ⟨w.heap.size, 2, none⟩ = some (.string nm) ∧ NMap Y M.lb M.N M.LD) (fun _ => false) (by kernel_rfl) ?_; have hX : (w.alloc (.cells #[.int .i64 3, .int .i64 a, .string nm, .string tn, .slice da dn dc] 33)).heap[w.heap.size]? = some (.cells #[.int .i64 3, .int .i64 a, .string nm, .string tn, .slice da dn dc] 33 (0, 0)) := heap_alloc_new w _
  have hS : (w.alloc (.cells #[.int .i64 3, .int .i64 a, .string nm, .string tn, .slice da dn dc] 33)).drew.cell? ⟨d, 0, none⟩ = some (.map (some M.lb)) ∧ (w.alloc (.cells #[.int .i64 3, .int .i64 a, .string nm, .string tn, .slice da dn dc] 33)).drew.cell? ⟨w.heap.size, 2, none⟩ = some (.string nm) ∧ NMap (w.alloc (.cells #[.int .i64 3, .int .i64 a, .string nm, .string tn, .slice da dn dc] 33)).drew M.lb M.N M.LD := by
    refine ⟨?_, (zCr hX).trans rfl, HM.out.alloc _⟩; exact (World.cell?_of_block (w := w) (a := ⟨d, 0, none⟩) (heap_alloc_old w _ hdw)).trans c0
  refine zTk 0 ?_; simp only [Act.put, zq1, zq2, zq3]; refine zTk 1 ?_; simp only [Act.put, zq1, zq2, zq3]; refine zTk 2 ?_; simp only [Act.put, zq1, zq2, zq3]; refine zLs 3 rfl hS (by intro W hW; have c0 := hW.1; go_simp; first | done | with_reducible rfl) ?_; simp only [Act.put, zq1, zq2, zq3]; refine zTk 4 ?_; simp only [Act.put, zq1, zq2, zq3]; refine zLs 5 rfl hS (by intro W hW; have c0 := hW.2.1; go_simp; first | done | with_reducible rfl) ?_; simp only [Act.put, zq1, zq2, zq3]; refine zLs 6 rfl hS (by intro W hW; have c0 := run_look hW.2.2 hs hob; go_simp; first | done | with_reducible rfl) ?_; simp only [Act.put, zq1, zq2, zq3]; refine zTk 7 ?_; simp only [Act.put, zq1, zq2, zq3]; refine wpAnyZ_done (by kernel_rfl) ?_ _; have hX2 : (w.alloc (.cells #[.int .i64 3, .int .i64 a, .string nm, .string tn, .slice da dn dc] 33)).drew.heap[w.heap.size]? = some (.cells #[.int .i64 3, .int .i64 a, .string nm, .string tn, .slice da dn dc] 33 (0, 0)) := hX; clear hS hX c0 HM hdw; generalize (w.alloc (.cells #[.int .i64 3, .int .i64 a, .string nm, .string tn, .slice da dn dc] 33)).drew = W1 at HD hX2 ⊢; have k0 : W1.cell? ⟨w.heap.size, 0, none⟩ = some (.int .i64 3) := (zCr hX2).trans rfl; have k1 : W1.cell? ⟨w.heap.size, 1, none⟩ = some (.int .i64 a) := (zCr hX2).trans rfl; have k3 : W1.cell? ⟨w.heap.size, 3, none⟩ = some (.string tn) := (zCr hX2).trans rfl; have k4 : W1.cell? ⟨w.heap.size, 4, none⟩ = some (.slice da dn dc) := (zCr hX2).trans rfl; have g3 := HD.out.2.2.2.1.cell 3 (by decide); clear hX2 hob
  cases ob with
  | none =>
    simp only [bP]; go_wp2; go_ret; exact ⟨some 3, rfl, StFt.none3, HD.out.2.2.2.2⟩
  | some b =>
    obtain ⟨m, hm, hmb⟩ := HR.out b rfl; subst hmb; have HMM : Hid (m ∈ ms) := hm
    have HU : Hid (∀ m' ∈ ms, some m.b = some m'.b → m' = m) := fun m' hm' he => HD.out.1.bods.same hm' hm (Option.some.inj he).symm
    clear HR g3; simp only [bP]; have hma := (HD.out.1.bods.each m hm).1; obtain ⟨la, lc, hlv, -⟩ := hma.live.is; obtain ⟨ln, hln⟩ : ∃ y, m.L.length = y := ⟨_, rfl⟩; rw [hln] at hlv
    have hbx : W1.heap[m.b]? = some (.cells #[.slice la ln lc, m.sv, .int .i64 m.k] 93 (0, 0)) := by rw [hma.box, Bd.blk, hlv]
    have cb : W1.cell? ⟨m.b, 0, none⟩ = some (.slice la ln lc) := (zCr hbx).trans rfl; have g5 := HD.out.2.2.2.1.cell 5 (by decide); have HLN : Hid (m.L.length = ln) := hln; clear hma hlv hbx hln hm
    by_cases h1 : a < 0
    · go_wp2; go_quiet (fail); have hgq := drewN_grown W1 nq; have g5' := (HD.out.2.2.2.1.grown hgq).cell 5 (by decide); clear g5; go_wp2; go_ret; refine ⟨some 5, rfl, ⟨by simp, by simp, by simp⟩, HD.out.2.2.2.2.drewN HD.out.2.2.1 hgq⟩
    by_cases h2 : (ln : Int) < a
    · go_wp2; go_quiet (fail); have hgq := drewN_grown W1 nq; have g5' := (HD.out.2.2.2.1.grown hgq).cell 5 (by decide); clear g5; go_wp2; go_ret; refine ⟨some 5, rfl, ⟨by simp, by simp, by simp⟩, HD.out.2.2.2.2.drewN HD.out.2.2.1 hgq⟩
    · have HZ : Hid (¬ a < 0 ∧ ¬ (ln : Int) < a) := ⟨h1, h2⟩; go_wp2; go_quiet (fail); have hgq := drewN_grown W1 nq; go_wp2; go_ret; refine ⟨none, rfl, ⟨by simp, fun _ => ⟨m, HMM.out, rfl, (fun h => by cases h), fun _ => ?_⟩, by simp⟩, HD.out.2.2.2.2.drewN HD.out.2.2.1 hgq⟩; rw [HLN.out]; have := HZ.out
      omega
set_option maxRecDepth 20000 in
set_option maxHeartbeats 4000000 in
theorem stepFault4 (d : Nat) (a : Int) (nm tn : ByteArray) (da : Option Addr) (dn dc : Nat) (M : Dk) (ms : List Bd) (B : Nat) (ad : Nat → Addr) (ob : Option Nat) (w : World) (h : DkAt w B d M ms) (hE : ErrsAt w B ad) (hs : nm.size ≤ maxLen) (hob : M.LD.atKey (kS nm) .nil = bD ob) (ht : tn.size ≤ 1048576) :
    Calls Tryz.prog 55 #[.pointer (some ⟨d, 0, none⟩), .agg #[.int .i64 4, .int .i64 a, .string nm, .string tn, .slice da dn dc]] w fun e w' => ∃ f : Option Nat, e = .returned (errV ad f) ∧ StFt 4 ob ms M.cap a dn f ∧ LbOut w w' B d M (ms.map Bd.tell) := by
  have hg0 : w.grownBy (w.alloc (.cells #[.int .i64 4, .int .i64 a, .string nm, .string tn, .slice da dn dc] 33)).drew none := grownBy_drew (World.grownBy_alloc w _ none); have HD : Hid (DkAt (w.alloc (.cells #[.int .i64 4, .int .i64 a, .string nm, .string tn, .slice da dn dc] 33)).drew B d M ms ∧ w.grownBy (w.alloc (.cells #[.int .i64 4, .int .i64 a, .string nm, .string tn, .slice da dn dc] 33)).drew none ∧ B ≤ w.heap.size ∧ ErrsAt (w.alloc (.cells #[.int .i64 4, .int .i64 a, .string nm, .string tn, .slice da dn dc] 33)).drew B ad ∧ LbOut w (w.alloc (.cells #[.int .i64 4, .int .i64 a, .string nm, .string tn, .slice da dn dc] 33)).drew B d M (ms.map Bd.tell)) := ⟨h.grown0 hg0, hg0, h.sizeB, hE.grown hg0, LbOut.of_grown hg0 h.sizeB (LbOut.refl (h.grown0 hg0))⟩; have hdw : d < w.heap.size := (Array.getElem?_eq_some_iff.1 h.box).1
  have c0 : w.cell? ⟨d, 0, none⟩ = some (.map (some M.lb)) := by
    have h8 := h.box; rw [Dk.box] at h8; exact (zCr h8).trans rfl
  have HM : Hid (NMap w M.lb M.N M.LD) := h.dl
  have HR : Hid (∀ b, ob = some b → ∃ m ∈ ms, m.b = b) := fun b hb => (h.refL.1 (kS nm) b (by rw [hob, hb])).get
  clear h hE hg0
  go_enter Tryz.func55, Tryz.ntmps55
  go_upto_region 5 with fail
  refine wp_region_Z (fun Y => Y.cell? ⟨d, 0, none⟩ = some (.map (some M.lb)) ∧ Y.cell? ⟨w.heap.size, 2, none⟩ = some (.string nm) ∧ NMap Y M.lb M.N M.LD) (fun _ => false) (by kernel_rfl) ?_; have hX : (w.alloc (.cells #[.int .i64 4, .int .i64 a, .string nm, .string tn, .slice da dn dc] 33)).heap[w.heap.size]? = some (.cells #[.int .i64 4, .int .i64 a, .string nm, .string tn, .slice da dn dc] 33 (0, 0)) := heap_alloc_new w _
  have hS : (w.alloc (.cells #[.int .i64 4, .int .i64 a, .string nm, .string tn, .slice da dn dc] 33)).drew.cell? ⟨d, 0, none⟩ = some (.map (some M.lb)) ∧ (w.alloc (.cells #[.int .i64 4, .int .i64 a, .string nm, .string tn, .slice da dn dc] 33)).drew.cell? ⟨w.heap.size, 2, none⟩ = some (.string nm) ∧ NMap (w.alloc (.cells #[.int .i64 4, .int .i64 a, .string nm, .string tn, .slice da dn dc] 33)).drew M.lb M.N M.LD := by
    refine ⟨?_, (zCr hX).trans rfl, HM.out.alloc _⟩; exact (World.cell?_of_block (w := w) (a := ⟨d, 0, none⟩) (heap_alloc_old w _ hdw)).trans c0
  refine zTk 0 ?_; simp only [Act.put, zq1, zq2, zq3]; refine zTk 1 ?_; simp only [Act.put, zq1, zq2, zq3]; refine zTk 2 ?_; simp only [Act.put, zq1, zq2, zq3]; refine zLs 3 rfl hS (by intro W hW; have c0 := hW.1; go_simp; first | done | with_reducible rfl) ?_; simp only [Act.put, zq1, zq2, zq3]; refine zTk 4 ?_; simp only [Act.put, zq1, zq2, zq3]; refine zLs 5 rfl hS (by intro W hW; have c0 := hW.2.1; go_simp; first | done | with_reducible rfl) ?_; simp only [Act.put, zq1, zq2, zq3]; refine zLs 6 rfl hS (by intro W hW; have c0 := run_look hW.2.2 hs hob; go_simp; first | done | with_reducible rfl) ?_; simp only [Act.put, zq1, zq2, zq3]; refine zTk 7 ?_; simp only [Act.put, zq1, zq2, zq3]; refine wpAnyZ_done (by kernel_rfl) ?_ _; have hX2 : (w.alloc (.cells #[.int .i64 4, .int .i64 a, .string nm, .string tn, .slice da dn dc] 33)).drew.heap[w.heap.size]? = some (.cells #[.int .i64 4, .int .i64 a, .string nm, .string tn, .slice da dn dc] 33 (0, 0)) := hX; clear hS hX c0 HM hdw; generalize (w.alloc (.cells #[.int .i64 4, .int .i64 a, .string nm, .string tn, .slice da dn dc] 33)).drew = W1 at HD hX2 ⊢; have k0 : W1.cell? ⟨w.heap.size, 0, none⟩ = some (.int .i64 4) := (zCr hX2).trans rfl; have k1 : W1.cell? ⟨w.heap.size, 1, none⟩ = some (.int .i64 a) := (zCr hX2).trans rfl; have k3 : W1.cell? ⟨w.heap.size, 3, none⟩ = some (.string tn) := (zCr hX2).trans rfl; have k4 : W1.cell? ⟨w.heap.size, 4, none⟩ = some (.slice da dn dc) := (zCr hX2).trans rfl; have g3 := HD.out.2.2.2.1.cell 3 (by decide); clear hX2 hob
  cases ob with
  | none =>
    simp only [bP]; go_wp2; go_ret; exact ⟨some 3, rfl, StFt.none3, HD.out.2.2.2.2⟩
  | some b =>
    obtain ⟨m, hm, hmb⟩ := HR.out b rfl; subst hmb; have HMM : Hid (m ∈ ms) := hm
    have HU : Hid (∀ m' ∈ ms, some m.b = some m'.b → m' = m) := fun m' hm' he => HD.out.1.bods.same hm' hm (Option.some.inj he).symm
    clear HR g3; simp only [bP]; have HGN : Hid (Calls _ _ _ _ _) := goodName_any tn W1 ht; have g2 := HD.out.2.2.2.1.cell 2 (by decide); clear hm; go_wp2_with fail; refine HGN.out.mono ?_; rintro e w1 ⟨rfl, hw1⟩; subst hw1; clear HGN
    rcases hgn : goodN tn with _ | _
    · go_wp2; go_ret; exact ⟨some 2, rfl, ⟨by simp, by simp, by simp⟩, HD.out.2.2.2.2⟩
    · go_wp2; go_ret; exact ⟨none, rfl, ⟨by simp, fun _ => ⟨m, HMM.out, rfl, by simp, by simp⟩, by simp⟩, HD.out.2.2.2.2⟩
set_option maxRecDepth 20000 in
set_option maxHeartbeats 4000000 in
theorem stepFault5 (d : Nat) (a : Int) (nm tn : ByteArray) (da : Option Addr) (dn dc : Nat) (M : Dk) (ms : List Bd) (B : Nat) (ad : Nat → Addr) (ob : Option Nat) (w : World) (h : DkAt w B d M ms) (hE : ErrsAt w B ad) (hs : nm.size ≤ maxLen) (hob : M.LD.atKey (kS nm) .nil = bD ob) :
    Calls Tryz.prog 55 #[.pointer (some ⟨d, 0, none⟩), .agg #[.int .i64 5, .int .i64 a, .string nm, .string tn, .slice da dn dc]] w fun e w' => ∃ f : Option Nat, e = .returned (errV ad f) ∧ StFt 5 ob ms M.cap a dn f ∧ LbOut w w' B d M (ms.map Bd.tell) := by
  have hg0 : w.grownBy (w.alloc (.cells #[.int .i64 5, .int .i64 a, .string nm, .string tn, .slice da dn dc] 33)).drew none := grownBy_drew (World.grownBy_alloc w _ none); have HD : Hid (DkAt (w.alloc (.cells #[.int .i64 5, .int .i64 a, .string nm, .string tn, .slice da dn dc] 33)).drew B d M ms ∧ w.grownBy (w.alloc (.cells #[.int .i64 5, .int .i64 a, .string nm, .string tn, .slice da dn dc] 33)).drew none ∧ B ≤ w.heap.size ∧ ErrsAt (w.alloc (.cells #[.int .i64 5, .int .i64 a, .string nm, .string tn, .slice da dn dc] 33)).drew B ad ∧ LbOut w (w.alloc (.cells #[.int .i64 5, .int .i64 a, .string nm, .string tn, .slice da dn dc] 33)).drew B d M (ms.map Bd.tell)) := ⟨h.grown0 hg0, hg0, h.sizeB, hE.grown hg0, LbOut.of_grown hg0 h.sizeB (LbOut.refl (h.grown0 hg0))⟩; have hdw : d < w.heap.size := (Array.getElem?_eq_some_iff.1 h.box).1
  have c0 : w.cell? ⟨d, 0, none⟩ = some (.map (some M.lb)) := by
    have h8 := h.box; rw [Dk.box] at h8; exact (zCr h8).trans rfl
  have HM : Hid (NMap w M.lb M.N M.LD) := h.dl
  have HR : Hid (∀ b, ob = some b → ∃ m ∈ ms, m.b = b) := fun b hb => (h.refL.1 (kS nm) b (by rw [hob, hb])).get
  clear h hE hg0
  go_enter Tryz.func55, Tryz.ntmps55
  go_upto_region 5 with fail
  refine wp_region_Z (fun Y => Y.cell? ⟨d, 0, none⟩ = some (.map (some M.lb)) ∧ Y.cell? ⟨w.heap.size, 2, none⟩ = some (.string nm) ∧ NMap Y M.lb M.N M.LD) (fun _ => false) (by kernel_rfl) ?_; have hX : (w.alloc (.cells #[.int .i64 5, .int .i64 a, .string nm, .string tn, .slice da dn dc] 33)).heap[w.heap.size]? = some (.cells #[.int .i64 5, .int .i64 a, .string nm, .string tn, .slice da dn dc] 33 (0, 0)) := heap_alloc_new w _
  have hS : (w.alloc (.cells #[.int .i64 5, .int .i64 a, .string nm, .string tn, .slice da dn dc] 33)).drew.cell? ⟨d, 0, none⟩ = some (.map (some M.lb)) ∧ (w.alloc (.cells #[.int .i64 5, .int .i64 a, .string nm, .string tn, .slice da dn dc] 33)).drew.cell? ⟨w.heap.size, 2, none⟩ = some (.string nm) ∧ NMap (w.alloc (.cells #[.int .i64 5, .int .i64 a, .string nm, .string tn, .slice da dn dc] 33)).drew M.lb M.N M.LD := by
    refine ⟨?_, (zCr hX).trans rfl, HM.out.alloc _⟩; exact (World.cell?_of_block (w := w) (a := ⟨d, 0, none⟩) (heap_alloc_old w _ hdw)).trans c0
  refine zTk 0 ?_; simp only [Act.put, zq1, zq2, zq3]; refine zTk 1 ?_; simp only [Act.put, zq1, zq2, zq3]; refine zTk 2 ?_; simp only [Act.put, zq1, zq2, zq3]; refine zLs 3 rfl hS (by intro W hW; have c0 := hW.1; go_simp; first | done | with_reducible rfl) ?_; simp only [Act.put, zq1, zq2, zq3]; refine zTk 4 ?_; simp only [Act.put, zq1, zq2, zq3]; refine zLs 5 rfl hS (by intro W hW; have c0 := hW.2.1; go_simp; first | done | with_reducible rfl) ?_; simp only [Act.put, zq1, zq2, zq3]; refine zLs 6 rfl hS (by intro W hW; have c0 := run_look hW.2.2 hs hob; go_simp; first | done | with_reducible rfl) ?_; simp only [Act.put, zq1, zq2, zq3]; refine zTk 7 ?_; simp only [Act.put, zq1, zq2, zq3]; refine wpAnyZ_done (by kernel_rfl) ?_ _; have hX2 : (w.alloc (.cells #[.int .i64 5, .int .i64 a, .string nm, .string tn, .slice da dn dc] 33)).drew.heap[w.heap.size]? = some (.cells #[.int .i64 5, .int .i64 a, .string nm, .string tn, .slice da dn dc] 33 (0, 0)) := hX; clear hS hX c0 HM hdw; generalize (w.alloc (.cells #[.int .i64 5, .int .i64 a, .string nm, .string tn, .slice da dn dc] 33)).drew = W1 at HD hX2 ⊢; have k0 : W1.cell? ⟨w.heap.size, 0, none⟩ = some (.int .i64 5) := (zCr hX2).trans rfl; have k1 : W1.cell? ⟨w.heap.size, 1, none⟩ = some (.int .i64 a) := (zCr hX2).trans rfl; have k3 : W1.cell? ⟨w.heap.size, 3, none⟩ = some (.string tn) := (zCr hX2).trans rfl; have k4 : W1.cell? ⟨w.heap.size, 4, none⟩ = some (.slice da dn dc) := (zCr hX2).trans rfl; have g3 := HD.out.2.2.2.1.cell 3 (by decide); clear hX2 hob
  cases ob with
  | none =>
    simp only [bP]; go_wp2; go_ret; exact ⟨some 3, rfl, StFt.none3, HD.out.2.2.2.2⟩
  | some b =>
    obtain ⟨m, hm, hmb⟩ := HR.out b rfl; subst hmb; have HMM : Hid (m ∈ ms) := hm
    have HU : Hid (∀ m' ∈ ms, some m.b = some m'.b → m' = m) := fun m' hm' he => HD.out.1.bods.same hm' hm (Option.some.inj he).symm
    clear HR g3; simp only [bP]; clear hm; go_wp2; go_ret; exact ⟨none, rfl, ⟨by simp, fun _ => ⟨m, HMM.out, rfl, by simp, by simp⟩, by simp⟩, HD.out.2.2.2.2⟩
set_option maxRecDepth 20000 in
set_option maxHeartbeats 4000000 in
theorem stepFault6 (d : Nat) (a : Int) (nm tn : ByteArray) (da : Option Addr) (dn dc : Nat) (M : Dk) (ms : List Bd) (B : Nat) (ad : Nat → Addr) (ob : Option Nat) (w : World) (h : DkAt w B d M ms) (hE : ErrsAt w B ad) (hs : nm.size ≤ maxLen) (hob : M.LD.atKey (kS nm) .nil = bD ob) :
    Calls Tryz.prog 55 #[.pointer (some ⟨d, 0, none⟩), .agg #[.int .i64 6, .int .i64 a, .string nm, .string tn, .slice da dn dc]] w fun e w' => ∃ f : Option Nat, e = .returned (errV ad f) ∧ StFt 6 ob ms M.cap a dn f ∧ LbOut w w' B d M (ms.map Bd.tell) := by
  have hg0 : w.grownBy (w.alloc (.cells #[.int .i64 6, .int .i64 a, .string nm, .string tn, .slice da dn dc] 33)).drew none := grownBy_drew (World.grownBy_alloc w _ none); have HD : Hid (DkAt (w.alloc (.cells #[.int .i64 6, .int .i64 a, .string nm, .string tn, .slice da dn dc] 33)).drew B d M ms ∧ w.grownBy (w.alloc (.cells #[.int .i64 6, .int .i64 a, .string nm, .string tn, .slice da dn dc] 33)).drew none ∧ B ≤ w.heap.size ∧ ErrsAt (w.alloc (.cells #[.int .i64 6, .int .i64 a, .string nm, .string tn, .slice da dn dc] 33)).drew B ad ∧ LbOut w (w.alloc (.cells #[.int .i64 6, .int .i64 a, .string nm, .string tn, .slice da dn dc] 33)).drew B d M (ms.map Bd.tell)) := ⟨h.grown0 hg0, hg0, h.sizeB, hE.grown hg0, LbOut.of_grown hg0 h.sizeB (LbOut.refl (h.grown0 hg0))⟩; have hdw : d < w.heap.size := (Array.getElem?_eq_some_iff.1 h.box).1
  have c0 : w.cell? ⟨d, 0, none⟩ = some (.map (some M.lb)) := by
    have h8 := h.box; rw [Dk.box] at h8; exact (zCr h8).trans rfl
  have HM : Hid (NMap w M.lb M.N M.LD) := h.dl
  have HR : Hid (∀ b, ob = some b → ∃ m ∈ ms, m.b = b) := fun b hb => (h.refL.1 (kS nm) b (by rw [hob, hb])).get
  clear h hE hg0
  go_enter Tryz.func55, Tryz.ntmps55
  go_upto_region 5 with fail
  refine wp_region_Z (fun Y => Y.cell? ⟨d, 0, none⟩ = some (.map (some M.lb)) ∧ Y.cell? ⟨w.heap.size, 2, none⟩ = some (.string nm) ∧ NMap Y M.lb M.N M.LD) (fun _ => false) (by kernel_rfl) ?_; have hX : (w.alloc (.cells #[.int .i64 6, .int .i64 a, .string nm, .string tn, .slice da dn dc] 33)).heap[w.heap.size]? = some (.cells #[.int .i64 6, .int .i64 a, .string nm, .string tn, .slice da dn dc] 33 (0, 0)) := heap_alloc_new w _
  have hS : (w.alloc (.cells #[.int .i64 6, .int .i64 a, .string nm, .string tn, .slice da dn dc] 33)).drew.cell? ⟨d, 0, none⟩ = some (.map (some M.lb)) ∧ (w.alloc (.cells #[.int .i64 6, .int .i64 a, .string nm, .string tn, .slice da dn dc] 33)).drew.cell? ⟨w.heap.size, 2, none⟩ = some (.string nm) ∧ NMap (w.alloc (.cells #[.int .i64 6, .int .i64 a, .string nm, .string tn, .slice da dn dc] 33)).drew M.lb M.N M.LD := by
    refine ⟨?_, (zCr hX).trans rfl, HM.out.alloc _⟩; exact (World.cell?_of_block (w := w) (a := ⟨d, 0, none⟩) (heap_alloc_old w _ hdw)).trans c0
  refine zTk 0 ?_; simp only [Act.put, zq1, zq2, zq3]; refine zTk 1 ?_; simp only [Act.put, zq1, zq2, zq3]; refine zTk 2 ?_; simp only [Act.put, zq1, zq2, zq3]; refine zLs 3 rfl hS (by intro W hW; have c0 := hW.1; go_simp; first | done | with_reducible rfl) ?_; simp only [Act.put, zq1, zq2, zq3]; refine zTk 4 ?_; simp only [Act.put, zq1, zq2, zq3]; refine zLs 5 rfl hS (by intro W hW; have c0 := hW.2.1; go_simp; first | done | with_reducible rfl) ?_; simp only [Act.put, zq1, zq2, zq3]; refine zLs 6 rfl hS (by intro W hW; have c0 := run_look hW.2.2 hs hob; go_simp; first | done | with_reducible rfl) ?_; simp only [Act.put, zq1, zq2, zq3]; refine zTk 7 ?_; simp only [Act.put, zq1, zq2, zq3]; refine wpAnyZ_done (by kernel_rfl) ?_ _; have hX2 : (w.alloc (.cells #[.int .i64 6, .int .i64 a, .string nm, .string tn, .slice da dn dc] 33)).drew.heap[w.heap.size]? = some (.cells #[.int .i64 6, .int .i64 a, .string nm, .string tn, .slice da dn dc] 33 (0, 0)) := hX; clear hS hX c0 HM hdw; generalize (w.alloc (.cells #[.int .i64 6, .int .i64 a, .string nm, .string tn, .slice da dn dc] 33)).drew = W1 at HD hX2 ⊢; have k0 : W1.cell? ⟨w.heap.size, 0, none⟩ = some (.int .i64 6) := (zCr hX2).trans rfl; have k1 : W1.cell? ⟨w.heap.size, 1, none⟩ = some (.int .i64 a) := (zCr hX2).trans rfl; have k3 : W1.cell? ⟨w.heap.size, 3, none⟩ = some (.string tn) := (zCr hX2).trans rfl; have k4 : W1.cell? ⟨w.heap.size, 4, none⟩ = some (.slice da dn dc) := (zCr hX2).trans rfl; have g3 := HD.out.2.2.2.1.cell 3 (by decide); clear hX2 hob
  cases ob with
  | none =>
    simp only [bP]; go_wp2; go_ret; exact ⟨some 3, rfl, StFt.none3, HD.out.2.2.2.2⟩
  | some b =>
    obtain ⟨m, hm, hmb⟩ := HR.out b rfl; subst hmb; have HMM : Hid (m ∈ ms) := hm
    have HU : Hid (∀ m' ∈ ms, some m.b = some m'.b → m' = m) := fun m' hm' he => HD.out.1.bods.same hm' hm (Option.some.inj he).symm
    clear HR g3; simp only [bP]; clear hm; go_wp2; go_ret; exact ⟨none, rfl, ⟨by simp, fun _ => ⟨m, HMM.out, rfl, by simp, by simp⟩, by simp⟩, HD.out.2.2.2.2⟩
def Dn (k : Nat) (a : Int) (nm tn : ByteArray) (D : List Nat) (M : Dk) (P : Pb) (M' : Dk) (P' : Pb) : Prop :=
  (k = 1 ∧ ∃ b x, b ∉ P.map (·.1) ∧ M'.LD = bindD M.LD [(nm, some b)] ∧ M'.SD = M.SD ∧ M'.N = M.N + 1 ∧ P' = P ++ [(b, [], [])] ∧ M'.queue = M.queue ++ [x] ∧ x.kind = 3 ∧ x.bs = [(nm, some b)])
  ∨ (k = 2 ∧ ∃ b L S at_, M.LD.atKey (kS nm) .nil = bD (some b) ∧ (b, L, S) ∈ P ∧ a = ((at_ : Nat) : Int) ∧ at_ ≤ L.length ∧ at_ + D.length ≤ 65536 ∧ M'.LD = M.LD ∧ M'.SD = M.SD ∧ M'.N = M.N ∧ P' = onL b (fun L => ov L at_ D) P ∧ ((M'.queue = M.queue ∧ D = []) ∨ ∃ x : Ch, M'.queue = M.queue ++ [x] ∧ x.kind = 1 ∧ x.b = b ∧ x.at_ = at_ ∧ x.D = D ∧ x.bs = [] ∧ D ≠ []))
  ∨ (k = 3 ∧ ∃ b L S at_, M.LD.atKey (kS nm) .nil = bD (some b) ∧ (b, L, S) ∈ P ∧ a = ((at_ : Nat) : Int) ∧ at_ ≤ L.length ∧ M'.LD = M.LD ∧ M'.SD = M.SD ∧ M'.N = M.N ∧ P' = onL b (fun L => L.take at_) P ∧ ((M'.queue = M.queue ∧ at_ = L.length) ∨ ∃ x : Ch, M'.queue = M.queue ++ [x] ∧ x.kind = 2 ∧ x.b = b ∧ x.at_ = at_ ∧ x.bs = [] ∧ at_ < L.length))
  ∨ (k = 4 ∧ ((M'.LD = M.LD ∧ M'.SD = M.SD ∧ M'.N = M.N ∧ P' = P ∧ M'.queue = M.queue) ∨ ∃ b x, M.LD.atKey (kS nm) .nil = bD (some b) ∧ M'.LD = bindD M.LD [(tn, some b), (nm, none)] ∧ M'.SD = M.SD ∧ M'.N = M.N + 2 ∧ P' = P ∧ M'.queue = M.queue ++ [x] ∧ x.kind = 3 ∧ x.bs = [(tn, some b), (nm, none)]))
  ∨ (k = 5 ∧ ∃ x, M'.LD = bindD M.LD [(nm, none)] ∧ M'.SD = M.SD ∧ M'.N = M.N + 1 ∧ P' = P ∧ M'.queue = M.queue ++ [x] ∧ x.kind = 3 ∧ x.bs = [(nm, none)])
  ∨ ((k = 6 ∨ k = 7) ∧ ∃ o, (k = 7 → o = none) ∧ (k = 6 → ∃ b, o = some b ∧ M.LD.atKey (kS nm) .nil = bD (some b)) ∧ M'.LD = M.LD ∧ M'.SD = syncsD o M.queue M.SD ∧ M'.N = M.N + tots M.queue ∧ P' = syncsP o M.queue P ∧ M'.queue = M.queue.filter (fun x => !(mineC o x)))
def CoOut (w w' : World) (B d : Nat) (M : Dk) (DN : Dk → Pb → Prop) : Prop :=
  ∃ M' ms', DkAt w' B d M' ms' ∧ DN M' (ms'.map Bd.tell) ∧ M'.cap = M.cap ∧ M'.fuse = M.fuse ∧ M'.off = M.off ∧ Moves [M.lb, M.sb] [93, 5, 104, 90] w w' ∧ ∀ k, k < B → w'.heap[k]? = w.heap[k]?
def StOut (w w' : World) (B d : Nat) (M : Dk) (P : Pb) (ad : Nat → Addr) (ev : Value) (f : Option Nat) (DN : Dk → Pb → Prop) : Prop :=
  ((∃ j, f = some j) ∧ RefAt w' ad ev ∧ LbOut w w' B d M P) ∨ (f = none ∧ ev = .nilIface ∧ CoOut w w' B d M DN)
theorem tell_get {ms ms1 : List Bd} (h : ms1.map Bd.tell = ms.map Bd.tell) {m : Bd} (hm : m ∈ ms) : ∃ m1 ∈ ms1, m1.b = m.b ∧ m1.L = m.L ∧ m1.S = m.S := by
  have h1 : m.tell ∈ ms1.map Bd.tell := by rw [h]; exact List.mem_map_of_mem hm
  obtain ⟨m1, h2, h3⟩ := List.mem_map.1 h1; simp only [Bd.tell, Prod.mk.injEq] at h3; exact ⟨m1, h2, h3⟩
theorem CoOut.grown {w w1 w' : World} {B d : Nat} {M : Dk} {DN : Dk → Pb → Prop} (hM : Moves [M.lb, M.sb] [93, 5, 104, 90] w w1) (hl : ∀ k, k < B → w1.heap[k]? = w.heap[k]?) (h : CoOut w1 w' B d M DN) : CoOut w w' B d M DN := by
  obtain ⟨M', ms', h1, h2, h3, h4, h5, h6, h7⟩ := h; exact ⟨M', ms', h1, h2, h3, h4, h5, hM.trans h6, fun k hk => (h7 k hk).trans (hl k hk)⟩
set_option maxRecDepth 20000 in
set_option maxHeartbeats 4000000 in
theorem step_any (d : Nat) (kd a : Int) (nm tn : ByteArray) (da : Option Addr) (dn dc : Nat) (M : Dk) (ms : List Bd) (B : Nat) (ad : Nat → Addr) (w : World) (h : DkAt w B d M ms) (hE : ErrsAt w B ad) (hfu : M.fuse = -1) (FT : Option Nat → Prop) (DN : Dk → Pb → Prop)
    (hsf : ∀ X : World, w.grownBy X none → Calls Tryz.prog 55 #[.pointer (some ⟨d, 0, none⟩), .agg #[.int .i64 kd, .int .i64 a, .string nm, .string tn, .slice da dn dc]] X fun e w' => ∃ f, e = .returned (errV ad f) ∧ FT f ∧ LbOut X w' B d M (ms.map Bd.tell)) (hft : ∀ j, FT (some j) → j < 13)
    (hco : ∀ (X : World) (ms1 : List Bd) (c : Int), FT none → DkAt X B d { M with cnt := c } ms1 → ms1.map Bd.tell = ms.map Bd.tell → (∀ k, k < B → X.heap[k]? = w.heap[k]?) → Calls Tryz.prog 56 #[.pointer (some ⟨d, 0, none⟩), .agg #[.int .i64 kd, .int .i64 a, .string nm, .string tn, .slice da dn dc]] X fun e w' => e = .returned (.tuple #[]) ∧ CoOut X w' B d M DN) :
    Calls Tryz.prog 50 #[.pointer (some ⟨d, 0, none⟩), .agg #[.int .i64 kd, .int .i64 a, .string nm, .string tn, .slice da dn dc]] w fun e w' => ∃ f ev, e = .returned ev ∧ FT f ∧ StOut w w' B d M (ms.map Bd.tell) ad ev f DN := by
  have hg0 : w.grownBy (w.alloc (.cells #[.int .i64 kd, .int .i64 a, .string nm, .string tn, .slice da dn dc] 33)) none := World.grownBy_alloc w _ none; have hX : (w.alloc (.cells #[.int .i64 kd, .int .i64 a, .string nm, .string tn, .slice da dn dc] 33)).heap[w.heap.size]? = some (.cells #[.int .i64 kd, .int .i64 a, .string nm, .string tn, .slice da dn dc] 33 (0, 0)) := heap_alloc_new w _; have HSF : Hid (Calls _ _ _ _ _) := hsf (w.alloc (.cells #[.int .i64 kd, .int .i64 a, .string nm, .string tn, .slice da dn dc] 33)) hg0; have HCO : Hid _ := hco; have HD : Hid (w.grownBy (w.alloc (.cells #[.int .i64 kd, .int .i64 a, .string nm, .string tn, .slice da dn dc] 33)) none ∧ B ≤ w.heap.size ∧ ErrsAt (w.alloc (.cells #[.int .i64 kd, .int .i64 a, .string nm, .string tn, .slice da dn dc] 33)) B ad ∧ (∀ j, FT (some j) → j < 13) ∧ (∀ k, k < B → (w.alloc (.cells #[.int .i64 kd, .int .i64 a, .string nm, .string tn, .slice da dn dc] 33)).heap[k]? = w.heap[k]?)) := ⟨hg0, h.sizeB, hE.grown hg0, hft, fun k hk => hg0.block k (Nat.lt_of_lt_of_le hk h.sizeB) (by simp)⟩; obtain ⟨P, hP⟩ : ∃ y, ms.map Bd.tell = y := ⟨_, rfl⟩; rw [hP] at HSF ⊢; have HP : Hid (ms.map Bd.tell = P ∧ M.fuse = -1) := ⟨hP, hfu⟩; clear h hE hg0 hsf hft hP hco hX hfu
  go_enter Tryz.func50, Tryz.ntmps50
  go_wp2_with fail; refine HSF.out.mono ?_; rintro e w1 ⟨f, rfl, hf, ms1, c, h1, h2, h3, h4⟩; have hX1 : w1.heap[w.heap.size]? = some (.cells #[.int .i64 kd, .int .i64 a, .string nm, .string tn, .slice da dn dc] 33 (0, 0)) := h3.cells (heap_alloc_new w _) (by decide) (by simp); have HF : Hid (FT f ∧ DkAt w1 B d { M with cnt := c } ms1 ∧ ms1.map Bd.tell = P ∧ Moves [] [93, 90] (w.alloc (.cells #[.int .i64 kd, .int .i64 a, .string nm, .string tn, .slice da dn dc] 33)) w1 ∧ (∀ k, k < B → w1.heap[k]? = (w.alloc (.cells #[.int .i64 kd, .int .i64 a, .string nm, .string tn, .slice da dn dc] 33)).heap[k]?) ∧ ErrsAt w1 B ad ∧ w1.heap[w.heap.size]? = some (.cells #[.int .i64 kd, .int .i64 a, .string nm, .string tn, .slice da dn dc] 33 (0, 0))) := ⟨hf, h1, h2, h3, h4, HD.out.2.2.1.to h4, hX1⟩; have k0 : w1.cell? ⟨w.heap.size, 0, none⟩ = some (.int .i64 kd) := (zCr hX1).trans rfl; have k1 : w1.cell? ⟨w.heap.size, 1, none⟩ = some (.int .i64 a) := (zCr hX1).trans rfl; have k2 : w1.cell? ⟨w.heap.size, 2, none⟩ = some (.string nm) := (zCr hX1).trans rfl; have k3 : w1.cell? ⟨w.heap.size, 3, none⟩ = some (.string tn) := (zCr hX1).trans rfl; have k4 : w1.cell? ⟨w.heap.size, 4, none⟩ = some (.slice da dn dc) := (zCr hX1).trans rfl
  have kf : w1.cell? ⟨d, 4, none⟩ = some (.int .i64 (-1)) := by
    have h9 : w1.cell? ⟨d, 4, none⟩ = some (.int .i64 M.fuse) := (zCr h1.box).trans rfl; rw [HP.out.2] at h9; exact h9
  clear hf h1 h2 h3 h4 hX1 HSF
  cases f with
  | some j =>
    have HR : Hid (Calls _ _ _ _ _) := refuse_any ad j (HD.out.2.2.2.1 j HF.out.1) kd a nm tn (.slice da dn dc) w1; simp only [errV] at HR ⊢; go_wp2_with fail; refine HR.out.mono ?_; rintro e w2 ⟨v, rfl, hv, hg2⟩
    have HV : Hid (RefAt w2 ad v ∧ LbOut w w2 B d M P) := by
      refine ⟨hv, LbOut.of_grown HD.out.1 HD.out.2.1 ?_⟩; obtain ⟨-, f1, f2, f3, f4, -, -⟩ := HF.out; refine LbOut.drewN ⟨ms1, c, f1, f2, f3, f4⟩ (Nat.le_trans HD.out.2.1 HD.out.1.size) hg2
    obtain ⟨g, j', k', nm', -, rfl, -⟩ := hv; clear hg2 HR; go_wp2; go_ret; exact ⟨some j, _, rfl, HF.out.1, .inl ⟨⟨j, rfl⟩, HV.out.1, HV.out.2⟩⟩
  | none =>
    have HC : Hid (Calls _ _ _ _ _) := HCO.out w1 ms1 c HF.out.1 HF.out.2.1 (HF.out.2.2.1.trans HP.out.1.symm) (fun k hk => (HF.out.2.2.2.2.1 k hk).trans (HD.out.2.2.2.2 k hk)); simp only [errV]; go_wp2_with fail; refine HC.out.mono ?_; rintro e w2 ⟨rfl, hco⟩
    have HV : Hid (CoOut w w2 B d M DN) := by
      refine CoOut.grown ((Moves.of_grown0 HD.out.1).trans (HF.out.2.2.2.1.wide (by simp) (by intro t ht; simp only [List.mem_cons, List.not_mem_nil, or_false] at ht; rcases ht with h | h <;> simp [h]))) (fun k hk => (HF.out.2.2.2.2.1 k hk).trans (HD.out.2.2.2.2 k hk)) hco
    clear hco HC; go_wp2; go_ret; exact ⟨none, _, rfl, HF.out.1, .inr ⟨rfl, rfl, HV.out⟩⟩
def RdOut (w w' : World) (B : Nat) (ms : List Bd) (ob : Option Nat) (ad : Nat → Addr) (dv ev : Value) : Prop :=
  w.grownBy w' none ∧ ((ob = none ∧ dv = .slice none 0 0 ∧ RefAt w' ad ev) ∨ ∃ m ∈ ms, ob = some m.b ∧ ev = .nilIface ∧ BRow w' B dv m.L)
set_option maxRecDepth 20000 in
set_option maxHeartbeats 4000000 in
theorem read_any (d : Nat) (kd a : Int) (nm tn : ByteArray) (da : Option Addr) (dn dc : Nat) (M : Dk) (ms : List Bd) (B : Nat) (ad : Nat → Addr) (ob : Option Nat) (w : World) (h : DkAt w B d M ms) (hE : ErrsAt w B ad) (hs : nm.size ≤ maxLen) (hob : M.LD.atKey (kS nm) .nil = bD ob) :
    Calls Tryz.prog 49 #[.pointer (some ⟨d, 0, none⟩), .agg #[.int .i64 kd, .int .i64 a, .string nm, .string tn, .slice da dn dc]] w fun e w' => ∃ oa n c ev, e = .returned (.tuple #[.slice oa n c, ev]) ∧ RdOut w w' B ms ob ad (.slice oa n c) ev := by
  have hg0 : w.grownBy (w.alloc (.cells #[.int .i64 kd, .int .i64 a, .string nm, .string tn, .slice da dn dc] 33)).drew none := grownBy_drew (World.grownBy_alloc w _ none); have HD : Hid (DkAt (w.alloc (.cells #[.int .i64 kd, .int .i64 a, .string nm, .string tn, .slice da dn dc] 33)).drew B d M ms ∧ w.grownBy (w.alloc (.cells #[.int .i64 kd, .int .i64 a, .string nm, .string tn, .slice da dn dc] 33)).drew none ∧ B ≤ w.heap.size ∧ ErrsAt (w.alloc (.cells #[.int .i64 kd, .int .i64 a, .string nm, .string tn, .slice da dn dc] 33)).drew B ad) := ⟨h.grown0 hg0, hg0, h.sizeB, hE.grown hg0⟩; have hdw : d < w.heap.size := (Array.getElem?_eq_some_iff.1 h.box).1
  have c0 : w.cell? ⟨d, 0, none⟩ = some (.map (some M.lb)) := by
    have h8 := h.box; rw [Dk.box] at h8; exact (zCr h8).trans rfl
  have HM : Hid (NMap w M.lb M.N M.LD) := h.dl
  have HR : Hid (∀ b, ob = some b → ∃ m ∈ ms, m.b = b) := fun b hb => (h.refL.1 (kS nm) b (by rw [hob, hb])).get
  clear h hE hg0
  go_enter Tryz.func49, Tryz.ntmps49
  go_upto_region 1 with fail
  refine wp_region_Z (fun Y => Y.cell? ⟨d, 0, none⟩ = some (.map (some M.lb)) ∧ Y.cell? ⟨w.heap.size, 2, none⟩ = some (.string nm) ∧ NMap Y M.lb M.N M.LD) (fun _ => false) (by kernel_rfl) ?_; have hX : (w.alloc (.cells #[.int .i64 kd, .int .i64 a, .string nm, .string tn, .slice da dn dc] 33)).heap[w.heap.size]? = some (.cells #[.int .i64 kd, .int .i64 a, .string nm, .string tn, .slice da dn dc] 33 (0, 0)) := heap_alloc_new w _
  have hS : (w.alloc (.cells #[.int .i64 kd, .int .i64 a, .string nm, .string tn, .slice da dn dc] 33)).drew.cell? ⟨d, 0, none⟩ = some (.map (some M.lb)) ∧ (w.alloc (.cells #[.int .i64 kd, .int .i64 a, .string nm, .string tn, .slice da dn dc] 33)).drew.cell? ⟨w.heap.size, 2, none⟩ = some (.string nm) ∧ NMap (w.alloc (.cells #[.int .i64 kd, .int .i64 a, .string nm, .string tn, .slice da dn dc] 33)).drew M.lb M.N M.LD := by
    refine ⟨?_, (zCr hX).trans rfl, HM.out.alloc _⟩; exact (World.cell?_of_block (w := w) (a := ⟨d, 0, none⟩) (heap_alloc_old w _ hdw)).trans c0
  refine zTk 0 ?_; simp only [Act.put, zq1, zq2, zq3]; refine zTk 1 ?_; simp only [Act.put, zq1, zq2, zq3]; refine zTk 2 ?_; simp only [Act.put, zq1, zq2, zq3]; refine zLs 3 rfl hS (by intro W hW; have c0 := hW.1; go_simp; first | done | with_reducible rfl) ?_; simp only [Act.put, zq1, zq2, zq3]; refine zTk 4 ?_; simp only [Act.put, zq1, zq2, zq3]; refine zLs 5 rfl hS (by intro W hW; have c0 := hW.2.1; go_simp; first | done | with_reducible rfl) ?_; simp only [Act.put, zq1, zq2, zq3]; refine zLs 6 rfl hS (by intro W hW; have c0 := run_look hW.2.2 hs hob; go_simp; first | done | with_reducible rfl) ?_; simp only [Act.put, zq1, zq2, zq3]; refine zTk 7 ?_; simp only [Act.put, zq1, zq2, zq3]; refine wpAnyZ_done (by kernel_rfl) ?_ _; have hX2 : (w.alloc (.cells #[.int .i64 kd, .int .i64 a, .string nm, .string tn, .slice da dn dc] 33)).drew.heap[w.heap.size]? = some (.cells #[.int .i64 kd, .int .i64 a, .string nm, .string tn, .slice da dn dc] 33 (0, 0)) := hX; clear hS hX c0 HM hdw; generalize (w.alloc (.cells #[.int .i64 kd, .int .i64 a, .string nm, .string tn, .slice da dn dc] 33)).drew = W1 at HD hX2 ⊢; have k0 : W1.cell? ⟨w.heap.size, 0, none⟩ = some (.int .i64 kd) := (zCr hX2).trans rfl; have k1 : W1.cell? ⟨w.heap.size, 1, none⟩ = some (.int .i64 a) := (zCr hX2).trans rfl; have k2 : W1.cell? ⟨w.heap.size, 2, none⟩ = some (.string nm) := (zCr hX2).trans rfl; have k3 : W1.cell? ⟨w.heap.size, 3, none⟩ = some (.string tn) := (zCr hX2).trans rfl; have k4 : W1.cell? ⟨w.heap.size, 4, none⟩ = some (.slice da dn dc) := (zCr hX2).trans rfl; have g3 := HD.out.2.2.2.cell 3 (by decide); clear hX2 hob
  cases ob with
  | none =>
    simp only [bP]; have HRF : Hid (Calls _ _ _ _ _) := refuse_any ad 3 (by decide) kd a nm tn (.slice da dn dc) W1; simp only [errV] at HRF; go_wp2_with fail; refine HRF.out.mono ?_; rintro e w2 ⟨v, rfl, hv, hg2⟩; have HV : Hid (RefAt w2 ad v ∧ w.grownBy w2 none) := ⟨hv, grownBy_trans HD.out.2.1 hg2⟩; obtain ⟨g, j', k', nm', -, rfl, -⟩ := hv; clear hg2 HRF; go_wp2; refine bodyPost_ret (results_tmp2 rfl _ _ _) rfl ?_; exact ⟨_, _, _, _, rfl, HV.out.2, .inl ⟨rfl, rfl, HV.out.1⟩⟩
  | some b =>
    obtain ⟨m, hm, hmb⟩ := HR.out b rfl; subst hmb; have hma := (HD.out.1.bods.each m hm).1; obtain ⟨la, lc, hlv, hsl⟩ := hma.live.sl; obtain ⟨ln, hln⟩ : ∃ y, m.L.length = y := ⟨_, rfl⟩; rw [hln] at hlv hsl
    have hbx : W1.heap[m.b]? = some (.cells #[.slice la ln lc, m.sv, .int .i64 m.k] 93 (0, 0)) := by rw [hma.box, Bd.blk, hlv]
    have cb : W1.cell? ⟨m.b, 0, none⟩ = some (.slice la ln lc) := (zCr hbx).trans rfl; have HC : Hid (Calls _ _ _ _ _) := clone_any la ln lc m.L B W1 hsl (by have := (HD.out.1.bods.each m hm).2.1; omega) (Nat.le_trans HD.out.2.2.1 HD.out.2.1.size); have HMM : Hid (m ∈ ms) := hm; clear HR g3 hma hlv hsl hbx hln hm; simp only [bP]; go_wp2_with fail; refine HC.out.mono ?_; rintro e w2 ⟨v, rfl, hv, hg2, -⟩; have HV : Hid (BRow w2 B v m.L ∧ w.grownBy w2 none) := ⟨hv, grownBy_trans HD.out.2.1 hg2⟩; obtain ⟨oa, cp, hve, -⟩ := hv.is; obtain ⟨n2, hn2⟩ : ∃ y, m.L.length = y := ⟨_, rfl⟩; rw [hn2] at hve; subst hve; clear hg2 HC hv hn2; go_wp2; refine bodyPost_ret (results_tmp2 rfl _ _ _) rfl ?_; exact ⟨_, _, _, _, rfl, HV.out.2, .inr ⟨m, HMM.out, rfl, rfl, HV.out.1⟩⟩
def DoOut (w w' : World) (B d : Nat) (M : Dk) (ms : List Bd) (ad : Nat → Addr) (kd : Int) (ob : Option Nat) (D : List Nat) (ST : World → World → Value → Prop) (dv ev : Value) : Prop :=
  (kd = 11 ∧ dv = .slice none 0 0 ∧ ev = .nilIface ∧ CrashOut w w' B d M ms D) ∨ (kd = 8 ∧ RdOut w w' B ms ob ad dv ev) ∨ ((kd < 1 ∨ 8 < kd) ∧ kd ≠ 11 ∧ dv = .slice none 0 0 ∧ RefAt w' ad ev ∧ w.grownBy w' none) ∨ (1 ≤ kd ∧ kd ≤ 7 ∧ dv = .slice none 0 0 ∧ ∃ X, w.grownBy X none ∧ ST X w' ev)
theorem CrashOut.of_grown {w w1 w' : World} {B d : Nat} {M : Dk} {ms : List Bd} {C : List Nat} (hg : w.grownBy w1 none) (hB : B ≤ w.heap.size) (h : CrashOut w1 w' B d M ms C) : CrashOut w w' B d M ms C := by
  obtain ⟨ms', lb, v, h1, h2, h3, h4, h5⟩ := h; exact ⟨ms', lb, v, h1, h2, h3, (Moves.of_grown0 hg).trans h4, fun k hk => (h5 k hk).trans (hg.block k (Nat.lt_of_lt_of_le hk hB) (by simp))⟩
theorem RdOut.of_grown {w w1 w' : World} {B : Nat} {ms : List Bd} {ob : Option Nat} {ad : Nat → Addr} {dv ev : Value} (hg : w.grownBy w1 none) (h : RdOut w1 w' B ms ob ad dv ev) : RdOut w w' B ms ob ad dv ev := ⟨grownBy_trans hg h.1, h.2⟩
def evOk (v : Value) : Prop := v = .nilIface ∨ ∃ t p, v = .iface t (.pointer p)
theorem RefAt.evOk {w : World} {ad : Nat → Addr} {v : Value} (h : RefAt w ad v) : evOk v := by
  obtain ⟨g, _, _, _, _, h1, _⟩ := h; exact .inr ⟨_, _, h1⟩
set_option maxRecDepth 20000 in
set_option maxHeartbeats 4000000 in
theorem do_any (d : Nat) (kd a : Int) (nm tn : ByteArray) (da : Option Addr) (dn dc : Nat) (M : Dk) (ms : List Bd) (B : Nat) (ad : Nat → Addr) (ob : Option Nat) (D : List Nat) (w : World) (h : DkAt w B d M ms) (hE : ErrsAt w B ad) (hoff : M.off = false) (h9 : kd ≠ 9) (h10 : kd ≠ 10) (hs : nm.size ≤ maxLen) (hob : M.LD.atKey (kS nm) .nil = bD ob)
    (hq : M.queue.length ≤ 100000) (hN : M.N + totk M.queue ≤ 1000000) (hsl : SlB w da dn D) (hda : ∀ b off, da = some ⟨b, off, none⟩ → b < B) (ST : World → World → Value → Prop) (hev : ∀ X w' ev, ST X w' ev → evOk ev)
    (hst : ∀ X : World, w.grownBy X none → 1 ≤ kd → kd ≤ 7 → Calls Tryz.prog 50 #[.pointer (some ⟨d, 0, none⟩), .agg #[.int .i64 kd, .int .i64 a, .string nm, .string tn, .slice da dn dc]] X fun e w' => ∃ ev, e = .returned ev ∧ ST X w' ev) :
    Calls Tryz.prog 32 #[.pointer (some ⟨d, 0, none⟩), .agg #[.int .i64 kd, .int .i64 a, .string nm, .string tn, .slice da dn dc]] w fun e w' => ∃ oa n c ev, e = .returned (.tuple #[.slice oa n c, ev]) ∧ evOk ev ∧ DoOut w w' B d M ms ad kd ob D ST (.slice oa n c) ev := by
  have hg0 : w.grownBy (w.alloc (.cells #[.int .i64 kd, .int .i64 a, .string nm, .string tn, .slice da dn dc] 33)) none := World.grownBy_alloc w _ none; have hX : (w.alloc (.cells #[.int .i64 kd, .int .i64 a, .string nm, .string tn, .slice da dn dc] 33)).heap[w.heap.size]? = some (.cells #[.int .i64 kd, .int .i64 a, .string nm, .string tn, .slice da dn dc] 33 (0, 0)) := heap_alloc_new w _; have h0 := h.grown0 hg0; have HCR : Hid (Calls _ _ _ _ _) := crash_any d M ms B da dn dc D (w.alloc (.cells #[.int .i64 kd, .int .i64 a, .string nm, .string tn, .slice da dn dc] 33)) h0 hq hN (hsl.grown0 hg0) hda; have HRD : Hid (Calls _ _ _ _ _) := read_any d kd a nm tn da dn dc M ms B ad ob (w.alloc (.cells #[.int .i64 kd, .int .i64 a, .string nm, .string tn, .slice da dn dc] 33)) h0 (hE.grown hg0) hs hob; have HST : Hid (1 ≤ kd → kd ≤ 7 → Calls _ _ _ _ _) := hst (w.alloc (.cells #[.int .i64 kd, .int .i64 a, .string nm, .string tn, .slice da dn dc] 33)) hg0; have HD : Hid (w.grownBy (w.alloc (.cells #[.int .i64 kd, .int .i64 a, .string nm, .string tn, .slice da dn dc] 33)) none ∧ B ≤ w.heap.size ∧ ∀ X w' ev, ST X w' ev → evOk ev) := ⟨hg0, h.sizeB, hev⟩; have k0 : (w.alloc (.cells #[.int .i64 kd, .int .i64 a, .string nm, .string tn, .slice da dn dc] 33)).cell? ⟨w.heap.size, 0, none⟩ = some (.int .i64 kd) := (zCr hX).trans rfl; have k1 : (w.alloc (.cells #[.int .i64 kd, .int .i64 a, .string nm, .string tn, .slice da dn dc] 33)).cell? ⟨w.heap.size, 1, none⟩ = some (.int .i64 a) := (zCr hX).trans rfl; have k2 : (w.alloc (.cells #[.int .i64 kd, .int .i64 a, .string nm, .string tn, .slice da dn dc] 33)).cell? ⟨w.heap.size, 2, none⟩ = some (.string nm) := (zCr hX).trans rfl; have k3 : (w.alloc (.cells #[.int .i64 kd, .int .i64 a, .string nm, .string tn, .slice da dn dc] 33)).cell? ⟨w.heap.size, 3, none⟩ = some (.string tn) := (zCr hX).trans rfl; have k4 : (w.alloc (.cells #[.int .i64 kd, .int .i64 a, .string nm, .string tn, .slice da dn dc] 33)).cell? ⟨w.heap.size, 4, none⟩ = some (.slice da dn dc) := (zCr hX).trans rfl
  have ko : (w.alloc (.cells #[.int .i64 kd, .int .i64 a, .string nm, .string tn, .slice da dn dc] 33)).cell? ⟨d, 5, none⟩ = some (.bool false) := by
    have h8 : (w.alloc (.cells #[.int .i64 kd, .int .i64 a, .string nm, .string tn, .slice da dn dc] 33)).cell? ⟨d, 5, none⟩ = some (.bool M.off) := (zCr h0.box).trans rfl; rw [hoff] at h8; exact h8
  have g1 := (hE.grown hg0).cell 1 (by decide); clear h hE hg0 hX h0 hsl hst hev hob hoff; have HCK : Hid (kd ≠ 9 ∧ kd ≠ 10) := ⟨h9, h10⟩
  by_cases h11 : kd = 11
  · subst h11; clear HRD HST g1 h9 h10
    go_enter Tryz.func32, Tryz.ntmps32
    go_wp2_with fail; refine HCR.out.mono ?_; rintro e w1 ⟨rfl, hco⟩; have HV : Hid (CrashOut w w1 B d M ms D) := hco.of_grown HD.out.1 HD.out.2.1; clear hco; go_wp2; refine bodyPost_ret (results_tmp2 rfl _ _ _) rfl ?_; exact ⟨_, _, _, _, rfl, .inl rfl, .inl ⟨rfl, rfl, rfl, HV.out⟩⟩
  by_cases h8 : kd = 8
  · subst h8; clear HCR HST g1 h9 h10 h11
    go_enter Tryz.func32, Tryz.ntmps32
    go_wp2_with fail; refine HRD.out.mono ?_; rintro e w1 ⟨oa, n, c, ev, rfl, hr⟩
    have HV : Hid (RdOut w w1 B ms ob ad (.slice oa n c) ev ∧ evOk ev) := by
      refine ⟨hr.of_grown HD.out.1, ?_⟩
      rcases hr.2 with ⟨-, -, h1⟩ | ⟨_, _, _, h1, _⟩
      · exact h1.evOk
      · exact .inl h1
    clear hr; go_wp2; refine bodyPost_ret (results_tmp2 rfl _ _ _) rfl ?_; exact ⟨_, _, _, _, rfl, HV.out.2, .inr (.inl ⟨rfl, HV.out.1⟩)⟩
  have e9 : (kd == 9) = false := by simpa using h9
  have e10 : (kd == 10) = false := by simpa using h10
  have e11 : (kd == 11) = false := by simpa using h11
  have e8 : (kd == 8) = false := by simpa using h8
  by_cases hlo : kd < 1
  · have HRF : Hid (Calls _ _ _ _ _) := refuse_any ad 1 (by decide) kd a nm tn (.slice da dn dc) (w.alloc (.cells #[.int .i64 kd, .int .i64 a, .string nm, .string tn, .slice da dn dc] 33)); simp only [errV] at HRF; clear HCR HST HRD
    go_enter Tryz.func32, Tryz.ntmps32
    go_wp2_with fail; refine HRF.out.mono ?_; rintro e w2 ⟨v, rfl, hv, hg2⟩; have HV : Hid (RefAt w2 ad v ∧ w.grownBy w2 none ∧ evOk v) := ⟨hv, grownBy_trans HD.out.1 hg2, hv.evOk⟩; obtain ⟨g, j', k', nm', -, rfl, -⟩ := hv; clear hg2 HRF; go_wp2; refine bodyPost_ret (results_tmp2 rfl _ _ _) rfl ?_; exact ⟨_, _, _, _, rfl, HV.out.2.2, .inr (.inr (.inl ⟨.inl hlo, h11, rfl, HV.out.1, HV.out.2.1⟩))⟩
  by_cases hhi : 7 < kd
  · have HRF : Hid (Calls _ _ _ _ _) := refuse_any ad 1 (by decide) kd a nm tn (.slice da dn dc) (w.alloc (.cells #[.int .i64 kd, .int .i64 a, .string nm, .string tn, .slice da dn dc] 33)); simp only [errV] at HRF; clear HCR HST HRD
    go_enter Tryz.func32, Tryz.ntmps32
    go_wp2_with fail; refine HRF.out.mono ?_; rintro e w2 ⟨v, rfl, hv, hg2⟩; have HV : Hid (RefAt w2 ad v ∧ w.grownBy w2 none ∧ evOk v) := ⟨hv, grownBy_trans HD.out.1 hg2, hv.evOk⟩; obtain ⟨g, j', k', nm', -, rfl, -⟩ := hv; clear hg2 HRF; go_wp2; refine bodyPost_ret (results_tmp2 rfl _ _ _) rfl ?_; exact ⟨_, _, _, _, rfl, HV.out.2.2, .inr (.inr (.inl ⟨.inr (by omega), h11, rfl, HV.out.1, HV.out.2.1⟩))⟩
  have HS : Hid (Calls _ _ _ _ _) := HST.out (by omega) (by omega); have HK : Hid (1 ≤ kd ∧ kd ≤ 7) := ⟨by omega, by omega⟩; clear HCR HST HRD
  go_enter Tryz.func32, Tryz.ntmps32
  go_wp2_with fail; refine HS.out.mono ?_; rintro e w2 ⟨v, rfl, hv⟩; have HV : Hid (ST (w.alloc (.cells #[.int .i64 kd, .int .i64 a, .string nm, .string tn, .slice da dn dc] 33)) w2 v ∧ evOk v) := ⟨hv, HD.out.2.2 _ _ _ hv⟩; clear hv HS
  rcases HV.out.2 with rfl | ⟨t, p, rfl⟩
  · go_wp2; refine bodyPost_ret (results_tmp2 rfl _ _ _) rfl ?_; exact ⟨_, _, _, _, rfl, HV.out.2, .inr (.inr (.inr ⟨HK.out.1, HK.out.2, rfl, _, HD.out.1, HV.out.1⟩))⟩
  · go_wp2; refine bodyPost_ret (results_tmp2 rfl _ _ _) rfl ?_; exact ⟨_, _, _, _, rfl, HV.out.2, .inr (.inr (.inr ⟨HK.out.1, HK.out.2, rfl, _, HD.out.1, HV.out.1⟩))⟩
end Go.Proofs.YtgehhfncjoogiaaGreatDoor
namespace Go.Proofs.YtgehhfncjoogiaaGreatDoor
open Go.RowKit

def kEntry : List Ki := [.int, .byt]
def kFile : List Ki := [.str, .byt]
theorem fitFile {e : List Tr} (h : FitsL e kFile) : ∃ t0 d1 a1 p1, e = [.str t0, .byt d1 a1 p1] := by
  obtain ⟨y0, e0, rfl, f0, h0⟩ := FitsL.cons h; obtain ⟨t0, rfl⟩ := f0.isStr; obtain ⟨y1, e1, rfl, f1, h1⟩ := FitsL.cons h0; obtain ⟨d1, a1, p1, rfl⟩ := f1.isByt; obtain rfl := h1.nil; exact ⟨t0, d1, a1, p1, rfl⟩
def fD : List Td → ByteArray × List Nat
  | [x, y] => (x.s, y.d)
  | _ => (⟨#[]⟩, [])
def filesOf (L : List (List Tr)) : List (ByteArray × List Nat) := (tellR L).map fD
theorem filesOf_len (L : List (List Tr)) : (filesOf L).length = L.length := by simp [filesOf]
theorem filesOf_get {L : List (List Tr)} {i : Nat} {s : ByteArray} {d : List Nat} {a : Option Addr} {p : Nat} (h : L[i]? = some [.str s, .byt d a p]) : (filesOf L)[i]? = some (s, d) := by
  simp [filesOf, tellR, h, fD]
def nmAt (F : List (ByteArray × List Nat)) (i : Nat) : ByteArray := ((F[i]?).map Prod.fst).getD ⟨#[]⟩
def badAt (F : List (ByteArray × List Nat)) (i : Nat) : Bool :=
  match F[i]? with
  | some (s, d) => !(goodN s) || (decide (0 < i) && !(Op.bytesLess (nmAt F (i - 1)).toList s.toList)) || decide (65536 < d.length)
  | none => false
def sumTo (F : List (ByteArray × List Nat)) : Nat → Nat
  | 0 => 0
  | k + 1 => sumTo F k + ((F[k]?).map (fun x => x.2.length)).getD 0
def okImg (F : List (ByteArray × List Nat)) : Bool := decide (F.length ≤ 512) && decide (∀ i, i < F.length → badAt F i = false) && decide (sumTo F F.length ≤ 262144)
theorem badAt_eq {F : List (ByteArray × List Nat)} {i : Nat} {s : ByteArray} {d : List Nat} (h : F[i]? = some (s, d)) : badAt F i = (!(goodN s) || (decide (0 < i) && !(Op.bytesLess (nmAt F (i - 1)).toList s.toList)) || decide (65536 < d.length)) := by
  simp [badAt, h]
theorem okImg_bad {F : List (ByteArray × List Nat)} {i : Nat} (hi : i < F.length) (h : badAt F i = true) : okImg F = false := by
  have h1 : ¬ ∀ i, i < F.length → badAt F i = false := fun hc => by rw [hc i hi] at h; cases h
  simp only [okImg, decide_eq_false h1, Bool.and_false, Bool.false_and]
theorem sumTo_le {F : List (ByteArray × List Nat)} {k : Nat} (h : ∀ i, i < k → badAt F i = false) : sumTo F k ≤ 65536 * k := by
  induction k with
  | zero => simp [sumTo]
  | succ k ih =>
    have h1 := ih (fun i hi => h i (by omega)); have h2 := h k (by omega); rw [sumTo]
    cases hF : F[k]? with
    | none => simp; omega
    | some x =>
      obtain ⟨s, d⟩ := x; rw [badAt_eq hF] at h2; simp only [Bool.or_eq_false_iff, decide_eq_false_iff_not] at h2
      simp
      omega
set_option maxRecDepth 4000 in
set_option maxHeartbeats 4000000 in
theorem validImage_any (L : List (List Tr)) (a : Option Addr) (p : Nat) (w : World) (h : RowOk w kFile a L) (ht : totR L ≤ 1048576) :
    Calls Tryz.prog 30 #[.slice a L.length p] w fun e w' => e = .returned (.bool (okImg (filesOf L))) ∧ w.grownBy w' none := by
  have hnt := totR_len L; obtain ⟨n, hn⟩ : ∃ n, L.length = n := ⟨_, rfl⟩; have HO : Hid (RowOk w kFile a L ∧ totR L ≤ 1048576 ∧ L.length = n ∧ (filesOf L).length = n) := ⟨h, ht, hn, by rw [filesOf_len]; exact hn⟩; rw [hn] at hnt ⊢
  have hnb : n ≤ 1048576 := by omega
  clear h ht hn hnt
  by_cases h5 : 512 < n
  · have e5 : (512 : Int) < (n : Int) := by omega
    have HB : Hid (okImg (filesOf L) = false) := by
      show _ = _
      rw [okImg, decide_eq_false (by rw [HO.out.2.2.2]; omega)]
      rfl
    go_enter Tryz.func30, Tryz.ntmps30
    go_wp2; go_ret; exact ⟨by rw [HB.out]; rfl, grownBy_refl _ _⟩
  · have e5 : ¬ (512 : Int) < (n : Int) := by omega
    go_enter Tryz.func30, Tryz.ntmps30
    go_wp2
    go_loopw [3, 11] (fun u i wr => ∃ k s : Nat, k ≤ n ∧ i = .int .i64 (k : Int) ∧ u = .int .i64 (s : Int) ∧ s = sumTo (filesOf L) k ∧ (∀ i, i < k → badAt (filesOf L) i = false) ∧ w.grownBy wr none) (fun _ i _ => n - (intOf i).toNat)
    case atStart => exact ⟨0, 0, Nat.zero_le _, rfl, rfl, rfl, fun i hi => absurd hi (by omega), grownBy_refl _ _⟩
    case round =>
      obtain ⟨k, s, hk, rfl, rfl, hs, hb, hGr⟩ := hrel; have HR : Hid (s = sumTo (filesOf L) k ∧ (∀ i, i < k → badAt (filesOf L) i = false) ∧ w.grownBy wr none) := ⟨hs, hb, hGr⟩
      have hsb : s ≤ 65536 * 512 := by rw [hs]; have := sumTo_le hb; omega
      clear hs hb hGr
      by_cases hlt : k < n
      · obtain ⟨e, he⟩ : ∃ e, L[k]? = some e := ⟨_, List.getElem?_eq_getElem (by rw [HO.out.2.2.1]; exact hlt)⟩; have hRk := HO.out.1.grown0 HR.out.2.2; obtain ⟨hf, hrd, b, off, hab, hc⟩ := hRk k e he; obtain ⟨t0, d1, a1, p1, rfl⟩ := fitFile hf; subst hab; have q0 : wr.cell? ⟨b, off + k * 2, none⟩ = some (.string t0) := hc 0 _ rfl; have q1 : wr.cell? ⟨b, off + k * 2 + 1, none⟩ = some (.slice a1 d1.length p1) := hc 1 _ rfl
        have hts : t0.size ≤ 1048576 := by have h1 := tot_sub (y := .str t0) (j := 0) he rfl; rw [tot_str] at h1; have := HO.out.2.1; omega
        have hdl : d1.length ≤ 1048576 := by have h1 := tot_sub (y := .byt d1 a1 p1) (j := 1) he rfl; rw [tot_byt] at h1; have := HO.out.2.1; omega
        have HF : Hid ((filesOf L)[k]? = some (t0, d1)) := filesOf_get he
        have HP : Hid (∀ j, k = j + 1 → ∃ s' : ByteArray, wr.cell? ⟨b, off + j * 2, none⟩ = some (.string s') ∧ nmAt (filesOf L) j = s') := fun j hj => by
          obtain ⟨e', he'⟩ : ∃ e, L[j]? = some e := ⟨_, List.getElem?_eq_getElem (by rw [HO.out.2.2.1]; omega)⟩; obtain ⟨hf', -, b', off', hab', hc'⟩ := hRk j e' he'; obtain ⟨t0', d1', a1', p1', rfl⟩ := fitFile hf'; simp only [Option.some.injEq, Addr.mk.injEq, and_true] at hab'; obtain ⟨rfl, rfl⟩ := hab'; exact ⟨t0', hc' 0 _ rfl, by rw [nmAt, filesOf_get he']; rfl⟩
        clear hc hf hrd he hRk; obtain ⟨g, hg⟩ : ∃ g, goodN t0 = g := ⟨_, rfl⟩
        have HG : Hid (∀ X : World, Calls Tryz.prog 44 #[.string t0] X fun e w' => e = .returned (.bool g) ∧ w' = X) := fun X => by rw [← hg]; exact goodName_any t0 X hts
        obtain ⟨bad, hbad⟩ : ∃ bad, badAt (filesOf L) k = bad := ⟨_, rfl⟩; have hbe := badAt_eq HF.out; rw [hbad, hg] at hbe; have HB : Hid (badAt (filesOf L) k = bad) := hbad; obtain ⟨dl, hdle⟩ : ∃ dl, d1.length = dl := ⟨_, rfl⟩; have HDL : Hid (d1.length = dl) := hdle; rw [hdle] at q1 hdl hbe; clear hg hbad hdle hts
        have hkI : (k : Int) < (n : Int) := by omega
        go_upto_region 7 with fail
        generalize hX : wr.alloc (.cells #[.string t0, .slice a1 dl p1] 55) = X
        have hXb : X.heap[wr.heap.size]? = some (.cells #[.string t0, .slice a1 dl p1] 55 (0, 0)) := by subst hX; exact heap_alloc_new wr _
        have HX : Hid (w.grownBy X none) := by subst hX; exact grownBy_alloc HR.out.2.2 _
        have c0 : X.cell? ⟨wr.heap.size, 0, none⟩ = some (.string t0) := (cell_of_row X _ _ _ _ _ hXb).trans rfl; have c1 : X.cell? ⟨wr.heap.size, 1, none⟩ = some (.slice a1 dl p1) := (cell_of_row X _ _ _ _ _ hXb).trans rfl
        have HPX : Hid (∀ j, k = j + 1 → ∃ s' : ByteArray, X.cell? ⟨b, off + j * 2, none⟩ = some (.string s') ∧ nmAt (filesOf L) j = s') := fun j hj => by
          obtain ⟨s', h1, h2⟩ := HP.out j hj; subst hX; exact ⟨s', ((bcell (World.grownBy_alloc wr _ none)).1 _ _ (cell_block_lt h1)).trans h1, h2⟩
        clear hX HP q0 q1
        go_cut [40] (fun t wx => t = .bool bad ∧ SameT X wx)
        case first =>
          cases g with
          | false =>
            obtain rfl : true = bad := by rw [hbe]; rfl
            clear hbe
            go_quiet (first | (go_at_call 44; refine Calls.quiet_of_same (HG.out _)) | fail)
            go_wp2_with fail; go_meet
            case rel => exact ⟨by first | rfl | simp, ⟨rfl, rfl, rfl, rfl⟩⟩
          | true =>
            by_cases hk0 : k = 0
            · subst hk0
              by_cases hl : 65536 < dl
              · have hlI : (65536 : Int) < (dl : Int) := by omega
                obtain rfl : true = bad := by rw [hbe]; simp [hl]
                clear hbe
                go_quiet (first | (go_at_call 44; refine Calls.quiet_of_same (HG.out _)) | fail)
                go_wp2_with fail; go_meet
                case rel => exact ⟨by first | rfl | simp, ⟨rfl, rfl, rfl, rfl⟩⟩
              · have hlI : ¬ (65536 : Int) < (dl : Int) := by omega
                obtain rfl : false = bad := by rw [hbe]; simp [hl]
                clear hbe
                go_quiet (first | (go_at_call 44; refine Calls.quiet_of_same (HG.out _)) | fail)
                go_wp2_with fail; go_meet
                case rel => exact ⟨by first | rfl | simp, ⟨rfl, rfl, rfl, rfl⟩⟩
            · obtain ⟨j, rfl⟩ : ∃ j, k = j + 1 := ⟨k - 1, by omega⟩; obtain ⟨s', cj, hs'⟩ := HPX.out j rfl; rw [show j + 1 - 1 = j by omega, hs'] at hbe
              have hjI : (0 : Int) < ((j + 1 : Nat) : Int) := by omega
              have hjn : (j : Int) < (n : Int) := by omega
              cases hls : Op.bytesLess s'.toList t0.toList with
              | false =>
                obtain rfl : true = bad := by rw [hbe, hls]; simp
                clear hbe
                by_cases hl : 65536 < dl
                · have hlI : (65536 : Int) < (dl : Int) := by omega
                  go_quiet (first | (go_at_call 44; refine Calls.quiet_of_same (HG.out _)) | fail)
                  go_wp2_with fail; go_meet
                  case rel => exact ⟨by first | rfl | simp, ⟨rfl, rfl, rfl, rfl⟩⟩
                · have hlI : ¬ (65536 : Int) < (dl : Int) := by omega
                  go_quiet (first | (go_at_call 44; refine Calls.quiet_of_same (HG.out _)) | fail)
                  go_wp2_with fail; go_meet
                  case rel => exact ⟨by first | rfl | simp, ⟨rfl, rfl, rfl, rfl⟩⟩
              | true =>
                by_cases hl : 65536 < dl
                · have hlI : (65536 : Int) < (dl : Int) := by omega
                  obtain rfl : true = bad := by rw [hbe, hls]; simp [hl]
                  clear hbe
                  go_quiet (first | (go_at_call 44; refine Calls.quiet_of_same (HG.out _)) | fail)
                  go_wp2_with fail; go_meet
                  case rel => exact ⟨by first | rfl | simp, ⟨rfl, rfl, rfl, rfl⟩⟩
                · have hlI : ¬ (65536 : Int) < (dl : Int) := by omega
                  obtain rfl : false = bad := by rw [hbe, hls]; simp [hl]
                  clear hbe
                  go_quiet (first | (go_at_call 44; refine Calls.quiet_of_same (HG.out _)) | fail)
                  go_wp2_with fail; go_meet
                  case rel => exact ⟨by first | rfl | simp, ⟨rfl, rfl, rfl, rfl⟩⟩
        case rest =>
          obtain ⟨rfl, hS⟩ := hcut; have HS : Hid (w.grownBy wc none) := grownBy_trans HX.out hS.grown; have d1' : wc.cell? ⟨wr.heap.size, 1, none⟩ = some (.slice a1 dl p1) := (World.cell?_of_block (by rw [hS.1])).trans c1; clear hS c0 c1 hXb HPX
          cases bad with
          | true =>
            have HQ : Hid (okImg (filesOf L) = false) := okImg_bad (i := k) (by rw [HO.out.2.2.2]; exact hlt) HB.out; clear hbe; go_wp2; go_ret; exact ⟨by rw [HQ.out]; rfl, HS.out⟩
          | false =>
            clear hbe; go_wp2; go_roundw
            case rel => exact ⟨k + 1, s + dl, by omega, by go_num, by go_num, by rw [sumTo, HF.out, HR.out.1, ← HDL.out]; rfl, fun i hi => by
              by_cases hik : i = k
              · rw [hik]; exact HB.out
              · exact HR.out.2.1 i (by omega), HS.out⟩
            case measure => simp [intOf]; omega
      · obtain rfl : k = n := by omega
        have HQ : Hid (okImg (filesOf L) = decide (s ≤ 262144)) := by
          show _ = _
          rw [okImg, decide_eq_true (show (filesOf L).length ≤ 512 by rw [HO.out.2.2.2]; omega), decide_eq_true (by rw [HO.out.2.2.2]; exact HR.out.2.1), HO.out.2.2.2, ← HR.out.1]
          rfl
        by_cases hs2 : s ≤ 262144
        · have hsI : (s : Int) ≤ 262144 := by omega
          go_wp2; go_ret; exact ⟨by rw [HQ.out, decide_eq_true hs2]; rfl, HR.out.2.2⟩
        · have hsI : ¬ (s : Int) ≤ 262144 := by omega
          go_wp2; go_ret; exact ⟨by rw [HQ.out, decide_eq_false hs2]; rfl, HR.out.2.2⟩
end Go.Proofs.YtgehhfncjoogiaaGreatDoor
namespace Go.Proofs.YtgehhfncjoogiaaGreatDoor
open Go.RowKit Go.Maps

theorem Bods.addF {w w' : World} {B : Nat} {ms : List Bd} (h : Bods w B ms) (hg : w.grownBy w' none) (hB : B ≤ w.heap.size) {m : Bd} (hm : BdAt w' B m) (hb : w.heap.size ≤ m.b) (hl : ∀ g, rowBlk m.lv = some g → w.heap.size ≤ g) (hs : ∀ g, rowBlk m.sv = some g → w.heap.size ≤ g) (hz : m.L.length ≤ 65536 ∧ m.S.length ≤ 65536) : Bods w' B (ms ++ [m]) := by
  have h' := h.grown0 hg
  have hold : ∀ x ∈ ms, ∀ g, (rowBlk x.lv = some g ∨ rowBlk x.sv = some g) → ¬ (rowBlk m.lv = some g ∨ rowBlk m.sv = some g) := fun x hx g hg hc => by
    have h9 := (h.each x hx).1.lt (.inr hg)
    rcases hc with hc | hc
    · have := hl g hc; omega
    · have := hs g hc; omega
  refine ⟨fun x hx => ?_, fun x hx => ?_, ?_, fun x hx y hy hne g hg' hc => ?_⟩
  · rcases List.mem_append.1 hx with h9 | h9
    · exact h'.each x h9
    · obtain rfl : x = m := by simpa using h9
      exact ⟨hm, hz⟩
  · rcases List.mem_append.1 hx with h9 | h9
    · exact h.low x h9
    · obtain rfl : x = m := by simpa using h9
      omega
  · rw [List.map_append]; refine List.nodup_append.2 ⟨h.one, by simp, fun a ha b hb' => ?_⟩; obtain ⟨x, hx, rfl⟩ := List.mem_map.1 ha
    obtain rfl : b = m.b := by simpa using hb'
    have := (h.each x hx).1.lt (.inl rfl)
    omega
  · rcases List.mem_append.1 hx with h9 | h9
    · rcases List.mem_append.1 hy with h8 | h8
      · exact h.apart x h9 y h8 hne g hg' hc
      · obtain rfl : y = m := by simpa using h8
        exact hold x h9 g hg' hc
    · obtain rfl : x = m := by simpa using h9
      rcases List.mem_append.1 hy with h8 | h8
      · exact hold y h8 g hc hg'
      · obtain rfl : y = x := by simpa using h8
        exact absurd rfl hne
theorem DkAt.addF {w w' : World} {B d : Nat} {M : Dk} {ms : List Bd} (h : DkAt w B d M ms) (hg : w.grownBy w' none) {m : Bd} (hm : BdAt w' B m) (hb : w.heap.size ≤ m.b) (hl : ∀ g, rowBlk m.lv = some g → w.heap.size ≤ g) (hs : ∀ g, rowBlk m.sv = some g → w.heap.size ≤ g) (hz : m.L.length ≤ 65536 ∧ m.S.length ≤ 65536) : DkAt w' B d M (ms ++ [m]) := by
  have h' := h.grown0 hg
  have hT : ∀ b, Has ms b → Has (ms ++ [m]) b := fun b hb => by
    unfold Has at hb ⊢
    rw [List.map_append]; exact List.mem_append_left _ hb
  exact ⟨h'.box, h'.dl, h'.ds, h'.ne, h'.low, h.bods.addF hg h.sizeB hm hb hl hs hz, h'.q, h'.chs, fun x hx => (h.refs x hx).to hT, h.refL.to hT, h.refS.to hT⟩
theorem DkAt.namesS {w w1 : World} {B d : Nat} {M : Dk} {ms : List Bd} (bs : List (ByteArray × Option Nat)) (h : DkAt w B d M ms) (hm : NMap w1 M.sb (M.N + bs.length) (bindD M.SD bs)) (hg : w.grownBy w1 (some M.sb)) (hb : ∀ y ∈ bs, ∀ b, y.2 = some b → Has ms b) :
    DkAt w1 B d { M with SD := bindD M.SD bs, N := M.N + bs.length } ms ∧ ∀ k, k < B → w1.heap[k]? = w.heap[k]? := by
  have hM : Moves [M.sb] [] w w1 := Moves.of_turn (Turn.of_grown (T := fun k => k = M.sb) hg (fun g hg => by cases hg; rfl)) (fun k _ hk => .inl (by simp [hk]))
  have hmp : ∀ k ∈ [M.sb], ∃ es ck, w.heap[k]? = some (.map es ck) := fun k hk => by
    simp only [List.mem_cons, List.not_mem_nil, or_false] at hk; subst hk; obtain ⟨es, ck, h1, -⟩ := h.ds; exact ⟨es, ck, h1⟩
  have hlow : ∀ k, k < B → w1.heap[k]? = w.heap[k]? := fun k hk => hg.block k (Nat.lt_of_lt_of_le hk h.sizeB) (by have := h.low.2.1; simp; omega)
  refine ⟨⟨hM.cells h.box (by simp) (fun hc => ?_), ?_, hm, h.ne, h.low, h.bods.moves hM (by simp) (by simp) hmp, own1_moves h.q (Nat.le_refl _) hM (by simp) hmp, fun x hx => (h.chs x hx).moves hM (by simp) hmp hlow, h.refs, h.refL, h.refS.bind h.ds.isMap bs hb⟩, hlow⟩
  · obtain ⟨es, ck, h9⟩ := hmp d hc; have := h.box; rw [h9] at this
    cases this
  · exact (hM.map h.dl (by simpa using h.ne)).mono (by show M.N ≤ M.N + _; omega)
def Img (w : World) (oa : Option Addr) (F : List (ByteArray × List Nat)) : Prop :=
  ∀ i s d, F[i]? = some (s, d) → s.size ≤ 1048576 ∧ d.length ≤ 65536 ∧ ∃ b off a1 p1, oa = some ⟨b, off, none⟩ ∧ w.cell? ⟨b, off + i * 2, none⟩ = some (.string s) ∧ w.cell? ⟨b, off + i * 2 + 1, none⟩ = some (.slice a1 d.length p1) ∧ SlB w a1 d.length d
theorem Img.grown0 {w w' : World} {oa : Option Addr} {F : List (ByteArray × List Nat)} (h : Img w oa F) (hg : w.grownBy w' none) : Img w' oa F := fun i s d hi => by
  obtain ⟨h1, h2, b, off, a1, p1, h3, h4, h5, h6⟩ := h i s d hi; obtain ⟨hc, -⟩ := bcell hg; exact ⟨h1, h2, b, off, a1, p1, h3, (hc _ _ (cell_block_lt h4)).trans h4, (hc _ _ (cell_block_lt h5)).trans h5, h6.grown0 hg⟩
def NewD (F : List (ByteArray × List Nat)) (cap : Int) (M : Dk) (P : Pb) (bs : List Nat) : Prop :=
  M.queue = [] ∧ M.cap = min (max cap 0) 262144 ∧ M.fuse = -1 ∧ M.off = false ∧ M.N = 2 * F.length ∧ bs.length = F.length ∧ P = (bs.zip F).map (fun x => (x.1, x.2.2, x.2.2)) ∧ M.LD = bindD (.map []) ((bs.zip F).map (fun x => (x.2.1, some x.1))) ∧ M.SD = bindD (.map []) ((bs.zip F).map (fun x => (x.2.1, some x.1)))
theorem bindD_snoc (D : DataW Unit) (bs : List (ByteArray × Option Nat)) (x : ByteArray × Option Nat) : bindD D (bs ++ [x]) = bindD (bindD D bs) [x] := by simp [bindD, List.foldl_append]
theorem NewD.snoc {F : List (ByteArray × List Nat)} {cap : Int} {M : Dk} {P : Pb} {bs : List Nat} (h : NewD F cap M P bs) (s : ByteArray) (d : List Nat) (b : Nat) (cn : Int) (lb sb : Nat) (qv : Value) :
    NewD (F ++ [(s, d)]) cap { M with LD := bindD M.LD [(s, some b)], SD := bindD M.SD [(s, some b)], N := M.N + 1 + 1, cnt := cn, lb := lb, sb := sb, qv := qv } (P ++ [(b, d, d)]) (bs ++ [b]) := by
  obtain ⟨h1, h2, h3, h4, h5, h6, h7, h8, h9⟩ := h
  have hz : (bs ++ [b]).zip (F ++ [(s, d)]) = bs.zip F ++ [(b, (s, d))] := by rw [List.zip_append h6]; rfl
  refine ⟨h1, h2, h3, h4, by simp [h5]; omega, by simp [h6], ?_, ?_, ?_⟩
  · rw [hz, h7]; simp
  · rw [hz, List.map_append, List.map_cons, List.map_nil, bindD_snoc, ← h8]
  · rw [hz, List.map_append, List.map_cons, List.map_nil, bindD_snoc, ← h9]
def NdOut (w w' : World) (B : Nat) (F : List (ByteArray × List Nat)) (cap : Int) (d : Nat) : Prop := ∃ M ms bs, DkAt w' B d M ms ∧ NewD F cap M (ms.map Bd.tell) bs ∧ w.grownBy w' none
set_option maxRecDepth 20000 in
set_option maxHeartbeats 8000000 in
theorem newDisk_any (oa : Option Addr) (n cp : Nat) (cap : Int) (F : List (ByteArray × List Nat)) (B : Nat) (w : World) (h : Img w oa F) (hn : F.length = n) (hl : n ≤ 100) (hB : B ≤ w.heap.size) :
    Calls Tryz.prog 31 #[.slice oa n cp, .int .i64 cap] w fun e w' => ∃ d, e = .returned (.pointer (some ⟨d, 0, none⟩)) ∧ NdOut w w' B F cap d := by
  have HI : Hid (Img w oa F ∧ F.length = n ∧ B ≤ w.heap.size) := ⟨h, hn, hB⟩
  have HBC : Hid (∀ X : World, Calls Tryz.prog 45 #[.int .i64 cap] X fun e w' => e = .returned (.int .i64 (min (max cap 0) 262144)) ∧ w' = X) := fun X => boundCap_any cap X
  have hmm := @run_makeMap Tryz.prog; clear h hn hB; obtain ⟨cb, hcb⟩ : ∃ y, min (max cap 0) 262144 = y := ⟨_, rfl⟩; rw [hcb] at HBC; have HCB : Hid (min (max cap 0) 262144 = cb) := hcb; clear hcb
  go_enter Tryz.func31, Tryz.ntmps31
  go_wp2_with fail; refine (HBC.out _).mono ?_; rintro e w1 ⟨rfl, hw1⟩; subst hw1; clear HBC; go_wp2
  have hs2 : ((w.alloc (.map #[] 0)).alloc (.map #[] 0)).heap.size = w.heap.size + 1 + 1 := by simp
  have hs1 : (w.alloc (.map #[] 0)).heap.size = w.heap.size + 1 := by simp
  obtain ⟨d, hd⟩ : ∃ y, w.heap.size + 1 + 1 = y := ⟨_, rfl⟩
  have HST : Hid (∃ M ms bs, DkAt (((w.alloc (.map #[] 0)).alloc (.map #[] 0)).alloc (.cells #[.map (some w.heap.size), .map (some (w.heap.size + 1)), .slice none 0 0, .int .i64 cb, .int .i64 (-1), .bool false, .int .i64 0] 90)) B d M ms ∧ NewD (F.take 0) cap M (ms.map Bd.tell) bs ∧ w.grownBy (((w.alloc (.map #[] 0)).alloc (.map #[] 0)).alloc (.cells #[.map (some w.heap.size), .map (some (w.heap.size + 1)), .slice none 0 0, .int .i64 cb, .int .i64 (-1), .bool false, .int .i64 0] 90)) none ∧ w.heap.size ≤ M.lb ∧ w.heap.size ≤ M.sb) := by
    have hBw := HI.out.2.2; refine ⟨⟨w.heap.size, w.heap.size + 1, 0, .map [], .map [], .slice none 0 0, [], cb, -1, false, 0⟩, [], [], ⟨?_, ?_, ?_, by simp, ⟨hBw, by show B ≤ w.heap.size + 1; omega, by omega⟩, ⟨by simp, by simp, by simp, by simp⟩, World.ownsRow_nil _ _ _ _, by simp, by simp, ?_, ?_⟩, ?_, ?_, Nat.le_refl _, Nat.le_succ _⟩
    · rw [← hd, ← hs2]; exact heap_alloc_new _ _
    · exact ((World.ownsMap_made w Tryz.prog 9 ptrE).alloc _).alloc _
    · have h9 := (World.ownsMap_made (w.alloc (.map #[] 0)) Tryz.prog 9 ptrE).alloc (.cells #[.map (some w.heap.size), .map (some (w.heap.size + 1)), .slice none 0 0, .int .i64 cb, .int .i64 (-1), .bool false, .int .i64 0] 90); rw [hs1] at h9; exact h9
    · exact ⟨fun k b hk => (by cases hk), fun k zd hk => hk⟩
    · exact ⟨fun k b hk => (by cases hk), fun k zd hk => hk⟩
    · exact ⟨rfl, HCB.out.symm, rfl, rfl, rfl, rfl, rfl, rfl, rfl⟩
    · exact grownBy_alloc (grownBy_alloc (grownBy_alloc (grownBy_refl _ _) _) _) _
  generalize ((w.alloc (.map #[] 0)).alloc (.map #[] 0)).alloc (.cells #[.map (some w.heap.size), .map (some (w.heap.size + 1)), .slice none 0 0, .int .i64 cb, .int .i64 (-1), .bool false, .int .i64 0] 90) = W0 at HST ⊢; rw [hd]; clear hs1 hs2 hmm; have HDD : Hid (w.heap.size + 1 + 1 = d) := hd; clear hd
  try go_frame
  go_loopw [17] (fun iv wr => ∃ (k : Nat) (M : Dk) (ms : List Bd) (bs : List Nat), k ≤ n ∧ iv = .int .i64 (k : Int) ∧ DkAt wr B d M ms ∧ NewD (F.take k) cap M (ms.map Bd.tell) bs ∧ w.grownBy wr none ∧ w.heap.size ≤ M.lb ∧ w.heap.size ≤ M.sb) (fun iv _ => n - (intOf iv).toNat)
  case atStart =>
    obtain ⟨M, ms, bs, h1, h2, h3⟩ := HST.out; exact ⟨0, M, ms, bs, Nat.zero_le _, rfl, h1, h2, h3⟩
  case round =>
    obtain ⟨k, M, ms, bs, hk, rfl, h1, h2, h3, h4, h5⟩ := hrel; have HLW : Hid (w.heap.size ≤ M.lb ∧ w.heap.size ≤ M.sb) := ⟨h4, h5⟩; clear h4 h5; have HR : Hid (DkAt wr B d M ms ∧ NewD (F.take k) cap M (ms.map Bd.tell) bs ∧ w.grownBy wr none) := ⟨h1, h2, h3⟩; clear h1 h2 h3 HST
    by_cases hlt : k < n
    · obtain ⟨x, hx⟩ : ∃ x, F[k]? = some x := ⟨_, List.getElem?_eq_getElem (by rw [HI.out.2.1]; exact hlt)⟩; obtain ⟨s, dd⟩ := x; obtain ⟨hsz, hdz, b, off, a1, p1, hab, q0, q1, hsl⟩ := (HI.out.1.grown0 HR.out.2.2) k s dd hx; subst hab; obtain ⟨dl, hdl⟩ : ∃ y, dd.length = y := ⟨_, rfl⟩; rw [hdl] at q1 hsl hdz; have HF : Hid (F[k]? = some (s, dd) ∧ dd.length = dl ∧ SlB wr a1 dl dd ∧ s.size ≤ 1048576) := ⟨hx, hdl, hsl, hsz⟩; clear hx hdl hsl
      have hkI : (k : Int) < (n : Int) := by omega
      have v1 : IntKind.i64.wrap ((k : Int) + 1) = (k : Int) + 1 := IntWalk.i64_in _ (by omega)
      go_upto_region 5 with fail
      have hXb : (wr.alloc (.cells #[.string s, .slice a1 dl p1] 55)).heap[wr.heap.size]? = some (.cells #[.string s, .slice a1 dl p1] 55 (0, 0)) := heap_alloc_new wr _; have HX : Hid (wr.grownBy (wr.alloc (.cells #[.string s, .slice a1 dl p1] 55)) none ∧ (wr.alloc (.cells #[.string s, .slice a1 dl p1] 55)).heap[wr.heap.size]? = some (.cells #[.string s, .slice a1 dl p1] 55 (0, 0))) := ⟨World.grownBy_alloc wr _ none, hXb⟩; generalize wr.alloc (.cells #[.string s, .slice a1 dl p1] 55) = X at HX hXb ⊢; have hS : X.drew.cell? ⟨wr.heap.size, 1, none⟩ = some (.slice a1 dl p1) := (zCr hXb).trans rfl; have HC1 : Hid (Calls _ _ _ _ _) := clone_any a1 dl p1 dd B X.drew ((HF.out.2.2.1.grown0 HX.out.1).heap rfl) (by omega) (Nat.le_trans HR.out.1.sizeB HX.out.1.size); clear hXb q0 q1; refine wp_region_Z (fun Y => Y.cell? ⟨wr.heap.size, 1, none⟩ = some (.slice a1 dl p1)) (fun _ => false) (by kernel_rfl) ?_; refine zTk 0 ?_; simp only [Act.put, zq1, zq2, zq3]; refine zLs 1 rfl hS (by intro W hW; have c0 := hW; go_simp; first | done | with_reducible rfl) ?_; simp only [Act.put, zq1, zq2, zq3]; refine zTk 3 ?_; simp only [Act.put, zq1, zq2, zq3]; refine zLs 4 rfl hS (by intro W hW; have c0 := hW; go_simp; first | done | with_reducible rfl) ?_; simp only [Act.put, zq1, zq2, zq3]; refine wpAnyZ_one' (i := 2) (by kernel_rfl) rfl (fun K hK => ?_); go_simp; go_at_call 46; refine HC1.out.mono ?_; rintro e w1 ⟨v1', rfl, hv1, hg1, hf1⟩; have HG1 : Hid (BRow w1 B v1' dd ∧ wr.grownBy w1 none ∧ ∀ g, rowBlk v1' = some g → wr.heap.size ≤ g) := ⟨hv1, grownBy_trans (grownBy_drew HX.out.1) hg1, fun g hg => Nat.le_trans HX.out.1.size (hf1 g hg)⟩; have hXd : w1.heap[wr.heap.size]? = some (.cells #[.string s, .slice a1 dl p1] 55 (0, 0)) := grown_blk hg1 HX.out.2; refine hK.out _ _ (fun _ _ => (zCr hXd).trans rfl) ?_; clear hK K; (try simp only [Act.put, zq1, zq2, zq3]); have HC2 : Hid (Calls _ _ _ _ _) := clone_any a1 dl p1 dd B w1 (HF.out.2.2.1.grown0 HG1.out.2.1) (by omega) (Nat.le_trans HR.out.1.sizeB HG1.out.2.1.size); obtain ⟨oa1, cp1, hv1e, -⟩ := hv1.is; rw [HF.out.2.1] at hv1e; subst hv1e; clear hv1 hg1 hf1 HC1; refine wpAnyZ_one' (i := 5) (by kernel_rfl) rfl (fun K hK => ?_); go_simp; go_at_call 46; refine HC2.out.mono ?_; rintro e w2 ⟨v2', rfl, hv2, hg2, hf2⟩; have HG2 : Hid (BRow w2 B v2' dd ∧ w1.grownBy w2 none ∧ ∀ g, rowBlk v2' = some g → w1.heap.size ≤ g) := ⟨hv2, hg2, hf2⟩; have hXd2 : w2.heap[wr.heap.size]? = some (.cells #[.string s, .slice a1 dl p1] 55 (0, 0)) := grown_blk hg2 hXd; refine hK.out _ _ (fun _ _ => (zCr hXd2).trans rfl) ?_; clear hK K hXd; (try simp only [Act.put, zq1, zq2, zq3]); obtain ⟨oa2, cp2, hv2e, -⟩ := hv2.is; rw [HF.out.2.1] at hv2e; subst hv2e; clear hv2 hg2 hf2 HC2; refine zTk 6 ?_; simp only [Act.put, zq1, zq2, zq3]; refine wpAnyZ_one' (i := 7) (by kernel_rfl) rfl (fun K hK => ?_); go_simp; have hs3 : (w2.alloc (.cells #[.slice oa1 dl cp1, .slice oa2 dl cp2, .int .i64 0] 93)).heap[w2.heap.size]? = some (.cells #[.slice oa1 dl cp1, .slice oa2 dl cp2, .int .i64 0] 93 (0, 0)) := heap_alloc_new w2 _; have hg3 : w2.grownBy (w2.alloc (.cells #[.slice oa1 dl cp1, .slice oa2 dl cp2, .int .i64 0] 93)) none := World.grownBy_alloc w2 _ none; have hXd3 := grown_blk hg3 hXd2; refine hK.out _ _ (fun _ _ => (zCr hXd3).trans rfl) ?_; clear hK K hS; (try simp only [Act.put, zq1, zq2, zq3]); obtain ⟨nb, hnb⟩ : ∃ y, w2.heap.size = y := ⟨_, rfl⟩; rw [hnb] at hs3 ⊢; have HB : Hid (w2.heap.size = nb ∧ w2.grownBy (w2.alloc (.cells #[.slice oa1 dl cp1, .slice oa2 dl cp2, .int .i64 0] 93)) none) := ⟨hnb, hg3⟩; clear hnb hg3 hXd2; generalize w2.alloc (.cells #[.slice oa1 dl cp1, .slice oa2 dl cp2, .int .i64 0] 93) = w3 at HB hs3 hXd3 ⊢; refine zTk 8 ?_; simp only [Act.put, zq1, zq2, zq3]; refine wpAnyZ_done (by kernel_rfl) ?_ _
      have HD3 : Hid (DkAt w3 B d M (ms ++ [⟨nb, .slice oa1 dl cp1, .slice oa2 dl cp2, dd, dd, 0⟩]) ∧ wr.grownBy w3 none ∧ w3.heap[wr.heap.size]? = some (.cells #[.string s, .slice a1 dl p1] 55 (0, 0))) := by
        have hg13 : w1.grownBy w3 none := grownBy_trans HG2.out.2.1 HB.out.2; have hgr3 : wr.grownBy w3 none := grownBy_trans HG1.out.2.1 hg13; have g1s := HG1.out.2.1.size; have g2s := HG2.out.2.1.size; have hnb := HB.out.1; refine ⟨HR.out.1.addF hgr3 ⟨hs3, HG1.out.1.grown0 hg13, HG2.out.1.grown0 HB.out.2, fun g hg hc => ?_⟩ (by show wr.heap.size ≤ nb; omega) (fun g hg => HG1.out.2.2 g hg) (fun g hg => Nat.le_trans g1s (HG2.out.2.2 g hg)) ⟨by show dd.length ≤ 65536; rw [HF.out.2.1]; exact hdz, by show dd.length ≤ 65536; rw [HF.out.2.1]; exact hdz⟩, hgr3, hXd3⟩; have h8 := (HG1.out.1.base hg).2.1; have h9 := HG2.out.2.2 g hc
        omega
      clear HB HG1 HG2 hs3 hXd3 HX
      go_upto_region 6 with fail
      have c0 : w3.cell? ⟨d, 0, none⟩ = some (.map (some M.lb)) := (zCr HD3.out.1.box).trans rfl; have cf0 : w3.cell? ⟨wr.heap.size, 0, none⟩ = some (.string s) := (zCr HD3.out.2.2).trans rfl; have hS : w3.drew.cell? ⟨d, 0, none⟩ = some (.map (some M.lb)) ∧ w3.drew.cell? ⟨wr.heap.size, 0, none⟩ = some (.string s) := ⟨c0, cf0⟩
      have HNn : Hid (M.N + 2 < maxLen) := by
        have h9 := HR.out.2.1.2.2.2.2.1
        have h8 : (F.take k).length ≤ 100 := by rw [List.length_take]; omega
        show M.N + 2 < maxLen
        unfold maxLen
        omega
      obtain ⟨w4, hrun4, hN4, hT4⟩ := HD3.out.1.dl.drew.update keyS undMap (by have := HNn.out; omega) (keyOfS (s := s) (by have := HF.out.2.2.2; unfold maxLen; omega)) (ptrE_mk (some nb)); refine wp_region_Z (fun Y => Y.cell? ⟨d, 0, none⟩ = some (.map (some M.lb)) ∧ Y.cell? ⟨wr.heap.size, 0, none⟩ = some (.string s)) (fun _ => false) (by kernel_rfl) ?_; refine zTk 0 ?_; simp only [Act.put, zq1, zq2, zq3]; refine zTk 1 ?_; simp only [Act.put, zq1, zq2, zq3]; refine zTk 2 ?_; simp only [Act.put, zq1, zq2, zq3]; refine zLs 3 rfl hS (by intro W hW; have c0 := hW.1; go_simp; first | done | with_reducible rfl) ?_; simp only [Act.put, zq1, zq2, zq3]; refine zTk 4 ?_; simp only [Act.put, zq1, zq2, zq3]; refine zLs 5 rfl hS (by intro W hW; have c0 := hW.2; go_simp; first | done | with_reducible rfl) ?_; simp only [Act.put, zq1, zq2, zq3]; refine zTk 6 ?_; simp only [Act.put, zq1, zq2, zq3]; refine wpAnyZ_one' (i := 7) (by kernel_rfl) rfl (fun K hK => ?_); simp only [bP] at hrun4; go_simp
      have HD4 : Hid (DkAt w4 B d { M with LD := bindD M.LD [(s, some nb)], N := M.N + 1 } (ms ++ [⟨nb, .slice oa1 dl cp1, .slice oa2 dl cp2, dd, dd, 0⟩]) ∧ w.grownBy w4 none ∧ w4.heap[wr.heap.size]? = some (.cells #[.string s, .slice a1 dl p1] 55 (0, 0))) := by
        have h3d := HD3.out.1.grown0 (grownBy_drew (grownBy_refl w3 none))
        have hnm := h3d.names [(s, some nb)] hN4 hT4 (fun y hy b' hb' => by
          obtain rfl : y = (s, some nb) := by simpa using hy
          obtain rfl : nb = b' := by simpa using hb'
          unfold Has
          simp)
        refine ⟨hnm.1, ?_, ?_⟩
        · exact grownBy_new (grownBy_drew (grownBy_trans HR.out.2.2 HD3.out.2.1)) hT4 HLW.out.1
        · refine (hT4.block wr.heap.size (Array.getElem?_eq_some_iff.1 HD3.out.2.2).1 (fun hc => ?_)).trans HD3.out.2.2; obtain ⟨es, ck, q1, -⟩ := HD3.out.1.dl; have h9 := HD3.out.2.2; rw [show wr.heap.size = M.lb by simpa using hc, q1] at h9
          cases h9
      have c0' : w4.cell? ⟨d, 0, none⟩ = some (.map (some M.lb)) := (zCr HD4.out.1.box).trans rfl; have cf0' : w4.cell? ⟨wr.heap.size, 0, none⟩ = some (.string s) := (zCr HD4.out.2.2).trans rfl; refine hK.out _ _ (fun _ _ => ⟨c0', cf0'⟩) ?_; clear hK K hS c0' hN4 hT4 hrun4 c0 cf0; (try simp only [Act.put, zq1, zq2, zq3]); refine wpAnyZ_done (by kernel_rfl) ?_ _; clear HD3
      go_upto_region 7 with fail
      have c0 : w4.cell? ⟨d, 1, none⟩ = some (.map (some M.sb)) := (zCr HD4.out.1.box).trans rfl; have hS : w4.drew.cell? ⟨d, 1, none⟩ = some (.map (some M.sb)) ∧ w4.drew.cell? ⟨wr.heap.size, 0, none⟩ = some (.string s) := ⟨c0, cf0'⟩; obtain ⟨w5, hrun5, hN5, hT5⟩ := HD4.out.1.ds.drew.update keyS undMap (by have := HNn.out; show M.N + 1 < maxLen; omega) (keyOfS (s := s) (by have := HF.out.2.2.2; unfold maxLen; omega)) (ptrE_mk (some nb)); refine wp_region_Z (fun Y => Y.cell? ⟨d, 1, none⟩ = some (.map (some M.sb)) ∧ Y.cell? ⟨wr.heap.size, 0, none⟩ = some (.string s)) (fun _ => false) (by kernel_rfl) ?_; refine zTk 0 ?_; simp only [Act.put, zq1, zq2, zq3]; refine zTk 1 ?_; simp only [Act.put, zq1, zq2, zq3]; refine zTk 2 ?_; simp only [Act.put, zq1, zq2, zq3]; refine zLs 3 rfl hS (by intro W hW; have c0 := hW.1; go_simp; first | done | with_reducible rfl) ?_; simp only [Act.put, zq1, zq2, zq3]; refine zTk 4 ?_; simp only [Act.put, zq1, zq2, zq3]; refine zLs 5 rfl hS (by intro W hW; have c0 := hW.2; go_simp; first | done | with_reducible rfl) ?_; simp only [Act.put, zq1, zq2, zq3]; refine zTk 6 ?_; simp only [Act.put, zq1, zq2, zq3]; refine wpAnyZ_one' (i := 7) (by kernel_rfl) rfl (fun K hK => ?_); simp only [bP] at hrun5; go_simp
      have HD5 : Hid (DkAt w5 B d { M with LD := bindD M.LD [(s, some nb)], SD := bindD M.SD [(s, some nb)], N := M.N + 1 + 1 } (ms ++ [⟨nb, .slice oa1 dl cp1, .slice oa2 dl cp2, dd, dd, 0⟩]) ∧ w.grownBy w5 none) := by
        have h4d := HD4.out.1.grown0 (grownBy_drew (grownBy_refl w4 none))
        have hnm := h4d.namesS [(s, some nb)] hN5 hT5 (fun y hy b' hb' => by
          obtain rfl : y = (s, some nb) := by simpa using hy
          obtain rfl : nb = b' := by simpa using hb'
          unfold Has
          simp)
        exact ⟨hnm.1, grownBy_new (grownBy_drew HD4.out.2.1) hT5 HLW.out.2⟩
      have hXd5 : w5.heap[wr.heap.size]? = some (.cells #[.string s, .slice a1 dl p1] 55 (0, 0)) := by
        refine (hT5.block wr.heap.size (Array.getElem?_eq_some_iff.1 HD4.out.2.2).1 (fun hc => ?_)).trans HD4.out.2.2; obtain ⟨es, ck, q1, -⟩ := HD4.out.1.ds; have h9 := HD4.out.2.2; rw [show wr.heap.size = M.sb by simpa using hc, q1] at h9
        cases h9
      refine hK.out _ _ (fun _ _ => ⟨(zCr HD5.out.1.box).trans rfl, (zCr hXd5).trans rfl⟩) ?_; clear hXd5; clear hK K hS c0 hN5 hT5 hrun5 cf0'; (try simp only [Act.put, zq1, zq2, zq3]); refine wpAnyZ_done (by kernel_rfl) ?_ _; clear HD4; go_wp2; go_roundw
      case rel =>
        refine ⟨k + 1, _, _, bs ++ [nb], hlt, by go_num, HD5.out.1, ?_, HD5.out.2, HLW.out.1, HLW.out.2⟩
        have e9 : F.take (k + 1) = F.take k ++ [(s, dd)] := by rw [List.take_add_one, HF.out.1]; rfl
        rw [e9]; have h9 := HR.out.2.1.snoc s dd nb M.cnt M.lb M.sb M.qv; simp only [List.map_append, List.map_cons, List.map_nil, Bd.tell]; exact h9
      case measure => simp [intOf]; omega
    · obtain rfl : k = n := by omega
      have hkI : ¬ (k : Int) < (k : Int) := by omega
      go_wp2; go_ret; have e9 : F.take k = F := List.take_of_length_le (by rw [HI.out.2.1]; exact Nat.le_refl _); have h9 := HR.out.2.1; rw [e9] at h9; exact ⟨d, rfl, M, ms, bs, HR.out.1, h9, HR.out.2.2⟩
end Go.Proofs.YtgehhfncjoogiaaGreatDoor
namespace Go.Proofs.YtgehhfncjoogiaaGreatDoor
open Go.RowKit

theorem grownBy_to {a b c : World} {row : Option Nat} (h : a.grownBy b none) (k : b.grownBy c row) : a.grownBy c row :=
  ⟨k.os.trans h.os, k.tape.trans h.tape, k.output.trans h.output, Nat.le_trans h.size k.size, fun i hi hne => (k.block i (Nat.lt_of_lt_of_le hi h.size) hne).trans (h.block i hi (by simp))⟩
theorem wpList_app1 {P : Program} {w0 : World} {ops : Array Oper} {rest : List Oper} {o : Oper} {a : Act} {Q : Exit → Act → World → Prop} (hgd : o.guard = none) (s x : Operand) (t : TypeId)
    (ho : o.op = .call { callee := .builtin .append, args := #[s, x], argTypes := #[t, t] })
    (base : Nat) (e : TypeId) {z : Value} {size bytes : Nat} (ht : P.underlying t = some (.slice e)) (hi : (P.info? e).map (fun i => (i.zero, i.size, i.bytes)) = some (some z, size, bytes)) (hzs : z.cells.size = size) (hsz : 0 < size)
    (v : Value) (n : Nat) (xs : List Value) (hs : a.eval s = v) (hown : w0.ownsRow base e size v n xs)
    (news : Array Value) (g : Nat) (hg : w0.heap.size = g) (hx : a.eval x = .slice (some ⟨g, 0, none⟩) 1 1) (hl : news.size = size) (h1 : news.toList.all (·.oneCell') = true)
    (hn : n + 1 ≤ 10000000) (hb : bytes ≤ 1000) (hbase : base ≤ w0.heap.size)
    (h : ∀ v' w', w'.ownsRow base e size v' (n + 1) (xs ++ news.toList) → w0.grownBy w' v.ownBlock → (∃ oa c, v' = .slice oa (n + 1) c) → wpList P ops Q rest (a.put o.dst v') w') : wpList P ops Q (o :: rest) a (w0.alloc (.cells news e)) := by
  obtain ⟨i, hi, hz⟩ := Option.map_eq_some_iff.1 hi; simp only [Prod.mk.injEq] at hz; have hnew := heap_alloc_new w0 (.cells news e); refine wpList_append_own (w0.alloc (.cells news e)) hgd s x t ho base e i z size bytes ht hi hz.1 hz.2.1 hz.2.2 hzs hsz v n xs hs (own1_grown hown (World.grownBy_alloc _ _ none)) ⟨g, 0, none⟩ 1 1 news.toList hx (by simpa using hl) (fun j u hj => ?_) (fun u hu => ?_) (by unfold maxLen; omega) ?_ (Nat.le_trans hbase (World.grownBy_alloc w0 (.cells news e) none).size) (fun v' w' h2 h3 _ => h v' w' h2 (grownBy_to (World.grownBy_alloc w0 _ none) h3) ?_)
  · subst hg; have e9 : Addr.add ⟨w0.heap.size, 0, none⟩ j = ⟨w0.heap.size, 0 + j, none⟩ := Addr.add_mid _ _ _; rw [e9, Nat.zero_add, zCr hnew]
    simpa using hj
  · exact List.all_eq_true.1 h1 u hu
  · have h9 : (n + 1) * bytes ≤ 10000000 * 1000 := Nat.mul_le_mul hn hb
    omega
  · obtain ⟨oa, c, h9⟩ := own1_is h2; exact ⟨oa, c, h9⟩
theorem run_app1 {P : Program} {w0 : World} (t ty : TypeId) (base : Nat) (e : TypeId) {z : Value} {size bytes : Nat} (ht : P.underlying t = some (.slice e)) (hi : (P.info? e).map (fun i => (i.zero, i.size, i.bytes)) = some (some z, size, bytes)) (hzs : z.cells.size = size) (hsz : 0 < size)
    (v : Value) (n : Nat) (xs : List Value) (hown : w0.ownsRow base e size v n xs) (news : Array Value) (g : Nat) (hg : w0.heap.size = g) (hl : news.size = size) (h1 : news.toList.all (·.oneCell') = true) (hn : n + 1 ≤ 10000000) (hb : bytes ≤ 1000) (hbase : base ≤ w0.heap.size) :
    ∃ oa c w', (Builtin.append_ #[t, t] ty #[v, .slice (some ⟨g, 0, none⟩) 1 1]).run P (w0.alloc (.cells news e)) = .ok (.slice oa (n + 1) c) w' ∧ w'.ownsRow base e size (.slice oa (n + 1) c) (n + 1) (xs ++ news.toList) ∧ w0.grownBy w' v.ownBlock := by
  obtain ⟨i, hi, hz⟩ := Option.map_eq_some_iff.1 hi; simp only [Prod.mk.injEq] at hz; have hnew := heap_alloc_new w0 (.cells news e)
  obtain ⟨v', w', hrun, h2, h3, -⟩ := run_append_own (P := P) (w0.alloc (.cells news e)) base t ty e i z size bytes ht hi hz.1 hz.2.1 hz.2.2 hzs hsz v n xs (own1_grown hown (World.grownBy_alloc _ _ none)) ⟨g, 0, none⟩ 1 1 news.toList (by simpa using hl) (fun j u hj => by
    subst hg; have e9 : Addr.add ⟨w0.heap.size, 0, none⟩ j = ⟨w0.heap.size, 0 + j, none⟩ := Addr.add_mid _ _ _; rw [e9, Nat.zero_add, zCr hnew]
    simpa using hj) (fun u hu => List.all_eq_true.1 h1 u hu) (by unfold maxLen; omega) (by
    have h9 : (n + 1) * bytes ≤ 10000000 * 1000 := Nat.mul_le_mul hn hb
    omega) (Nat.le_trans hbase (World.grownBy_alloc w0 (.cells news e) none).size)
  obtain ⟨oa, c, rfl⟩ := own1_is h2; exact ⟨oa, c, w', hrun, h2, grownBy_to (World.grownBy_alloc w0 _ none) h3⟩
end Go.Proofs.YtgehhfncjoogiaaGreatDoor
namespace Go.Proofs.YtgehhfncjoogiaaGreatDoor
open Go.Proofs Go.Shelf
def Tryz.lays190_ren : Go.Shelf.Ren := ⟨fun | 190 => 63 | 125 => 73 | 258 => 72 | 128 => 86 | 129 => 87 | 302 => 77 | 303 => 78 | 304 => 79 | 305 => 80 | 306 => 81 | 307 => 82 | 308 => 83 | 309 => 84 | 310 => 85 | 333 => 88 | 329 => 89 | 330 => 90 | 334 => 91 | 335 => 92 | 336 => 93 | 344 => 94 | n => n, fun | 31 => 52 | 9 => 9 | 3 => 3 | 46 => 71 | 0 => 0 | 51 => 173 | 53 => 49 | 4 => 4 | 183 => 165 | 182 => 164 | 131 => 170 | 5 => 5 | 218 => 175 | 222 => 179 | 228 => 181 | 229 => 182 | n => n, fun | n => n⟩
theorem Tryz.lays190 : Go.Proofs.Lays.n190 Tryz.prog Tryz.lays190_ren := {
  mixed := by kernel_rfl
  f125 := Tryz.func73.trans (congrArg some (by kernel_rfl))
  f128 := Tryz.func86.trans (congrArg some (by kernel_rfl))
  f129 := Tryz.func87.trans (congrArg some (by kernel_rfl))
  f190 := Tryz.func63.trans (congrArg some (by kernel_rfl))
  f258 := Tryz.func72.trans (congrArg some (by kernel_rfl))
  f302 := Tryz.func77.trans (congrArg some (by kernel_rfl))
  f303 := Tryz.func78.trans (congrArg some (by kernel_rfl))
  f304 := Tryz.func79.trans (congrArg some (by kernel_rfl))
  f305 := Tryz.func80.trans (congrArg some (by kernel_rfl))
  f306 := Tryz.func81.trans (congrArg some (by kernel_rfl))
  f307 := Tryz.func82.trans (congrArg some (by kernel_rfl))
  f308 := Tryz.func83.trans (congrArg some (by kernel_rfl))
  f309 := Tryz.func84.trans (congrArg some (by kernel_rfl))
  f310 := Tryz.func85.trans (congrArg some (by kernel_rfl))
  f329 := Tryz.func89.trans (congrArg some (by kernel_rfl))
  f330 := Tryz.func90.trans (congrArg some (by kernel_rfl))
  f333 := Tryz.func88.trans (congrArg some (by kernel_rfl))
  f334 := Tryz.func91.trans (congrArg some (by kernel_rfl))
  f335 := Tryz.func92.trans (congrArg some (by kernel_rfl))
  f336 := Tryz.func93.trans (congrArg some (by kernel_rfl))
  f344 := Tryz.func94.trans (congrArg some (by kernel_rfl))
  t0 := Tryz.underlying0
  a0 := Tryz.isAgg0
  z0 := Tryz.sizeOf0
  v0 := Tryz.zeroValue0
  t3 := Tryz.underlying3
  a3 := Tryz.isAgg3
  z3 := Tryz.sizeOf3
  v3 := Tryz.zeroValue3
  t4 := Tryz.underlying4
  a4 := Tryz.isAgg4
  z4 := Tryz.sizeOf4
  v4 := Tryz.zeroValue4
  t5 := Tryz.underlying5
  a5 := Tryz.isAgg5
  z5 := Tryz.sizeOf5
  v5 := Tryz.zeroValue5
  t9 := Tryz.underlying9
  a9 := Tryz.isAgg9
  z9 := Tryz.sizeOf9
  v9 := Tryz.zeroValue9
  t31 := Tryz.underlying52
  a31 := Tryz.isAgg52
  z31 := Tryz.sizeOf52
  v31 := Tryz.zeroValue52
  t46 := Tryz.underlying71
  a46 := Tryz.isAgg71
  z46 := Tryz.sizeOf71
  v46 := Tryz.zeroValue71
  t51 := Tryz.underlying173
  a51 := Tryz.isAgg173
  z51 := Tryz.sizeOf173
  v51 := Tryz.zeroValue173
  t53 := Tryz.underlying49
  a53 := Tryz.isAgg49
  z53 := Tryz.sizeOf49
  v53 := Tryz.zeroValue49
  t131 := Tryz.underlying170
  a131 := Tryz.isAgg170
  z131 := Tryz.sizeOf170
  v131 := Tryz.zeroValue170
  t182 := Tryz.underlying164
  a182 := Tryz.isAgg164
  z182 := Tryz.sizeOf164
  v182 := Tryz.zeroValue164
  t183 := Tryz.underlying165
  a183 := Tryz.isAgg165
  z183 := Tryz.sizeOf165
  v183 := Tryz.zeroValue165
  t218 := Tryz.underlying175
  a218 := Tryz.isAgg175
  z218 := Tryz.sizeOf175
  v218 := Tryz.zeroValue175
  t222 := Tryz.underlying179
  a222 := Tryz.isAgg179
  z222 := Tryz.sizeOf179
  v222 := Tryz.zeroValue179
  t228 := Tryz.underlying181
  a228 := Tryz.isAgg181
  z228 := Tryz.sizeOf181
  v228 := Tryz.zeroValue181
  t229 := Tryz.underlying182
  a229 := Tryz.isAgg182
  z229 := Tryz.sizeOf182
  v229 := Tryz.zeroValue182 }
open Go.Sort Go.RowKit in
theorem Tryz.slices_Sort_string (blk off cap : Nat) (ss : List (List UInt8)) (w : World) (hH : Holds encStr w blk off ss.toArray) (hblk : blk < w.heap.size) (hsz : ss.length < 4611686018427387904) :
    Calls Tryz.prog 63 #[.slice (some ⟨blk, off, none⟩) ss.length cap] w fun e w' =>
      e = .returned (.tuple #[]) ∧ ∃ n os, w' = grow (putRow encStr (Sort.ahead w n) blk off (ss.mergeSort fun x y => decide (x ≤ y)).toArray) os := Any.slices_Sort_string Tryz.lays190 blk off cap ss w hH hblk hsz
open Go.RowKit Go.Sort in
theorem Tryz.slices_Sort_string_none (p : Option Addr) (cap : Nat) (w : World) :
    Calls Tryz.prog 63 #[.slice p 0 cap] w fun e w' => e = .returned (.tuple #[]) ∧ w' = w := Any.slices_Sort_string_none Tryz.lays190 p cap w
end Go.Proofs.YtgehhfncjoogiaaGreatDoor
namespace Go.Proofs.YtgehhfncjoogiaaGreatDoor
open Go.RowKit Go.Maps Go.Sort

def NamesOf (D : DataW Unit) (ss : List (List UInt8)) : Prop := ss.Pairwise (fun x y => x ≤ y) ∧ ss.Nodup ∧ (∀ l, l ∈ ss ↔ has D (.string l) = true) ∧ ∀ l ∈ ss, l.length ≤ maxLen
theorem rising_unique : ∀ {a b : List (List UInt8)}, a.Pairwise (fun x y => x ≤ y) → b.Pairwise (fun x y => x ≤ y) → a.Nodup → b.Nodup → (∀ l, l ∈ a ↔ l ∈ b) → a = b
  | [], [], _, _, _, _, _ => rfl
  | [], y :: b, _, _, _, _, h => by have := (h y).2 (by simp); cases this
  | x :: a, [], _, _, _, _, h => by have := (h x).1 (by simp); cases this
  | x :: a, y :: b, h1, h2, n1, n2, h => by
    rw [List.pairwise_cons] at h1 h2; rw [List.nodup_cons] at n1 n2
    have e : x = y := by
      rcases List.mem_cons.1 ((h x).1 (by simp)) with h9 | h9
      · exact h9
      · rcases List.mem_cons.1 ((h y).2 (by simp)) with h8 | h8
        · exact h8.symm
        · exact List.le_antisymm (h1.1 y h8) (h2.1 x h9)
    subst e
    congr 1
    refine rising_unique h1.2 h2.2 n1.2 n2.2 (fun l => ⟨fun hl => ?_, fun hl => ?_⟩)
    · rcases List.mem_cons.1 ((h l).1 (List.mem_cons_of_mem _ hl)) with rfl | h9
      · exact absurd hl n1.1
      · exact h9
    · rcases List.mem_cons.1 ((h l).2 (List.mem_cons_of_mem _ hl)) with rfl | h9
      · exact absurd hl n2.1
      · exact h9
theorem NamesOf.unique {D : DataW Unit} {a b : List (List UInt8)} (h : NamesOf D a) (k : NamesOf D b) : a = b := rising_unique h.1 k.1 h.2.1 k.2.1 (fun l => (h.2.2.1 l).trans (k.2.2.1 l).symm)
theorem Tryz.infoStr : (Tryz.prog.info? 9).map (fun i => (i.zero, i.size, i.bytes)) = some (some (.string ⟨#[]⟩), 1, 16) := by kernel_rfl
theorem grownBy_sortS (w : World) (g n : Nat) (d : Array (List UInt8)) (os : Array Obj) : w.grownBy (grow (putRow encStr (Sort.ahead w n) g 0 d) os) (some g) := by
  refine ⟨rfl, rfl, rfl, by simp [Sort.ahead], fun k hk hne => ?_⟩; rw [heap_grow_old _ _ (by simpa [Sort.ahead] using hk)]
  have hkg : g ≠ k := fun h => hne (by rw [h])
  show ((Sort.ahead w n).heap.modify g _)[k]? = _
  rw [Array.getElem?_modify]
  simp [hkg, Sort.ahead]
def SlS (w : World) (oa : Option Addr) (ss : List (List UInt8)) : Prop := ∀ i l, ss[i]? = some l → ∃ b, oa = some ⟨b, 0, none⟩ ∧ w.cell? ⟨b, i, none⟩ = some (encStr l)
theorem SlS.grown0 {w w' : World} {oa : Option Addr} {ss : List (List UInt8)} (h : SlS w oa ss) (hg : w.grownBy w' none) : SlS w' oa ss := fun i l hi => by
  obtain ⟨b, h1, h2⟩ := h i l hi; obtain ⟨hc, -⟩ := bcell hg; exact ⟨b, h1, (hc _ _ (cell_block_lt h2)).trans h2⟩
theorem srtS {ss : List (List UInt8)} : (ss.mergeSort fun x y => decide (x ≤ y)).Perm ss ∧ (ss.mergeSort fun x y => decide (x ≤ y)).Pairwise (fun x y => x ≤ y) := by
  refine ⟨List.mergeSort_perm _ _, ?_⟩; have h := List.pairwise_mergeSort (le := fun x y : List UInt8 => decide (x ≤ y)) (fun a b c h1 h2 => by simp only [decide_eq_true_eq] at *; exact List.le_trans h1 h2) (fun a b => by simp only [Bool.or_eq_true, decide_eq_true_eq]; exact List.le_total a b) ss; exact h.imp (fun h => by simpa using h)
structure SnSt (w wr : World) (mb r N : Nat) (D : DataW Unit) (v : Value) (pre : List (List UInt8)) (left : Lit → Bool) (cnt : Nat) : Prop where
  rg : wr.ranges Tryz.prog 9 ptrE mb r N D left cnt
  row : wr.ownsRow w.heap.size 9 1 v pre.length (pre.map encStr)
  nd : pre.Nodup
  mem : ∀ l, l ∈ pre ↔ (has D (.string l) = true ∧ left (.string l) = false)
  sz : ∀ l ∈ pre, l.length ≤ maxLen
  gr : w.grownBy wr none
  rn : w.heap.size ≤ r
  le : pre.length + cnt ≤ N
set_option maxRecDepth 20000 in
set_option maxHeartbeats 4000000 in
theorem sortedNames_any (mb N : Nat) (D : DataW Unit) (w : World) (h : NMap w mb N D) (hN : N ≤ 1000000) :
    Calls Tryz.prog 53 #[.map (some mb)] w fun e w' => ∃ oa n c, e = .returned (.slice oa n c) ∧ (∃ ss, NamesOf D ss ∧ ss.length = n ∧ SlS w' oa ss ∧ n ≤ N) ∧ w.grownBy w' none := by
  have HM : Hid (NMap w mb N D) := h; clear h
  go_enter Tryz.func53, Tryz.ntmps53
  go_wp2_with (first | (at_range; refine wpList_range_own _ rfl _ 87 rfl 9 91 keyS undMap ptrE mb N D rfl HM.out ?_; intro w0 hrg0 hg0 hs0))
  obtain ⟨r, hr⟩ : ∃ y, w.heap.size = y := ⟨_, rfl⟩; rw [hr] at hrg0 ⊢; have HL0 : Hid (SnSt w w0 mb r N D (.slice none 0 0) [] (has D) (Maps.size D)) := ⟨hrg0, World.ownsRow_nil _ _ _ _, by simp, fun l => by simp, by simp, hg0, by omega, by simpa using HM.out.size_le⟩; clear hrg0 hg0 hs0
  try go_frame
  go_loopw [3, 4] (fun v _ wi => ∃ (pre : List (List UInt8)) (left : Lit → Bool) (cnt : Nat), (∃ oa c, v = .slice oa pre.length c) ∧ SnSt w wi mb r N D v pre left cnt) (fun _ _ wi => wi.rangeLeft mb r)
  case atStart => exact ⟨[], _, _, ⟨none, 0, rfl⟩, HL0.out⟩
  case round =>
    obtain ⟨pre, left, cnt, ⟨oa, c, rfl⟩, hcl⟩ := hrel; have HC : Hid (SnSt w wr mb r N D (.slice oa pre.length c) pre left cnt) := hcl; obtain ⟨pn, hpn⟩ : ∃ y, pre.length = y := ⟨_, rfl⟩; rw [hpn] at HC ⊢; have HPN : Hid (pre.length = pn) := hpn; clear hcl HL0 hpn
    go_wp2_with (at_next; refine wpList_next_ranges _ rfl _ rfl 9 keyS ptrE Value.string bP (fun key kl hk9 => Maps.keyOf_string_inv Tryz.underlying9 hk9) (fun v y hv9 => by obtain ⟨ob, rfl, -⟩ := ptrE_inv hv9; exact ⟨ob, rfl⟩) mb r N D left cnt rfl HC.out.rg ?dn ?mr)
    case dn =>
      intro hc0 hl0
      have HL : Hid (NamesOf D (pre.mergeSort fun x y => decide (x ≤ y))) := by
        refine ⟨srtS.2, (srtS.1.nodup_iff).2 HC.out.nd, fun l => ?_, fun l hl => HC.out.sz l (srtS.1.mem_iff.1 hl)⟩; rw [srtS.1.mem_iff, HC.out.mem l]
        simp [hl0]
      clear hl0 hc0
      rcases HC.out.row.2 with ⟨h1, h2⟩ | ⟨g, cap', cur, h1, hb, hg, hcp, hmx, hcs, htk⟩
      · have hp0 : pn = 0 := by have := HPN.out; omega
        have HSN : Hid (Calls _ _ _ _ _) := Tryz.slices_Sort_string_none oa c wr; subst hp0; obtain rfl : pre = [] := List.length_eq_zero_iff.1 HPN.out; clear h1 h2; go_wp2_with fail; refine HSN.out.mono ?_; rintro e w2 ⟨rfl, hw2⟩; subst hw2; clear HSN; go_wp2; go_ret; exact ⟨_, _, _, rfl, ⟨_, HL.out, by simp, fun i l hi => by simp at hi, Nat.zero_le _⟩, HC.out.gr⟩
      · simp only [Value.slice.injEq] at h1; obtain ⟨rfl, h1b, rfl⟩ := h1
        have hH : Holds encStr wr g 0 pre.toArray := by
          intro j hj
          have hj' : j < pre.length := by simpa using hj
          refine ⟨?_, by simp [World.frozen?, hg]⟩; have h8 := HC.out.row; rw [HPN.out] at h8; have h9 := own1_at h8 (i := j) (u := encStr (pre[j]'hj')) (by simp [hj']); rw [Nat.zero_add]
          simpa [hj'] using h9
        have hgl : g < wr.heap.size := (Array.getElem?_eq_some_iff.1 hg).1; have HSS : Hid (Calls _ _ _ _ _) := Tryz.slices_Sort_string g 0 c pre wr hH hgl (by have := HC.out.le; omega); have HGL : Hid (g < wr.heap.size ∧ w.heap.size ≤ g ∧ Holds encStr wr g 0 pre.toArray) := ⟨hgl, hb, hH⟩; rw [HPN.out] at HSS; clear hb hg hcp hmx hcs htk hH hgl h1b; go_wp2_with fail; refine HSS.out.mono ?_; rintro e w2 ⟨rfl, nn, os, hw2⟩
        have HF : Hid (SlS w2 (some ⟨g, 0, none⟩) (pre.mergeSort fun x y => decide (x ≤ y)) ∧ w.grownBy w2 none) := by
          subst hw2; refine ⟨fun i l hi => ⟨g, rfl, ?_⟩, grownBy_new HC.out.gr (grownBy_sortS wr g nn _ os) HGL.out.2.1⟩; have hil : i < (pre.mergeSort fun x y => decide (x ≤ y)).length := (List.getElem?_eq_some_iff.1 hi).1; rw [cell?_grow _ _ _ (by simpa [Sort.ahead] using HGL.out.1)]; have := cell?_putRow encStr (Sort.ahead wr nn) g 0 pre.toArray (pre.mergeSort fun x y => decide (x ≤ y)).toArray HGL.out.2.2 (by simp) i (by simpa using hil); rw [Nat.zero_add] at this; rw [this]; have h7 : (pre.mergeSort fun x y => decide (x ≤ y))[i]'hil = l := (List.getElem?_eq_some_iff.1 hi).2
          simp [List.getElem?_eq_getElem hil, h7]
        clear HSS hw2; go_wp2; go_ret; exact ⟨_, _, _, rfl, ⟨_, HL.out, srtS.1.length_eq.trans HPN.out, HF.out.1, by have h9 := HC.out.le; have := HPN.out; omega⟩, HF.out.2⟩
    case mr =>
      intro x ob kl y1 y2 w1 cnt1 hkey hlk hv hat hrg hlt1 hg1 hs1 hen; obtain ⟨x', hx', hkl, hxs⟩ := WideMaps.string_of_keyOf Tryz.underlying9 hkey
      obtain rfl : x = x' := by injection hx'
      subst hkl; obtain ⟨es, ck, sc, se, c0, q1, -, -, -, q2, -⟩ := HC.out.rg
      have hne : ∀ k, (Value.slice oa pn c).ownBlock = some k → ∃ cur, wr.heap[k]? = some (.cells cur 9 (0, 0)) := fun k hk => by
        rcases HC.out.row.2 with ⟨h1, -⟩ | ⟨g, cap', cur, h1, hb, hg, -⟩
        · rw [h1] at hk; cases hk
        · rw [h1] at hk; cases hk; exact ⟨cur, hg⟩
      have nr : ∀ k, (Value.slice oa pn c).ownBlock = some k → some r ≠ some k := fun k hk hc => by
        obtain ⟨cur, h9⟩ := hne k hk; rw [← Option.some.inj hc, q2] at h9
        cases h9
      have nm : ∀ k, (Value.slice oa pn c).ownBlock = some k → some mb ≠ some k := fun k hk hc => by
        obtain ⟨cur, h9⟩ := hne k hk; rw [← Option.some.inj hc, q1] at h9
        cases h9
      have row1 : w1.ownsRow w.heap.size 9 1 (.slice oa pn c) pn (pre.map encStr) := by
        have h9 := own1_kept HC.out.row hg1 nr; rw [HPN.out] at h9; exact h9
      have gr1 : w.grownBy w1 none := grownBy_new HC.out.gr hg1 HC.out.rn; have HX : Hid (w1.ownsRow w.heap.size 9 1 (.slice oa pn c) pn (pre.map encStr) ∧ w.grownBy w1 none ∧ w1.ranges Tryz.prog 9 ptrE mb r N D (fun z => left z && !z.sameKey (.string x.data.toList)) cnt1 ∧ cnt1 < cnt ∧ (∀ k, (Value.slice oa pn c).ownBlock = some k → some r ≠ some k ∧ some mb ≠ some k) ∧ left (.string x.data.toList) = true ∧ has D (.string x.data.toList) = true ∧ x.data.toList.length ≤ maxLen) := ⟨row1, gr1, hrg, hlt1, fun k hk => ⟨nr k hk, nm k hk⟩, hlk, has_true_of_atKey hat, by simpa using hxs⟩
      have hpb : pn + 1 ≤ 10000000 := by have h9 := HC.out.le; rw [HPN.out] at h9; omega
      clear hkey hlk hv hat hrg hlt1 hg1 hs1 q1 q2 hne nr nm row1 gr1 hx' hxs
      go_wp2_with (at_builtin; refine wpList_app1 rfl _ _ 52 rfl w.heap.size 9 Tryz.underlying52 Tryz.infoStr rfl (by decide) (.slice oa pn c) pn (pre.map encStr) rfl HX.out.1 #[.string x] w1.heap.size rfl rfl rfl rfl hpb (by decide) HX.out.2.1.size ?_; intro v2 w2 h2 h3 h4)
      obtain ⟨oa2, c2, rfl⟩ := h4
      have HN : Hid (SnSt w w2 mb r N D (.slice oa2 (pn + 1) c2) (pre ++ [x.data.toList]) (fun z => left z && !z.sameKey (.string x.data.toList)) cnt1 ∧ cnt1 < cnt) := by
        obtain ⟨row1, gr1, hrg, hlt1, hnb, hlk, hh, hxl⟩ := HX.out
        have hnx : x.data.toList ∉ pre := fun hc => by
          have h9 := ((HC.out.mem _).1 hc).2; rw [hlk] at h9
          cases h9
        refine ⟨⟨hrg.kept h3 ?_ ?_, ?_, ?_, fun l => ?_, ?_, ?_, HC.out.rn, ?_⟩, hlt1⟩
        · rcases hob : (Value.slice oa pn c).ownBlock with _ | k
          · simp
          · exact (hnb k hob).2
        · rcases hob : (Value.slice oa pn c).ownBlock with _ | k
          · simp
          · exact (hnb k hob).1
        · have e1 : (pre ++ [x.data.toList]).length = pn + 1 := by simp [HPN.out]
          have e2 : (pre ++ [x.data.toList]).map encStr = pre.map encStr ++ [Value.string x] := by simp
          rw [e1, e2]; exact h2
        · rw [List.nodup_append]; exact ⟨HC.out.nd, by simp, fun a ha b hb hc => hnx (by have h9 : b = x.data.toList := (by simpa using hb); rw [← h9, ← hc]; exact ha)⟩
        · rw [List.mem_append, HC.out.mem l]
          by_cases hl : l = x.data.toList
          · subst hl
            have hself : (Lit.string x.data.toList).sameKey (.string x.data.toList) = true := by simp [Lit.sameKey]
            simp [hh, hself]
          · have hdiff : (Lit.string l).sameKey (.string x.data.toList) = false := sameKey_ne (fun hc => hl (by injection hc))
            simp [hl, hdiff]
        · intro l hl
          rcases List.mem_append.1 hl with h9 | h9
          · exact HC.out.sz l h9
          · obtain rfl : l = x.data.toList := by simpa using h9
            exact hxl
        · exact grownBy_row gr1 h3 (fun g hg => own1_base row1 hg)
        · have h9 := HC.out.le; simp only [List.length_append, List.length_cons, List.length_nil]
          omega
      clear h2 h3 HX; go_wp2; (try simp only [Act.put]); go_roundw
      case rel => exact ⟨pre ++ [x.data.toList], _, _, ⟨oa2, c2, by simp [HPN.out]⟩, HN.out.1⟩
      case measure =>
        have e1 := HN.out.1.rg.left_eq; have e2 := HC.out.rg.left_eq; have e3 := HN.out.2
        first | omega | (simp only []; omega) | (rw [e1, e2]; exact e3)
end Go.Proofs.YtgehhfncjoogiaaGreatDoor
namespace Go.Proofs.YtgehhfncjoogiaaGreatDoor
open Go.RowKit Go.Maps

theorem Tryz.infoFile : (Tryz.prog.info? 55).map (fun i => (i.zero, i.size, i.bytes)) = some (some (.agg #[.string ⟨#[]⟩, .slice none 0 0]), 2, 40) := by kernel_rfl
def FlOf (ms : List Bd) (D : DataW Unit) (sel : Bd → List Nat) (ss : List (List UInt8)) (F : List (List UInt8 × List Nat)) : Prop := F.length = ss.length ∧ ∀ (i : Nat) (s : List UInt8), ss[i]? = some s → ∃ m ∈ ms, D.atKey (.string s) .nil = bD (some m.b) ∧ F[i]? = some (s, sel m)
def CellsF (w : World) (B : Nat) (cells : List Value) (F : List (List UInt8 × List Nat)) : Prop := cells.length = F.length * 2 ∧ ∀ (i : Nat) (s : List UInt8) (d : List Nat), F[i]? = some (s, d) → cells[i * 2]? = some (encStr s) ∧ ∃ a1 c1, cells[i * 2 + 1]? = some (.slice a1 d.length c1) ∧ BRow w B (.slice a1 d.length c1) d
theorem CellsF.snoc {w w' : World} {B : Nat} {cells : List Value} {F : List (List UInt8 × List Nat)} {row : Option Nat} (h : CellsF w B cells F) (hg : w.grownBy w' row) (hne : ∀ v d, BRow w B v d → ∀ k, rowBlk v = some k → row ≠ some k) (s : List UInt8) (d : List Nat) (a1 : Option Addr) (c1 : Nat) (hb : BRow w B (.slice a1 d.length c1) d) : CellsF w' B (cells ++ [encStr s, .slice a1 d.length c1]) (F ++ [(s, d)]) := by
  refine ⟨by simp [h.1]; omega, fun i s' d' hi => ?_⟩
  rcases Nat.lt_or_ge i F.length with hlt | hge
  · rw [List.getElem?_append_left hlt] at hi; obtain ⟨h1, a2, c2, h2, h3⟩ := h.2 i s' d' hi; have hl := h.1; rw [List.getElem?_append_left (by omega), List.getElem?_append_left (by omega)]; exact ⟨h1, a2, c2, h2, h3.grown hg (hne _ _ h3)⟩
  · obtain rfl : i = F.length := by
      have := (List.getElem?_eq_some_iff.1 hi).1
      simp at this
      omega
    simp only [List.getElem?_append_right (Nat.le_refl _), Nat.sub_self, List.getElem?_cons_zero, Option.some.injEq, Prod.mk.injEq] at hi; obtain ⟨rfl, rfl⟩ := hi; have hl := h.1; rw [List.getElem?_append_right (by omega), List.getElem?_append_right (by omega), hl]; simp only [Nat.sub_self, List.getElem?_cons_zero, true_and, Nat.add_sub_cancel_left, List.getElem?_cons_succ]; exact ⟨a1, c1, rfl, hb.grown hg (hne _ _ hb)⟩
def FlAt (w : World) (B : Nat) (v : Value) (F : List (List UInt8 × List Nat)) : Prop := ∃ oa c cells, v = .slice oa F.length c ∧ w.ownsRow B 55 2 v F.length cells ∧ CellsF w B cells F
theorem FlAt.grown0 {w w' : World} {B : Nat} {v : Value} {F : List (List UInt8 × List Nat)} (h : FlAt w B v F) (hg : w.grownBy w' none) : FlAt w' B v F := by
  obtain ⟨oa, c, cells, h1, h2, h3, h4⟩ := h; refine ⟨oa, c, cells, h1, own1_grown h2 hg, h3, fun i s d hi => ?_⟩; obtain ⟨g1, a1, c1, g2, g3⟩ := h4 i s d hi; exact ⟨g1, a1, c1, g2, g3.grown0 hg⟩
theorem atKey_has {D : DataW Unit} {k : Lit} (h : has D k = true) (z : DataW Unit) : D.atKey k z = D.atKey k .nil := by
  cases D with
  | map es =>
    simp only [has] at h; simp only [DataW.atKey]
    cases hf : es.find? (fun p => p.1.sameKey k) with
    | some p => rfl
    | none =>
      rw [List.find?_eq_none] at hf; rw [List.any_eq_true] at h; obtain ⟨p, hp, hk⟩ := h; exact absurd hk (hf p hp)
  | _ => cases h
def FlRes (w w' : World) (ms : List Bd) (D : DataW Unit) (sel : Bd → List Nat) (v : Value) : Prop := ∃ ss F B', NamesOf D ss ∧ FlOf ms D sel ss F ∧ FlAt w' B' v F ∧ w.heap.size ≤ B'
theorem row_type {w : World} {B e s n g : Nat} {v : Value} {xs : List Value} (h : w.ownsRow B e s v n xs) (hg : v.ownBlock = some g) : ∃ cur, w.heap[g]? = some (.cells cur e (0, 0)) := by
  obtain ⟨hl, ⟨h1, -⟩ | ⟨g', cap', cur, h1, hb, hg', h2⟩⟩ := h
  · rw [h1] at hg; simp [Value.ownBlock] at hg
  · rw [h1] at hg; simp only [Value.ownBlock, Option.some.injEq] at hg; subst hg; exact ⟨cur, hg'⟩
theorem Moves.of_row {w w' : World} {B e s n : Nat} {v : Value} {xs : List Value} (ho : w.ownsRow B e s v n xs) (hg : w.grownBy w' v.ownBlock) : Moves [] [e] w w' := Moves.of_turn (Turn.of_grown (T := fun k => v.ownBlock = some k) hg (fun g hg => hg)) (fun k _ hk => .inr (by obtain ⟨cur, h9⟩ := row_type ho hk; exact ⟨cur, _, _, h9, by simp⟩))
set_option maxRecDepth 20000 in
set_option maxHeartbeats 4000000 in
theorem liveFiles_any (d : Nat) (M : Dk) (ms : List Bd) (B : Nat) (w : World) (h : DkAt w B d M ms) (hN : M.N ≤ 1000000) :
    Calls Tryz.prog 34 #[.pointer (some ⟨d, 0, none⟩)] w fun e w' => ∃ oa n c, e = .returned (.slice oa n c) ∧ FlRes w w' ms M.LD Bd.L (.slice oa n c) ∧ w.grownBy w' none := by
  have HD : Hid (DkAt w B d M ms) := h; have c0 : w.cell? ⟨d, 0, none⟩ = some (.map (some M.lb)) := (zCr h.box).trans rfl; have HS : Hid (Calls _ _ _ _ _) := sortedNames_any M.lb M.N M.LD w h.dl hN; clear h
  go_enter Tryz.func34, Tryz.ntmps34
  go_wp2_with fail; refine HS.out.mono ?_; rintro e w1 ⟨sa, n, sc, rfl, ⟨ss, hss, hsl, hsa, hsn⟩, hg1⟩; have HX : Hid (NamesOf M.LD ss ∧ ss.length = n ∧ SlS w1 sa ss ∧ w.grownBy w1 none) := ⟨hss, hsl, hsa, hg1⟩; clear hss hsl hsa hg1 HS c0; go_wp2
  go_loopw [3, 12] (fun v iv wr => ∃ (k : Nat) (F : List (List UInt8 × List Nat)) (cells : List Value), k ≤ n ∧ iv = .int .i64 (k : Int) ∧ (∃ oa c, v = .slice oa k c) ∧ wr.ownsRow w1.heap.size 55 2 v k cells ∧ CellsF wr w1.heap.size cells F ∧ FlOf ms M.LD Bd.L (ss.take k) F ∧ w1.grownBy wr none) (fun _ iv _ => n - (intOf iv).toNat)
  case atStart => exact ⟨0, [], [], Nat.zero_le _, rfl, ⟨none, 0, rfl⟩, World.ownsRow_nil _ _ _ _, ⟨rfl, by simp⟩, ⟨by simp, by simp⟩, grownBy_refl _ _⟩
  case round =>
    obtain ⟨k, F, cells, hk, rfl, ⟨oa, c, rfl⟩, hrow, hcl, hfl, hgr⟩ := hrel; have HR : Hid (wr.ownsRow w1.heap.size 55 2 (.slice oa k c) k cells ∧ CellsF wr w1.heap.size cells F ∧ FlOf ms M.LD Bd.L (ss.take k) F ∧ w1.grownBy wr none) := ⟨hrow, hcl, hfl, hgr⟩; clear hrow hcl hfl hgr
    by_cases hlt : k < n
    · obtain ⟨s, hs⟩ : ∃ s, ss[k]? = some s := ⟨_, List.getElem?_eq_getElem (by rw [HX.out.2.1]; exact hlt)⟩; obtain ⟨b, hsb, q0⟩ := (HX.out.2.2.1.grown0 HR.out.2.2.2) k s hs; subst hsb; have hwr : w.grownBy wr none := grownBy_trans HX.out.2.2.2 HR.out.2.2.2; have hD := HD.out.grown0 hwr; have hhas : has M.LD (.string s) = true := (HX.out.1.2.2.1 s).1 (List.mem_of_getElem? hs); obtain ⟨es, hes, -, -⟩ := hD.dl.entries keyS
      have hssz : (⟨s.toArray⟩ : ByteArray).size ≤ maxLen := by simpa [ByteArray.size] using HX.out.1.2.2.2 s (List.mem_of_getElem? hs)
      obtain ⟨ob, hob⟩ : ∃ ob, M.LD.atKey (kS ⟨s.toArray⟩) .nil = bD ob := by
        obtain ⟨v, ps, -, hv⟩ := hD.dl.lookup keyS undMap (zeroP wr) (ptrE_mk none) (keyOfS hssz); obtain ⟨ob, -, hz⟩ := ptrE_inv hv; exact ⟨ob, congrArg Prod.fst hz⟩
      have hkk : kS ⟨s.toArray⟩ = .string s := by simp [kS]
      have hbo : ∃ b, ob = some b := by
        cases ob with
        | some b => exact ⟨b, rfl⟩
        | none =>
          rw [hkk] at hob; have h9 := hD.refL.2 (.string s) (.lit (.int .i64 0)) (by rw [atKey_has hhas]; exact hob)
          cases h9
      obtain ⟨b', rfl⟩ := hbo; obtain ⟨m, hm, hmb⟩ := (hD.refL.1 _ _ hob).get; subst hmb; have hma := (hD.bods.each m hm).1; obtain ⟨la, lc, hlv, hsl⟩ := hma.live.sl; have hlb : m.L.length ≤ 65536 := (hD.bods.each m hm).2.1; obtain ⟨ln, hln⟩ : ∃ y, m.L.length = y := ⟨_, rfl⟩; rw [hln] at hlv hsl hlb
      have hbx : wr.heap[m.b]? = some (.cells #[.slice la ln lc, m.sv, .int .i64 m.k] 93 (0, 0)) := by rw [hma.box, Bd.blk, hlv]
      have cb : wr.cell? ⟨m.b, 0, none⟩ = some (.slice la ln lc) := (zCr hbx).trans rfl; have cd : wr.cell? ⟨d, 0, none⟩ = some (.map (some M.lb)) := (zCr hD.box).trans rfl; have hlk := run_look hD.dl hssz hob; simp only [bP] at hlk; have HC : Hid (Calls _ _ _ _ _) := clone_any la ln lc m.L w1.heap.size wr hsl (by omega) HR.out.2.2.2.size; have HM : Hid (m ∈ ms ∧ M.LD.atKey (.string s) .nil = bD (some m.b) ∧ ss[k]? = some s ∧ m.L.length = ln) := ⟨hm, by rw [← hkk]; exact hob, hs, hln⟩
      have hkI : (k : Int) < (n : Int) := by omega
      have v1 : IntKind.i64.wrap ((k : Int) + 1) = (k : Int) + 1 := IntWalk.i64_in _ (by omega); clear hm hob hs hln hbx hlv hsl hma hD hhas hes hwr hkk; go_wp2_with fail; refine HC.out.mono ?_; rintro e w2 ⟨v2, rfl, hv2, hg2, -⟩; have HV : Hid (BRow w2 w1.heap.size v2 m.L ∧ wr.grownBy w2 none) := ⟨hv2, hg2⟩; obtain ⟨oa2, cp2, hve, -⟩ := hv2.is; rw [HM.out.2.2.2] at hve; subst hve; have HRW : Hid (w2.ownsRow w1.heap.size 55 2 (.slice oa k c) k cells) := own1_grown HR.out.1 hg2; have hB2 : w1.heap.size ≤ w2.heap.size := (grownBy_trans HR.out.2.2.2 hg2).size; clear hv2 hg2 HC
      go_wp2_with (at_builtin; refine wpList_app1 rfl _ _ 25 rfl w1.heap.size 55 Tryz.underlying25 Tryz.infoFile rfl (by decide) (.slice oa k c) k cells rfl HRW.out #[.string ⟨s.toArray⟩, .slice oa2 ln cp2] w2.heap.size rfl rfl rfl rfl (by omega) (by decide) hB2 ?_; intro v3 w3 h2 h3 h4)
      obtain ⟨oa3, c3, rfl⟩ := h4
      have HN : Hid (w3.ownsRow w1.heap.size 55 2 (.slice oa3 (k + 1) c3) (k + 1) (cells ++ [encStr s, .slice oa2 ln cp2]) ∧ CellsF w3 w1.heap.size (cells ++ [encStr s, .slice oa2 ln cp2]) (F ++ [(s, m.L)]) ∧ FlOf ms M.LD Bd.L (ss.take (k + 1)) (F ++ [(s, m.L)]) ∧ w1.grownBy w3 none) := by
        have hFl : F.length = k := by rw [HR.out.2.2.1.1, List.length_take, HX.out.2.1]; omega
        refine ⟨h2, ?_, ⟨?_, fun i s' hi => ?_⟩, ?_⟩
        · have h9 : CellsF w2 w1.heap.size cells F := ⟨HR.out.2.1.1, fun i s' d' hi => by
            obtain ⟨g1, a1, c1, g2, g3⟩ := HR.out.2.1.2 i s' d' hi
            exact ⟨g1, a1, c1, g2, g3.grown0 HV.out.2⟩⟩
          have h8 := h9.snoc h3 (fun v dd hv kk hkk hc => by
            obtain ⟨cur, h7⟩ := row_type HRW.out hc
            exact hv.ne h7 (by decide) hkk) s m.L oa2 cp2 (by rw [HM.out.2.2.2]; exact HV.out.1)
          rw [HM.out.2.2.2] at h8; exact h8
        · have hn := HX.out.2.1; rw [List.length_append, List.length_take]; simp only [List.length_cons, List.length_nil]
          omega
        · rw [List.take_add_one, HM.out.2.2.1] at hi
          rcases Nat.lt_or_ge i k with hlt' | hge
          · rw [List.getElem?_append_left (by rw [List.length_take, HX.out.2.1]; omega)] at hi; obtain ⟨m', h7, h6, h5⟩ := HR.out.2.2.1.2 i s' hi; exact ⟨m', h7, h6, by rw [List.getElem?_append_left (by omega)]; exact h5⟩
          · have hlen : (ss.take k).length = k := by rw [List.length_take, HX.out.2.1]; omega
            obtain rfl : i = k := by
              have := (List.getElem?_eq_some_iff.1 hi).1
              simp at this
              omega
            rw [List.getElem?_append_right (by omega), hlen] at hi; simp only [Nat.sub_self, Option.toList_some, List.getElem?_cons_zero, Option.some.injEq] at hi; subst hi; exact ⟨m, HM.out.1, HM.out.2.1, by rw [List.getElem?_append_right (by omega), hFl]; simp⟩
        · exact grownBy_row (grownBy_trans HR.out.2.2.2 HV.out.2) h3 (fun g hg => own1_base HRW.out hg)
      clear h2 h3 HRW HV; go_wp2; go_roundw
      case rel => exact ⟨k + 1, _, _, hlt, by go_num, ⟨oa3, c3, rfl⟩, HN.out.1, HN.out.2.1, HN.out.2.2.1, HN.out.2.2.2⟩
      case measure => simp [intOf]; omega
    · obtain rfl : k = n := by omega
      have hkI : ¬ (k : Int) < (k : Int) := by omega
      go_wp2; go_ret; have e9 : ss.take k = ss := List.take_of_length_le (by rw [HX.out.2.1]; exact Nat.le_refl _); have h9 := HR.out.2.2.1; rw [e9] at h9; have hFl : F.length = k := h9.1.trans HX.out.2.1; refine ⟨oa, k, c, rfl, ⟨ss, F, w1.heap.size, HX.out.1, h9, ⟨oa, c, cells, by rw [hFl], by rw [hFl]; exact HR.out.1, HR.out.2.1⟩, HX.out.2.2.2.size⟩, grownBy_trans HX.out.2.2.2 HR.out.2.2.2⟩
set_option maxRecDepth 20000 in
set_option maxHeartbeats 4000000 in
theorem syncedFiles_any (d : Nat) (M : Dk) (ms : List Bd) (B : Nat) (w : World) (h : DkAt w B d M ms) (hN : M.N ≤ 1000000) :
    Calls Tryz.prog 35 #[.pointer (some ⟨d, 0, none⟩)] w fun e w' => ∃ oa n c, e = .returned (.slice oa n c) ∧ FlRes w w' ms M.SD Bd.S (.slice oa n c) ∧ w.grownBy w' none := by
  have HD : Hid (DkAt w B d M ms) := h; have c0 : w.cell? ⟨d, 1, none⟩ = some (.map (some M.sb)) := (zCr h.box).trans rfl; have HS : Hid (Calls _ _ _ _ _) := sortedNames_any M.sb M.N M.SD w h.ds hN; clear h
  go_enter Tryz.func35, Tryz.ntmps35
  go_wp2_with fail; refine HS.out.mono ?_; rintro e w1 ⟨sa, n, sc, rfl, ⟨ss, hss, hsl, hsa, hsn⟩, hg1⟩; have HX : Hid (NamesOf M.SD ss ∧ ss.length = n ∧ SlS w1 sa ss ∧ w.grownBy w1 none) := ⟨hss, hsl, hsa, hg1⟩; clear hss hsl hsa hg1 HS c0; go_wp2
  go_loopw [3, 12] (fun v iv wr => ∃ (k : Nat) (F : List (List UInt8 × List Nat)) (cells : List Value), k ≤ n ∧ iv = .int .i64 (k : Int) ∧ (∃ oa c, v = .slice oa k c) ∧ wr.ownsRow w1.heap.size 55 2 v k cells ∧ CellsF wr w1.heap.size cells F ∧ FlOf ms M.SD Bd.S (ss.take k) F ∧ w1.grownBy wr none) (fun _ iv _ => n - (intOf iv).toNat)
  case atStart => exact ⟨0, [], [], Nat.zero_le _, rfl, ⟨none, 0, rfl⟩, World.ownsRow_nil _ _ _ _, ⟨rfl, by simp⟩, ⟨by simp, by simp⟩, grownBy_refl _ _⟩
  case round =>
    obtain ⟨k, F, cells, hk, rfl, ⟨oa, c, rfl⟩, hrow, hcl, hfl, hgr⟩ := hrel; have HR : Hid (wr.ownsRow w1.heap.size 55 2 (.slice oa k c) k cells ∧ CellsF wr w1.heap.size cells F ∧ FlOf ms M.SD Bd.S (ss.take k) F ∧ w1.grownBy wr none) := ⟨hrow, hcl, hfl, hgr⟩; clear hrow hcl hfl hgr
    by_cases hlt : k < n
    · obtain ⟨s, hs⟩ : ∃ s, ss[k]? = some s := ⟨_, List.getElem?_eq_getElem (by rw [HX.out.2.1]; exact hlt)⟩; obtain ⟨b, hsb, q0⟩ := (HX.out.2.2.1.grown0 HR.out.2.2.2) k s hs; subst hsb; have hwr : w.grownBy wr none := grownBy_trans HX.out.2.2.2 HR.out.2.2.2; have hD := HD.out.grown0 hwr; have hhas : has M.SD (.string s) = true := (HX.out.1.2.2.1 s).1 (List.mem_of_getElem? hs); obtain ⟨es, hes, -, -⟩ := hD.ds.entries keyS
      have hssz : (⟨s.toArray⟩ : ByteArray).size ≤ maxLen := by simpa [ByteArray.size] using HX.out.1.2.2.2 s (List.mem_of_getElem? hs)
      obtain ⟨ob, hob⟩ : ∃ ob, M.SD.atKey (kS ⟨s.toArray⟩) .nil = bD ob := by
        obtain ⟨v, ps, -, hv⟩ := hD.ds.lookup keyS undMap (zeroP wr) (ptrE_mk none) (keyOfS hssz); obtain ⟨ob, -, hz⟩ := ptrE_inv hv; exact ⟨ob, congrArg Prod.fst hz⟩
      have hkk : kS ⟨s.toArray⟩ = .string s := by simp [kS]
      have hbo : ∃ b, ob = some b := by
        cases ob with
        | some b => exact ⟨b, rfl⟩
        | none =>
          rw [hkk] at hob; have h9 := hD.refS.2 (.string s) (.lit (.int .i64 0)) (by rw [atKey_has hhas]; exact hob)
          cases h9
      obtain ⟨b', rfl⟩ := hbo; obtain ⟨m, hm, hmb⟩ := (hD.refS.1 _ _ hob).get; subst hmb; have hma := (hD.bods.each m hm).1; obtain ⟨la, lc, hlv, hsl⟩ := hma.syn.sl; have hlb : m.S.length ≤ 65536 := (hD.bods.each m hm).2.2; obtain ⟨ln, hln⟩ : ∃ y, m.S.length = y := ⟨_, rfl⟩; rw [hln] at hlv hsl hlb
      have hbx : wr.heap[m.b]? = some (.cells #[m.lv, .slice la ln lc, .int .i64 m.k] 93 (0, 0)) := by rw [hma.box, Bd.blk, hlv]
      have cb : wr.cell? ⟨m.b, 1, none⟩ = some (.slice la ln lc) := (zCr hbx).trans rfl; have cd : wr.cell? ⟨d, 1, none⟩ = some (.map (some M.sb)) := (zCr hD.box).trans rfl; have hlk := run_look hD.ds hssz hob; simp only [bP] at hlk; have HC : Hid (Calls _ _ _ _ _) := clone_any la ln lc m.S w1.heap.size wr hsl (by omega) HR.out.2.2.2.size; have HM : Hid (m ∈ ms ∧ M.SD.atKey (.string s) .nil = bD (some m.b) ∧ ss[k]? = some s ∧ m.S.length = ln) := ⟨hm, by rw [← hkk]; exact hob, hs, hln⟩
      have hkI : (k : Int) < (n : Int) := by omega
      have v1 : IntKind.i64.wrap ((k : Int) + 1) = (k : Int) + 1 := IntWalk.i64_in _ (by omega); clear hm hob hs hln hbx hlv hsl hma hD hhas hes hwr hkk; go_wp2_with fail; refine HC.out.mono ?_; rintro e w2 ⟨v2, rfl, hv2, hg2, -⟩; have HV : Hid (BRow w2 w1.heap.size v2 m.S ∧ wr.grownBy w2 none) := ⟨hv2, hg2⟩; obtain ⟨oa2, cp2, hve, -⟩ := hv2.is; rw [HM.out.2.2.2] at hve; subst hve; have HRW : Hid (w2.ownsRow w1.heap.size 55 2 (.slice oa k c) k cells) := own1_grown HR.out.1 hg2; have hB2 : w1.heap.size ≤ w2.heap.size := (grownBy_trans HR.out.2.2.2 hg2).size; clear hv2 hg2 HC
      go_wp2_with (at_builtin; refine wpList_app1 rfl _ _ 25 rfl w1.heap.size 55 Tryz.underlying25 Tryz.infoFile rfl (by decide) (.slice oa k c) k cells rfl HRW.out #[.string ⟨s.toArray⟩, .slice oa2 ln cp2] w2.heap.size rfl rfl rfl rfl (by omega) (by decide) hB2 ?_; intro v3 w3 h2 h3 h4)
      obtain ⟨oa3, c3, rfl⟩ := h4
      have HN : Hid (w3.ownsRow w1.heap.size 55 2 (.slice oa3 (k + 1) c3) (k + 1) (cells ++ [encStr s, .slice oa2 ln cp2]) ∧ CellsF w3 w1.heap.size (cells ++ [encStr s, .slice oa2 ln cp2]) (F ++ [(s, m.S)]) ∧ FlOf ms M.SD Bd.S (ss.take (k + 1)) (F ++ [(s, m.S)]) ∧ w1.grownBy w3 none) := by
        have hFl : F.length = k := by rw [HR.out.2.2.1.1, List.length_take, HX.out.2.1]; omega
        refine ⟨h2, ?_, ⟨?_, fun i s' hi => ?_⟩, ?_⟩
        · have h9 : CellsF w2 w1.heap.size cells F := ⟨HR.out.2.1.1, fun i s' d' hi => by
            obtain ⟨g1, a1, c1, g2, g3⟩ := HR.out.2.1.2 i s' d' hi
            exact ⟨g1, a1, c1, g2, g3.grown0 HV.out.2⟩⟩
          have h8 := h9.snoc h3 (fun v dd hv kk hkk hc => by
            obtain ⟨cur, h7⟩ := row_type HRW.out hc
            exact hv.ne h7 (by decide) hkk) s m.S oa2 cp2 (by rw [HM.out.2.2.2]; exact HV.out.1)
          rw [HM.out.2.2.2] at h8; exact h8
        · have hn := HX.out.2.1; rw [List.length_append, List.length_take]; simp only [List.length_cons, List.length_nil]
          omega
        · rw [List.take_add_one, HM.out.2.2.1] at hi
          rcases Nat.lt_or_ge i k with hlt' | hge
          · rw [List.getElem?_append_left (by rw [List.length_take, HX.out.2.1]; omega)] at hi; obtain ⟨m', h7, h6, h5⟩ := HR.out.2.2.1.2 i s' hi; exact ⟨m', h7, h6, by rw [List.getElem?_append_left (by omega)]; exact h5⟩
          · have hlen : (ss.take k).length = k := by rw [List.length_take, HX.out.2.1]; omega
            obtain rfl : i = k := by
              have := (List.getElem?_eq_some_iff.1 hi).1
              simp at this
              omega
            rw [List.getElem?_append_right (by omega), hlen] at hi; simp only [Nat.sub_self, Option.toList_some, List.getElem?_cons_zero, Option.some.injEq] at hi; subst hi; exact ⟨m, HM.out.1, HM.out.2.1, by rw [List.getElem?_append_right (by omega), hFl]; simp⟩
        · exact grownBy_row (grownBy_trans HR.out.2.2.2 HV.out.2) h3 (fun g hg => own1_base HRW.out hg)
      clear h2 h3 HRW HV; go_wp2; go_roundw
      case rel => exact ⟨k + 1, _, _, hlt, by go_num, ⟨oa3, c3, rfl⟩, HN.out.1, HN.out.2.1, HN.out.2.2.1, HN.out.2.2.2⟩
      case measure => simp [intOf]; omega
    · obtain rfl : k = n := by omega
      have hkI : ¬ (k : Int) < (k : Int) := by omega
      go_wp2; go_ret; have e9 : ss.take k = ss := List.take_of_length_le (by rw [HX.out.2.1]; exact Nat.le_refl _); have h9 := HR.out.2.2.1; rw [e9] at h9; have hFl : F.length = k := h9.1.trans HX.out.2.1; refine ⟨oa, k, c, rfl, ⟨ss, F, w1.heap.size, HX.out.1, h9, ⟨oa, c, cells, by rw [hFl], by rw [hFl]; exact HR.out.1, HR.out.2.1⟩, HX.out.2.2.2.size⟩, grownBy_trans HX.out.2.2.2 HR.out.2.2.2⟩
theorem wpList_app2 {P : Program} {w0 : World} {ops : Array Oper} {rest : List Oper} {o : Oper} {a : Act} {Q : Exit → Act → World → Prop} (hgd : o.guard = none) (s x : Operand) (t : TypeId)
    (ho : o.op = .call { callee := .builtin .append, args := #[s, x], argTypes := #[t, t] })
    (base : Nat) (e : TypeId) {z : Value} {size bytes : Nat} (ht : P.underlying t = some (.slice e)) (hi : (P.info? e).map (fun i => (i.zero, i.size, i.bytes)) = some (some z, size, bytes)) (hzs : z.cells.size = size) (hsz : 0 < size)
    (v : Value) (n : Nat) (xs : List Value) (hs : a.eval s = v) (hown : w0.ownsRow base e size v n xs)
    (news : Array Value) (g : Nat) (hg : w0.heap.size = g) (hx : a.eval x = .slice (some ⟨g, 0, none⟩) 1 1) (hl : news.size = size) (h1 : news.toList.all (·.oneCell') = true)
    (hn : n + 1 ≤ 10000000) (hb : bytes ≤ 1000) (hbase : base ≤ w0.heap.size)
    (h : ∀ oa c w', w'.ownsRow base e size (.slice oa (n + 1) c) (n + 1) (xs ++ news.toList) → w0.grownBy w' v.ownBlock → wpList P ops Q rest (a.put o.dst (.slice oa (n + 1) c)) w') : wpList P ops Q (o :: rest) a (w0.alloc (.cells news e)) :=
  wpList_app1 hgd s x t ho base e ht hi hzs hsz v n xs hs hown news g hg hx hl h1 hn hb hbase (fun v' w' h2 h3 h4 => by
    obtain ⟨oa, c, rfl⟩ := h4
    exact h oa c w' h2 h3)
theorem step_run {P : Program} {ops : Array Oper} {o : Oper} {a : Act} {w : World} {K : Act → World → Prop} {Q : Exit → Act → World → Prop} {E : Prop} (hg : o.guard = none) (s x : Operand) (t : TypeId) (hop : o.op = Op.call { callee := Callee.builtin Builtin.append, args := #[s, x], argTypes := #[t, t] }) (vs vx : Value) (hs : a.eval s = vs) (hx : a.eval x = vx) {v' : Value} {w' : World} (hr : (Builtin.append_ #[t, t] o.type #[vs, vx]).run P w = .ok v' w') (hK : K (a.put o.dst v') w') :
    if Region.wanted o (yielded ops a.tmps) = true then Oper.wp P o a w K Q else E := by
  have hw : Region.wanted o (yielded ops a.tmps) = true := by simp [Region.wanted, hg]
  rw [if_pos hw]
  unfold Oper.wp
  simp [execOp, hop, resolve, invoke, builtin, hs, hx, hr, Result.andThen]
  exact hK
def CellsT (w : World) (t : TypeId) (oa : Option Addr) (vs : List Value) : Prop := ∀ (i : Nat) (v : Value), vs[i]? = some v → ∃ b off, oa = some ⟨b, off, none⟩ ∧ w.cell? ⟨b, off + i, none⟩ = some v ∧ ∃ cur f, w.heap[b]? = some (.cells cur t f)
theorem CellsT.nil (w : World) (t : TypeId) (oa : Option Addr) : CellsT w t oa [] := fun i v h => by simp at h
theorem CellsT.grown0 {w w' : World} {t : TypeId} {oa : Option Addr} {vs : List Value} (h : CellsT w t oa vs) (hg : w.grownBy w' none) : CellsT w' t oa vs := fun i v hi => by
  obtain ⟨b, off, h1, h2, cur, f, h3⟩ := h i v hi; have hk := hg.block b (Array.getElem?_eq_some_iff.1 h3).1 (by simp); exact ⟨b, off, h1, (World.cell?_of_block (w := w) (a := ⟨b, off + i, none⟩) hk).trans h2, cur, f, hk.trans h3⟩
theorem CellsT.moves {w w' : World} {t : TypeId} {oa : Option Addr} {vs : List Value} {ts : List TypeId} (h : CellsT w t oa vs) (hM : Moves [] ts w w') (ht : t ∉ ts) : CellsT w' t oa vs := fun i v hi => by
  obtain ⟨b, off, h1, h2, cur, f, h3⟩ := h i v hi; have hk := hM.cells h3 ht (by simp); exact ⟨b, off, h1, (World.cell?_of_block (w := w) (a := ⟨b, off + i, none⟩) (hk.trans h3.symm)).trans h2, cur, f, hk⟩
theorem CellsT.of_own {w : World} {B t s n c : Nat} {oa : Option Addr} {xs : List Value} (h : w.ownsRow B t s (.slice oa n c) n xs) : CellsT w t oa xs := fun i v hi => by
  obtain ⟨hl, ⟨h1, h2⟩ | ⟨g, cap', cur, h1, hb, hg, hc, hm, hs, ht⟩⟩ := h
  · have : xs.length = 0 := by rw [hl, h2]; simp
    rw [List.length_eq_zero_iff.1 this] at hi
    simp at hi
  · simp only [Value.slice.injEq] at h1; obtain ⟨rfl, -, rfl⟩ := h1; refine ⟨g, 0, rfl, ?_, cur, _, hg⟩; rw [cell_of_row w g _ _ _ _ hg]; rw [← ht, List.getElem?_take] at hi
    split at hi
    · simpa using hi
    · cases hi
def BV (w : World) (v : Value) (D : List Nat) : Prop := (∀ z ∈ D, z < 256) ∧ ∃ oa c, v = .slice oa D.length c ∧ CellsT w 5 oa (D.map bv) ∧ D.length ≤ c
theorem BV.grown0 {w w' : World} {v : Value} {D : List Nat} (h : BV w v D) (hg : w.grownBy w' none) : BV w' v D := by
  obtain ⟨h0, oa, c, h1, h2, h3⟩ := h; exact ⟨h0, oa, c, h1, h2.grown0 hg, h3⟩
theorem BV.moves {w w' : World} {v : Value} {D : List Nat} {ts : List TypeId} (h : BV w v D) (hM : Moves [] ts w w') (ht : 5 ∉ ts) : BV w' v D := by
  obtain ⟨h0, oa, c, h1, h2, h3⟩ := h; exact ⟨h0, oa, c, h1, h2.moves hM ht, h3⟩
theorem CellsT.sl {w : World} {oa : Option Addr} {D : List Nat} (h : CellsT w 5 oa (D.map bv)) (h0 : ∀ z ∈ D, z < 256) : SlB w oa D.length D := by
  refine ⟨rfl, h0, fun hn => ?_⟩; obtain ⟨b, off, h1, -⟩ := h 0 (bv (D[0]'(by omega))) (by simp [show 0 < D.length by omega]); refine ⟨b, off, h1, fun i hi => ?_⟩; obtain ⟨b', off', h1', h2', -⟩ := h i (bv (D[i]'hi)) (by simp [hi]); rw [h1] at h1'; simp only [Option.some.injEq, Addr.mk.injEq, and_true] at h1'; obtain ⟨rfl, rfl⟩ := h1'; rw [h2']
  simp [bv, List.getD, hi]
theorem BV.sl {w : World} {v : Value} {D : List Nat} (h : BV w v D) : ∃ oa c, v = .slice oa D.length c ∧ SlB w oa D.length D ∧ D.length ≤ c := by
  obtain ⟨h0, oa, c, h1, h2, h3⟩ := h; exact ⟨oa, c, h1, h2.sl h0, h3⟩
theorem BV.of_row {w : World} {B : Nat} {v : Value} {D : List Nat} (h : BRow w B v D) : BV w v D := by
  obtain ⟨hz, ⟨rfl, oa, rfl⟩ | ⟨g, cap, rfl, hc, ho⟩⟩ := h
  · exact ⟨hz, oa, 0, rfl, CellsT.nil _ _ _, Nat.le_refl _⟩
  · exact ⟨hz, _, cap, rfl, CellsT.of_own ho, ownsRow_le ho⟩
structure Dm where
  ss : List ByteArray
  zs : List Nat
  ds : List (List Nat)
structure Dm.Sm (m : Dm) (N Z L : Nat) : Prop where
  eq : m.ss.length = m.zs.length
  ns : m.ss.length ≤ N
  nd : m.ds.length ≤ Z + 1
  z : ∀ x ∈ m.zs, x ≤ Z
  s : ∀ x ∈ m.ss, x.size ≤ 1000
  d : ∀ x ∈ m.ds, x.length ≤ L
theorem Dm.Sm.mono {m : Dm} {N N' Z Z' L L' : Nat} (h : m.Sm N Z L) (h1 : N ≤ N') (h2 : Z ≤ Z') (h3 : L ≤ L') : m.Sm N' Z' L' := ⟨h.eq, Nat.le_trans h.ns h1, by have := h.nd; omega, fun x hx => Nat.le_trans (h.z x hx) h2, h.s, fun x hx => Nat.le_trans (h.d x hx) h3⟩
def RS (w : World) (v : Value) (ss : List ByteArray) : Prop := ∃ oa c, v = .slice oa ss.length c ∧ CellsT w 9 oa (ss.map Value.string) ∧ ss.length ≤ c
def iN (z : Nat) : Value := .int .i64 (z : Int)
def RI (w : World) (v : Value) (zs : List Int) : Prop := ∃ oa c, v = .slice oa zs.length c ∧ CellsT w 3 oa (zs.map (Value.int .i64)) ∧ zs.length ≤ c
def RB (w : World) (v : Value) (ds : List (List Nat)) : Prop := ∃ oa c vs, v = .slice oa ds.length c ∧ CellsT w 22 oa vs ∧ vs.length = ds.length ∧ ds.length ≤ c ∧ ∀ (i : Nat) (u : Value) (d : List Nat), vs[i]? = some u → ds[i]? = some d → BV w u d
theorem RS.grown0 {w w' : World} {v : Value} {ss : List ByteArray} (h : RS w v ss) (hg : w.grownBy w' none) : RS w' v ss := by
  obtain ⟨oa, c, h1, h2, h3⟩ := h; exact ⟨oa, c, h1, h2.grown0 hg, h3⟩
theorem RI.grown0 {w w' : World} {v : Value} {zs : List Int} (h : RI w v zs) (hg : w.grownBy w' none) : RI w' v zs := by
  obtain ⟨oa, c, h1, h2, h3⟩ := h; exact ⟨oa, c, h1, h2.grown0 hg, h3⟩
theorem RB.grown0 {w w' : World} {v : Value} {ds : List (List Nat)} (h : RB w v ds) (hg : w.grownBy w' none) : RB w' v ds := by
  obtain ⟨oa, c, vs, h1, h2, h3, h4, h5⟩ := h; exact ⟨oa, c, vs, h1, h2.grown0 hg, h3, h4, fun i u d hi hd => (h5 i u d hi hd).grown0 hg⟩
theorem RS.moves {w w' : World} {v : Value} {ss : List ByteArray} {ts : List TypeId} (h : RS w v ss) (hM : Moves [] ts w w') (ht : 9 ∉ ts) : RS w' v ss := by
  obtain ⟨oa, c, h1, h2, h3⟩ := h; exact ⟨oa, c, h1, h2.moves hM ht, h3⟩
theorem RI.moves {w w' : World} {v : Value} {zs : List Int} {ts : List TypeId} (h : RI w v zs) (hM : Moves [] ts w w') (ht : 3 ∉ ts) : RI w' v zs := by
  obtain ⟨oa, c, h1, h2, h3⟩ := h; exact ⟨oa, c, h1, h2.moves hM ht, h3⟩
theorem RB.moves {w w' : World} {v : Value} {ds : List (List Nat)} {ts : List TypeId} (h : RB w v ds) (hM : Moves [] ts w w') (ht : 22 ∉ ts) (ht2 : 5 ∉ ts) : RB w' v ds := by
  obtain ⟨oa, c, vs, h1, h2, h3, h4, h5⟩ := h; exact ⟨oa, c, vs, h1, h2.moves hM ht, h3, h4, fun i u d hi hd => (h5 i u d hi hd).moves hM ht2⟩
structure DirAt (w : World) (v0 v1 v2 : Value) (m : Dm) : Prop where
  s : RS w v0 m.ss
  z : RI w v1 (m.zs.map (fun z : Nat => (z : Int)))
  d : RB w v2 m.ds
theorem DirAt.grown0 {w w' : World} {v0 v1 v2 : Value} {m : Dm} (h : DirAt w v0 v1 v2 m) (hg : w.grownBy w' none) : DirAt w' v0 v1 v2 m := ⟨h.s.grown0 hg, h.z.grown0 hg, h.d.grown0 hg⟩
theorem DirAt.moves {w w' : World} {v0 v1 v2 : Value} {m : Dm} {ts : List TypeId} (h : DirAt w v0 v1 v2 m) (hM : Moves [] ts w w') (ht : ∀ t ∈ ts, t ≠ 9 ∧ t ≠ 3 ∧ t ≠ 22 ∧ t ≠ 5) : DirAt w' v0 v1 v2 m :=
  ⟨h.s.moves hM (fun hc => (ht _ hc).1 rfl), h.z.moves hM (fun hc => (ht _ hc).2.1 rfl), h.d.moves hM (fun hc => (ht _ hc).2.2.1 rfl) (fun hc => (ht _ hc).2.2.2 rfl)⟩
theorem RS.at {w : World} {oa : Option Addr} {n c : Nat} {ss : List ByteArray} (h : RS w (.slice oa n c) ss) (k : Nat) (hk : k < n) : ∃ b off s, oa = some ⟨b, off, none⟩ ∧ ss[k]? = some s ∧ w.cell? ⟨b, off + k, none⟩ = some (.string s) := by
  obtain ⟨oa', c', h1, h2, -⟩ := h; simp only [Value.slice.injEq] at h1; obtain ⟨rfl, rfl, rfl⟩ := h1; obtain ⟨b, off, e1, e2, -⟩ := h2 k (.string (ss[k]'hk)) (by simp [hk]); exact ⟨b, off, ss[k]'hk, e1, List.getElem?_eq_getElem hk, e2⟩
theorem RI.at {w : World} {oa : Option Addr} {n c : Nat} {zs : List Int} (h : RI w (.slice oa n c) zs) (k : Nat) (hk : k < n) : ∃ b off z, oa = some ⟨b, off, none⟩ ∧ zs[k]? = some z ∧ w.cell? ⟨b, off + k, none⟩ = some (.int .i64 z) := by
  obtain ⟨oa', c', h1, h2, -⟩ := h; simp only [Value.slice.injEq] at h1; obtain ⟨rfl, rfl, rfl⟩ := h1; obtain ⟨b, off, e1, e2, -⟩ := h2 k (.int .i64 (zs[k]'hk)) (by simp [hk]); exact ⟨b, off, zs[k]'hk, e1, List.getElem?_eq_getElem hk, e2⟩
theorem RB.at {w : World} {oa : Option Addr} {n c : Nat} {ds : List (List Nat)} (h : RB w (.slice oa n c) ds) (k : Nat) (hk : k < n) : ∃ b off u d, oa = some ⟨b, off, none⟩ ∧ ds[k]? = some d ∧ w.cell? ⟨b, off + k, none⟩ = some u ∧ BV w u d := by
  obtain ⟨oa', c', vs, h1, h2, h3, -, h5⟩ := h; simp only [Value.slice.injEq] at h1; obtain ⟨rfl, rfl, rfl⟩ := h1
  have hk' : k < vs.length := by omega
  obtain ⟨b, off, e1, e2, -⟩ := h2 k (vs[k]'hk') (List.getElem?_eq_getElem hk'); exact ⟨b, off, vs[k]'hk', ds[k]'hk, e1, List.getElem?_eq_getElem hk, e2, h5 k _ _ (List.getElem?_eq_getElem hk') (List.getElem?_eq_getElem hk)⟩
theorem DirAt.vals {w : World} {v0 v1 v2 : Value} {m : Dm} (h : DirAt w v0 v1 v2 m) : ∃ a0 n0 c0 a1 n1 c1 a2 n2 c2, v0 = .slice a0 n0 c0 ∧ v1 = .slice a1 n1 c1 ∧ v2 = .slice a2 n2 c2 ∧ m.ss.length = n0 ∧ m.zs.length = n1 ∧ m.ds.length = n2 ∧ n0 ≤ c0 ∧ n1 ≤ c1 ∧ n2 ≤ c2 := by
  obtain ⟨oa, c, hv0, -, hc0⟩ := h.s; obtain ⟨oa1, c1, hv1, -, hc1⟩ := h.z; obtain ⟨oa2, c2, vs2, hv2, -, -, hc2, -⟩ := h.d; rw [List.length_map] at hv1 hc1; exact ⟨oa, _, c, oa1, _, c1, oa2, _, c2, hv0, hv1, hv2, rfl, rfl, rfl, hc0, hc1, hc2⟩
theorem Tryz.infoInt : (Tryz.prog.info? 3).map (fun i => (i.zero, i.size, i.bytes)) = some (some (.int .i64 0), 1, 8) := by kernel_rfl
theorem Tryz.sizeDir : (Tryz.prog.info? 60).map (·.size) = some 3 := by kernel_rfl
theorem results_dir {fn : Func} {t : Tmp} {w : World} {g : Nat} {vs : List Value} {tmps : Array Value} (h : fn.results = #[.cell t 60]) (ht : tmps.getD t undef = .pointer (some ⟨g, 0, none⟩)) (hg : w.heap[g]? = some (.cells vs.toArray 60 (0, 0))) (hl : vs.length = 3) : (results fn tmps).run Tryz.prog w = .ok (.agg vs.toArray) w := by
  have h1 := run_loadVar_mid (P := Tryz.prog) w g 0 60 vs _ (range_blk hg) Tryz.underlying60 rfl (by rw [hl]; exact Tryz.sizeDir); exact results_ret h ht h1
def PutOk (m m' : Dm) (nm : ByteArray) (body : Int) : Prop := m'.ds = m.ds ∧ m'.ss.length = m'.zs.length ∧ m'.ss.length ≤ m.ss.length + 1 ∧ (∀ s ∈ m'.ss, s ∈ m.ss ∨ s = nm) ∧ ∀ z ∈ m'.zs, z ∈ m.zs ∨ (z : Int) = body
theorem PutOk.sm {m m' : Dm} {nm : ByteArray} {body : Int} {N Z L : Nat} (h : PutOk m m' nm body) (hs : m.Sm N Z L) (hn : nm.size ≤ 1000) (hb : body ≤ (Z : Int)) : m'.Sm (N + 1) Z L := by
  obtain ⟨h1, h2, h3, h4, h5⟩ := h; refine ⟨h2, by have := hs.ns; omega, by rw [h1]; exact hs.nd, fun z hz => ?_, fun s hss => ?_, fun d hd => ?_⟩
  · rcases h5 z hz with h | h
    · exact hs.z z h
    · omega
  · rcases h4 s hss with h | rfl
    · exact hs.s s h
    · exact hn
  · rw [h1] at hd; exact hs.d d hd
theorem own_le {w : World} {B e s n c : Nat} {oa : Option Addr} {xs : List Value} (h : w.ownsRow B e s (.slice oa n c) n xs) : n ≤ c := by
  rcases h.2 with ⟨h1, h2⟩ | ⟨g, cap', cur, h1, hb, hg, hc, -⟩
  · omega
  · simp only [Value.slice.injEq] at h1; obtain ⟨-, -, rfl⟩ := h1; exact hc
theorem RS.of_own {w : World} {B n c : Nat} {oa : Option Addr} {ss : List ByteArray} (h : w.ownsRow B 9 1 (.slice oa n c) ss.length (ss.map Value.string)) (hn : n = ss.length) : RS w (.slice oa n c) ss := by
  subst hn; exact ⟨oa, c, rfl, CellsT.of_own h, own_le h⟩
theorem RI.of_own {w : World} {B n c : Nat} {oa : Option Addr} {zs : List Nat} (h : w.ownsRow B 3 1 (.slice oa n c) zs.length (zs.map iN)) (hn : n = zs.length) : RI w (.slice oa n c) (zs.map (fun z : Nat => (z : Int))) := by
  subst hn; refine ⟨oa, c, by simp, ?_, by rw [List.length_map]; exact own_le h⟩; rw [List.map_map]; exact CellsT.of_own h
def PutMem (m : Dm) (ss : List ByteArray) (zs : List Nat) : Prop := (∀ s ∈ ss, s ∈ m.ss) ∧ ∀ z ∈ zs, z ∈ m.zs
structure PutSt (w wr : World) (v0 v1 v2 : Value) (k : Nat) (u0 u1 : Value) (ss : List ByteArray) (zs : List Nat) : Prop where
  box : wr.heap[w.heap.size]? = some (.cells #[v0, v1, v2] 60 (0, 0))
  res : wr.heap[w.heap.size + 1]? = some (.cells #[.slice none 0 0, .slice none 0 0, .slice none 0 0] 60 (0, 0))
  out : wr.heap[w.heap.size + 1 + 1]? = some (.cells #[u0, u1, v2] 60 (0, 0))
  r0 : wr.ownsRow w.heap.size 9 1 u0 ss.length (ss.map Value.string)
  r1 : wr.ownsRow w.heap.size 3 1 u1 zs.length (zs.map iN)
  len : ss.length = zs.length
  le : ss.length ≤ k
  gr : w.grownBy wr none
theorem PutSt.names {w wr w' : World} {v0 v1 v2 : Value} {k : Nat} {u0 u1 : Value} {ss : List ByteArray} {zs : List Nat} (h : PutSt w wr v0 v1 v2 k u0 u1 ss zs) (hg : wr.grownBy w' u0.ownBlock) :
    w'.heap[w.heap.size]? = some (.cells #[v0, v1, v2] 60 (0, 0)) ∧ w'.heap[w.heap.size + 1]? = some (.cells #[.slice none 0 0, .slice none 0 0, .slice none 0 0] 60 (0, 0)) ∧ w'.heap[w.heap.size + 1 + 1]? = some (.cells #[u0, u1, v2] 60 (0, 0)) ∧ w'.ownsRow w.heap.size 3 1 u1 zs.length (zs.map iN) ∧ w.grownBy w' none :=
  ⟨blk_own hg h.r0 h.box (by decide), blk_own hg h.r0 h.res (by decide), blk_own hg h.r0 h.out (by decide), own1_kept h.r1 hg (fun kk hkk hc => own_types h.r0 h.r1 (by decide) hc hkk), grownBy_row h.gr hg (fun g hg' => own1_base h.r0 hg')⟩
theorem PutSt.bodies {w wr w' : World} {v0 v1 v2 : Value} {u0 u1 : Value} {ss : List ByteArray} {zs : List Nat} (hbox : wr.heap[w.heap.size]? = some (.cells #[v0, v1, v2] 60 (0, 0))) (hres : wr.heap[w.heap.size + 1]? = some (.cells #[.slice none 0 0, .slice none 0 0, .slice none 0 0] 60 (0, 0))) (hout : wr.heap[w.heap.size + 1 + 1]? = some (.cells #[u0, u1, v2] 60 (0, 0))) (h0 : wr.ownsRow w.heap.size 9 1 u0 ss.length (ss.map Value.string)) (h1 : wr.ownsRow w.heap.size 3 1 u1 zs.length (zs.map iN)) (hgr : w.grownBy wr none) (hg : wr.grownBy w' u1.ownBlock) :
    w'.heap[w.heap.size]? = some (.cells #[v0, v1, v2] 60 (0, 0)) ∧ w'.heap[w.heap.size + 1]? = some (.cells #[.slice none 0 0, .slice none 0 0, .slice none 0 0] 60 (0, 0)) ∧ w'.heap[w.heap.size + 1 + 1]? = some (.cells #[u0, u1, v2] 60 (0, 0)) ∧ w'.ownsRow w.heap.size 9 1 u0 ss.length (ss.map Value.string) ∧ w.grownBy w' none :=
  ⟨blk_own hg h1 hbox (by decide), blk_own hg h1 hres (by decide), blk_own hg h1 hout (by decide), own1_kept h0 hg (fun kk hkk hc => own_types h1 h0 (by decide) hc hkk), grownBy_row hgr hg (fun g hg' => own1_base h1 hg')⟩
theorem PutSt.fin {w wr : World} {v0 v1 v2 : Value} {k : Nat} {u0 u1 : Value} {ss : List ByteArray} {zs : List Nat} {ds : List (List Nat)} (h : PutSt w wr v0 v1 v2 k u0 u1 ss zs) (hd : RB w v2 ds) : (wr.setCells (w.heap.size + 1) 0 [u0, u1, v2]).heap[w.heap.size + 1]? = some (.cells [u0, u1, v2].toArray 60 (0, 0)) ∧ DirAt (wr.setCells (w.heap.size + 1) 0 [u0, u1, v2]) u0 u1 v2 ⟨ss, zs, ds⟩ ∧ w.grownBy (wr.setCells (w.heap.size + 1) 0 [u0, u1, v2]) none := by
  have hg : w.grownBy (wr.setCells (w.heap.size + 1) 0 [u0, u1, v2]) none := grownBy_setCellsN (Nat.le_succ _) _ _ _ h.gr
  have hoth : ∀ j, j ≠ w.heap.size + 1 → (wr.setCells (w.heap.size + 1) 0 [u0, u1, v2]).heap[j]? = wr.heap[j]? := fun j hj => setCells_oth _ j hj _ _ _
  have r0 := own1_keepT h.r0 h.res (by decide) hoth; have r1 := own1_keepT h.r1 h.res (by decide) hoth; obtain ⟨ua, uc, rfl⟩ := own1_is h.r0; obtain ⟨za, zc, rfl⟩ := own1_is h.r1; exact ⟨setCells_all h.res rfl, ⟨RS.of_own r0 rfl, RI.of_own r1 rfl, hd.grown0 hg⟩, hg⟩
set_option maxRecDepth 20000 in
set_option maxHeartbeats 8000000 in
theorem put_any (v0 v1 v2 : Value) (m : Dm) (nm : ByteArray) (body : Int) (K Z L : Nat) (w : World) (h : DirAt w v0 v1 v2 m) (hs : m.Sm K Z L) (hK : K ≤ 1000000) (hb : -1 ≤ body) :
    Calls Tryz.prog 54 #[.agg #[v0, v1, v2], .string nm, .int .i64 body] w fun e w' => ∃ u0 u1, e = .returned (.agg #[u0, u1, v2]) ∧ (∃ m', DirAt w' u0 u1 v2 m' ∧ PutOk m m' nm body) ∧ w.grownBy w' none := by
  obtain ⟨a0, n0, c0, a1, n1, c1, a2, n2, c2, rfl, rfl, rfl, hn0, hn1, hn2, -⟩ := h.vals; have HD : Hid (DirAt w (.slice a0 n0 c0) (.slice a1 n1 c1) (.slice a2 n2 c2) m ∧ m.ss.length = n0 ∧ m.zs.length = n1 ∧ m.Sm K Z L) := ⟨h, hn0, hn1, hs⟩
  have hnn : n0 = n1 := by rw [← hn0, ← hn1]; exact hs.eq
  have hnK : n0 ≤ K := by rw [← hn0]; exact hs.ns
  subst hnn
  have HS0 : Hid (PutSt w (((w.alloc (.cells #[.slice a0 n0 c0, .slice a1 n0 c1, .slice a2 n2 c2] 60)).alloc (.cells #[.slice none 0 0, .slice none 0 0, .slice none 0 0] 60)).alloc (.cells #[.slice none 0 0, .slice none 0 0, .slice a2 n2 c2] 60)) (.slice a0 n0 c0) (.slice a1 n0 c1) (.slice a2 n2 c2) 0 (.slice none 0 0) (.slice none 0 0) [] []) := by
    have e1 : (w.alloc (.cells #[.slice a0 n0 c0, .slice a1 n0 c1, .slice a2 n2 c2] 60)).heap.size = w.heap.size + 1 := by simp
    have e2 : ((w.alloc (.cells #[.slice a0 n0 c0, .slice a1 n0 c1, .slice a2 n2 c2] 60)).alloc (.cells #[.slice none 0 0, .slice none 0 0, .slice none 0 0] 60)).heap.size = w.heap.size + 1 + 1 := by simp
    refine ⟨?_, ?_, ?_, World.ownsRow_nil _ _ _ _, World.ownsRow_nil _ _ _ _, rfl, Nat.le_refl _, grownBy_alloc (grownBy_alloc (grownBy_alloc (grownBy_refl _ _) _) _) _⟩
    · exact grown_blk (World.grownBy_alloc _ _ none) (grown_blk (World.grownBy_alloc _ _ none) (heap_alloc_new w _))
    · rw [← e1]; exact grown_blk (World.grownBy_alloc _ _ none) (heap_alloc_new _ _)
    · rw [← e2]; exact heap_alloc_new _ _
  clear h hs hn0 hn1 hn2
  go_enter Tryz.func54, Tryz.ntmps54
  go_wp2; generalize ((w.alloc (.cells #[.slice a0 n0 c0, .slice a1 n0 c1, .slice a2 n2 c2] 60)).alloc (.cells #[.slice none 0 0, .slice none 0 0, .slice none 0 0] 60)).alloc (.cells #[.slice none 0 0, .slice none 0 0, .slice a2 n2 c2] 60) = W0 at HS0 ⊢
  try go_frame
  go_loopw [16] (fun iv wr => ∃ (k : Nat) (u0 u1 : Value) (ss : List ByteArray) (zs : List Nat), k ≤ n0 ∧ iv = .int .i64 (k : Int) ∧ PutSt w wr (.slice a0 n0 c0) (.slice a1 n0 c1) (.slice a2 n2 c2) k u0 u1 ss zs ∧ PutMem m ss zs) (fun iv _ => n0 - (intOf iv).toNat)
  case atStart => exact ⟨0, _, _, [], [], Nat.zero_le _, rfl, HS0.out, by simp, by simp⟩
  case round =>
    obtain ⟨k, u0, u1, ss, zs, hk, rfl, hst, hmem⟩ := hrel; have HT : Hid (PutSt w wr (.slice a0 n0 c0) (.slice a1 n0 c1) (.slice a2 n2 c2) k u0 u1 ss zs ∧ PutMem m ss zs) := ⟨hst, hmem⟩; obtain ⟨ua, uc, hu0⟩ := own1_is hst.r0; obtain ⟨za, zc, hu1⟩ := own1_is hst.r1; subst hu0 hu1; obtain ⟨un, hun⟩ : ∃ y, ss.length = y := ⟨_, rfl⟩
    have hle : un ≤ k := by rw [← hun]; exact hst.le
    have hzn : zs.length = un := by rw [← hun]; exact hst.len.symm
    have HL : Hid (ss.length = un ∧ zs.length = un) := ⟨hun, hzn⟩; rw [hun, hzn] at HT
    have hcn : wr.cell? ⟨w.heap.size + 1 + 1, 0, none⟩ = some (.slice ua un uc) := by
      have h9 := hst.out; rw [hun] at h9; exact (zCr h9).trans rfl
    clear hst hmem hun hzn HS0
    by_cases hlt : k < n0
    · have hDk := HD.out.1.grown0 HT.out.1.gr; obtain ⟨sb, soff, s, rfl, hss, q0⟩ := hDk.s.at k hlt; obtain ⟨zb, zoff, z', rfl, hzz, q1⟩ := hDk.z.at k hlt
      obtain ⟨z, hz, rfl⟩ : ∃ z : Nat, z ∈ m.zs ∧ z' = (z : Int) := by
        rw [List.getElem?_map] at hzz; obtain ⟨z, h1, h2⟩ := Option.map_eq_some_iff.1 hzz; exact ⟨z, List.mem_of_getElem? h1, h2.symm⟩
      have HE : Hid (s ∈ m.ss ∧ z ∈ m.zs) := ⟨List.mem_of_getElem? hss, hz⟩
      have hkI : (k : Int) < (n0 : Int) := by omega
      have v1 : IntKind.i64.wrap ((k : Int) + 1) = (k : Int) + 1 := IntWalk.i64_in _ (by omega); clear hDk hss hzz hz
      rcases he : (s.toList == nm.toList) with _ | _
      · have hB0 : w.heap.size ≤ wr.heap.size := HT.out.1.gr.size
        have HR0 : Hid (wr.ownsRow w.heap.size 9 1 (.slice ua un uc) un (ss.map Value.string)) := by
          have h9 := HT.out.1.r0; rw [HL.out.1] at h9; exact h9
        go_wp2_with (at_builtin; refine wpList_app2 rfl _ _ 52 rfl w.heap.size 9 Tryz.underlying52 Tryz.infoStr rfl (by decide) (.slice ua un uc) un (ss.map Value.string) rfl HR0.out #[.string s] wr.heap.size rfl rfl rfl rfl (by omega) (by decide) hB0 ?_)
        intro ua2 uc2 w2 h2 h3; obtain ⟨b1, b2, b3, b4, b5⟩ := HT.out.1.names h3; have kq : w2.cell? ⟨w.heap.size + 1 + 1, 0, none⟩ = some (.slice ua un uc) := (zCr b3).trans rfl
        have kf : w2.frozen? ⟨w.heap.size + 1 + 1, 0, none⟩ = false := by simp [World.frozen?, b3]
        have HW : Hid ((w2.setCell ⟨w.heap.size + 1 + 1, 0, none⟩ (.slice ua2 (un + 1) uc2)).heap[w.heap.size]? = some (.cells #[.slice (some ⟨sb, soff, none⟩) n0 c0, .slice (some ⟨zb, zoff, none⟩) n0 c1, .slice a2 n2 c2] 60 (0, 0)) ∧ (w2.setCell ⟨w.heap.size + 1 + 1, 0, none⟩ (.slice ua2 (un + 1) uc2)).heap[w.heap.size + 1]? = some (.cells #[.slice none 0 0, .slice none 0 0, .slice none 0 0] 60 (0, 0)) ∧ (w2.setCell ⟨w.heap.size + 1 + 1, 0, none⟩ (.slice ua2 (un + 1) uc2)).heap[w.heap.size + 1 + 1]? = some (.cells #[.slice ua2 (un + 1) uc2, .slice za un zc, .slice a2 n2 c2] 60 (0, 0)) ∧ (w2.setCell ⟨w.heap.size + 1 + 1, 0, none⟩ (.slice ua2 (un + 1) uc2)).ownsRow w.heap.size 9 1 (.slice ua2 (un + 1) uc2) (un + 1) (ss.map Value.string ++ [.string s]) ∧ (w2.setCell ⟨w.heap.size + 1 + 1, 0, none⟩ (.slice ua2 (un + 1) uc2)).ownsRow w.heap.size 3 1 (.slice za un zc) un (zs.map iN) ∧ w.grownBy (w2.setCell ⟨w.heap.size + 1 + 1, 0, none⟩ (.slice ua2 (un + 1) uc2)) none ∧ (w2.setCell ⟨w.heap.size + 1 + 1, 0, none⟩ (.slice ua2 (un + 1) uc2)).cell? ⟨zb, zoff + k, none⟩ = some (.int .i64 (z : Int))) := by
          have hg9 : w.grownBy (w2.setCell ⟨w.heap.size + 1 + 1, 0, none⟩ (.slice ua2 (un + 1) uc2)) none := grownBy_setNew b5 (by show w.heap.size ≤ w.heap.size + 1 + 1; omega); refine ⟨(heap_setCell_other w2 ⟨w.heap.size + 1 + 1, 0, none⟩ _ _ (by show w.heap.size ≠ w.heap.size + 1 + 1; omega)).trans b1, (heap_setCell_other w2 ⟨w.heap.size + 1 + 1, 0, none⟩ _ _ (by show w.heap.size + 1 ≠ w.heap.size + 1 + 1; omega)).trans b2, (heap_setCell_same w2 _ 0 _ _ _ b3).trans rfl, own1_setT h2 b3 (by decide), own1_setT (by rw [HL.out.2] at b4; exact b4) b3 (by decide), hg9, ?_⟩; obtain ⟨zb', zoff', z'', h7, h8, h9⟩ := (HD.out.1.grown0 hg9).z.at k hlt; simp only [Option.some.injEq, Addr.mk.injEq, and_true] at h7; obtain ⟨rfl, rfl⟩ := h7; obtain ⟨zb2, zoff2, z2, h7, h8', h9'⟩ := (HD.out.1.grown0 HT.out.1.gr).z.at k hlt; simp only [Option.some.injEq, Addr.mk.injEq, and_true] at h7; obtain ⟨rfl, rfl⟩ := h7; rw [h8] at h8'; obtain rfl := Option.some.inj h8'; rw [q1] at h9'; rw [h9, h9']
        clear h2 h3 b1 b2 b3 b4 b5 HR0
        go_upto_region 7 with fail
        generalize w2.setCell ⟨w.heap.size + 1 + 1, 0, none⟩ (.slice ua2 (un + 1) uc2) = W3 at HW ⊢; clear kq kf q0 q1 hcn; refine wp_region_Z (fun Y => Y.heap[w.heap.size]? = some (.cells #[.slice (some ⟨sb, soff, none⟩) n0 c0, .slice (some ⟨zb, zoff, none⟩) n0 c1, .slice a2 n2 c2] 60 (0, 0)) ∧ Y.heap[w.heap.size + 1 + 1]? = some (.cells #[.slice ua2 (un + 1) uc2, .slice za un zc, .slice a2 n2 c2] 60 (0, 0)) ∧ Y.cell? ⟨zb, zoff + k, none⟩ = some (.int .i64 (z : Int))) (fun j => j == 10) (by kernel_rfl) ?_; have hS : W3.drew.heap[w.heap.size]? = some (.cells #[.slice (some ⟨sb, soff, none⟩) n0 c0, .slice (some ⟨zb, zoff, none⟩) n0 c1, .slice a2 n2 c2] 60 (0, 0)) ∧ W3.drew.heap[w.heap.size + 1 + 1]? = some (.cells #[.slice ua2 (un + 1) uc2, .slice za un zc, .slice a2 n2 c2] 60 (0, 0)) ∧ W3.drew.cell? ⟨zb, zoff + k, none⟩ = some (.int .i64 (z : Int)) := ⟨HW.out.1, HW.out.2.2.1, HW.out.2.2.2.2.2.2⟩; refine zTk 0 ?_; simp only [Act.put, zq1, zq2, zq3]; refine zLd 1 10 rfl hS (by intro W hW; have c0 : W.cell? ⟨w.heap.size + 1 + 1, 1, none⟩ = some (.slice za un zc) := (zCr hW.2.1).trans rfl; go_simp; first | done | with_reducible rfl) ?_; simp only [Act.put, zq1, zq2, zq3]; refine zTk 2 ?_; simp only [Act.put, zq1, zq2, zq3]; refine zLd 3 10 rfl hS (by intro W hW; have c0 : W.cell? ⟨w.heap.size, 1, none⟩ = some (.slice (some ⟨zb, zoff, none⟩) n0 c1) := (zCr hW.1).trans rfl; go_simp; first | done | with_reducible rfl) ?_; simp only [Act.put, zq1, zq2, zq3]; refine zTk 4 ?_; simp only [Act.put, zq1, zq2, zq3]; refine zTk 5 ?_; simp only [Act.put, zq1, zq2, zq3]; refine zLd 6 10 rfl hS (by intro W hW; have c0 := hW.2.2; go_simp; first | done | with_reducible rfl) ?_; simp only [Act.put, zq1, zq2, zq3]; clear hS; refine wpAnyZ_one' (i := 7) (by kernel_rfl) rfl (fun K hK => ?_); go_simp; have hga : W3.grownBy (W3.alloc (.cells #[.int .i64 (z : Int)] 3)).drew none := grownBy_drew (World.grownBy_alloc W3 _ none); refine hK.out _ _ (fun _ _ => ⟨grown_blk hga HW.out.1, grown_blk hga HW.out.2.2.1, ((bcell hga).1 _ _ (cell_block_lt HW.out.2.2.2.2.2.2)).trans HW.out.2.2.2.2.2.2⟩) ?_; clear hK K; (try simp only [Act.put, zq1, zq2, zq3]); obtain ⟨za2, zc2, w4, hrun4, ho4, hg4⟩ := run_app1 (P := Tryz.prog) (w0 := W3.drew) 57 57 w.heap.size 3 Tryz.underlying57 Tryz.infoInt rfl (by decide) (.slice za un zc) un (zs.map iN) HW.out.2.2.2.2.1 #[.int .i64 (z : Int)] W3.heap.size rfl rfl rfl (by omega) (by decide) HW.out.2.2.2.2.2.1.size; have hrun4' : (Builtin.append_ #[57, 57] 57 #[.slice za un zc, .slice (some ⟨W3.heap.size, 0, none⟩) 1 1]).run Tryz.prog (W3.alloc (.cells #[.int .i64 (z : Int)] 3)).drew = .ok (.slice za2 (un + 1) zc2) w4 := hrun4; have hg4' : W3.grownBy w4 (Value.slice za un zc).ownBlock := ⟨hg4.os, hg4.tape, hg4.output, hg4.size, hg4.block⟩; obtain ⟨b1, b2, b3, b4, b5⟩ := PutSt.bodies (ss := ss ++ [s]) (zs := zs) HW.out.1 HW.out.2.1 HW.out.2.2.1 (by rw [List.length_append, HL.out.1, List.map_append]; exact HW.out.2.2.2.1) (by rw [HL.out.2]; exact HW.out.2.2.2.2.1) HW.out.2.2.2.2.2.1 hg4'; have HW4 : Hid (w4.heap[w.heap.size]? = some (.cells #[.slice (some ⟨sb, soff, none⟩) n0 c0, .slice (some ⟨zb, zoff, none⟩) n0 c1, .slice a2 n2 c2] 60 (0, 0)) ∧ w4.heap[w.heap.size + 1]? = some (.cells #[.slice none 0 0, .slice none 0 0, .slice none 0 0] 60 (0, 0)) ∧ w4.heap[w.heap.size + 1 + 1]? = some (.cells #[.slice ua2 (un + 1) uc2, .slice za un zc, .slice a2 n2 c2] 60 (0, 0)) ∧ w4.ownsRow w.heap.size 9 1 (.slice ua2 (un + 1) uc2) (ss ++ [s]).length ((ss ++ [s]).map Value.string) ∧ w4.ownsRow w.heap.size 3 1 (.slice za2 (un + 1) zc2) (un + 1) (zs.map iN ++ [.int .i64 (z : Int)]) ∧ w.grownBy w4 none) := ⟨b1, b2, b3, b4, ho4, b5⟩; have kq : w4.cell? ⟨w.heap.size + 1 + 1, 1, none⟩ = some (.slice za un zc) := (zCr b3).trans rfl
        have kf : w4.frozen? ⟨w.heap.size + 1 + 1, 1, none⟩ = false := by simp [World.frozen?, b3]
        have kz : w4.cell? ⟨zb, zoff + k, none⟩ = some (.int .i64 (z : Int)) := by
          obtain ⟨zb', zoff', z'', h7, h8, h9⟩ := (HD.out.1.grown0 b5).z.at k hlt; simp only [Option.some.injEq, Addr.mk.injEq, and_true] at h7; obtain ⟨rfl, rfl⟩ := h7; obtain ⟨zb2, zoff2, z2, h7, h8', h9'⟩ := (HD.out.1.grown0 HW.out.2.2.2.2.2.1).z.at k hlt; simp only [Option.some.injEq, Addr.mk.injEq, and_true] at h7; obtain ⟨rfl, rfl⟩ := h7; rw [h8] at h8'; obtain rfl := Option.some.inj h8'; rw [HW.out.2.2.2.2.2.2] at h9'; rw [h9, h9']
        refine wpAnyZ_one' (i := 8) (by kernel_rfl) rfl (fun K hK => ?_); refine step_run (by rfl) (.tmp 31) (.tmp 37) 57 (by rfl) _ _ (by rfl) (by rfl) hrun4' ?_; refine hK.out _ _ (fun _ _ => ⟨b1, b3, kz⟩) ?_; clear hK K hrun4 hrun4' hg4 hg4' ho4 b1 b2 b3 b4 b5 kz; (try simp only [Act.put, zq1, zq2, zq3]); refine zTk 9 ?_; simp only [Act.put, zq1, zq2, zq3]; refine wpAnyZ_one' (i := 10) (by kernel_rfl) rfl (fun K hK => ?_); go_simp; refine hK.out _ _ (fun hc => (by cases hc)) ?_; clear hK K; (try simp only [Act.put]); refine wpAnyZ_done (by kernel_rfl) ?_ _
        have HN : Hid (PutSt w (w4.setCell ⟨w.heap.size + 1 + 1, 1, none⟩ (.slice za2 (un + 1) zc2)) (.slice (some ⟨sb, soff, none⟩) n0 c0) (.slice (some ⟨zb, zoff, none⟩) n0 c1) (.slice a2 n2 c2) (k + 1) (.slice ua2 (un + 1) uc2) (.slice za2 (un + 1) zc2) (ss ++ [s]) (zs ++ [z]) ∧ PutMem m (ss ++ [s]) (zs ++ [z])) := by
          obtain ⟨b1, b2, b3, b4, b5, b6⟩ := HW4.out; refine ⟨⟨(heap_setCell_other w4 ⟨w.heap.size + 1 + 1, 1, none⟩ _ _ (by show w.heap.size ≠ w.heap.size + 1 + 1; omega)).trans b1, (heap_setCell_other w4 ⟨w.heap.size + 1 + 1, 1, none⟩ _ _ (by show w.heap.size + 1 ≠ w.heap.size + 1 + 1; omega)).trans b2, (heap_setCell_same w4 _ 1 _ _ _ b3).trans rfl, own1_setT b4 b3 (by decide), ?_, ?_, ?_, grownBy_setNew b6 (by show w.heap.size ≤ w.heap.size + 1 + 1; omega)⟩, ?_, ?_⟩
          · rw [List.length_append, HL.out.2, List.map_append]; exact own1_setT b5 b3 (by decide)
          · simp [HL.out.1, HL.out.2]
          · simp [HL.out.1]; omega
          · intro x hx
            rcases List.mem_append.1 hx with h9 | h9
            · exact HT.out.2.1 x h9
            · obtain rfl : x = s := by simpa using h9
              exact HE.out.1
          · intro x hx
            rcases List.mem_append.1 hx with h9 | h9
            · exact HT.out.2.2 x h9
            · obtain rfl : x = z := by simpa using h9
              exact HE.out.2
        go_wp2; go_roundw
        case rel => exact ⟨k + 1, _, _, _, _, hlt, by go_num, HN.out.1, HN.out.2⟩
        case measure => simp [intOf]; omega
      · go_wp2; go_roundw
        case rel => exact ⟨k + 1, _, _, ss, zs, hlt, by go_num, ⟨HT.out.1.box, HT.out.1.res, HT.out.1.out, HT.out.1.r0, HT.out.1.r1, HT.out.1.len, by have := HT.out.1.le; omega, HT.out.1.gr⟩, HT.out.2⟩
        case measure => simp [intOf]; omega
    · obtain rfl : k = n0 := by omega
      have hkI : ¬ (k : Int) < (k : Int) := by omega
      obtain ⟨hst, hmem⟩ := HT.out
      by_cases hb0 : 0 ≤ body
      · have hB0 : w.heap.size ≤ wr.heap.size := hst.gr.size
        have HR0 : Hid (wr.ownsRow w.heap.size 9 1 (.slice ua un uc) un (ss.map Value.string)) := by
          have h9 := hst.r0; rw [HL.out.1] at h9; exact h9
        clear hst hmem
        go_wp2_with (at_builtin; refine wpList_app2 rfl _ _ 52 rfl w.heap.size 9 Tryz.underlying52 Tryz.infoStr rfl (by decide) (.slice ua un uc) un (ss.map Value.string) rfl HR0.out #[.string nm] wr.heap.size rfl rfl rfl rfl (by omega) (by decide) hB0 ?_)
        intro ua2 uc2 w2 h2 h3; obtain ⟨b1, b2, b3, b4, b5⟩ := HT.out.1.names h3; have kq : w2.cell? ⟨w.heap.size + 1 + 1, 0, none⟩ = some (.slice ua un uc) := (zCr b3).trans rfl
        have kf : w2.frozen? ⟨w.heap.size + 1 + 1, 0, none⟩ = false := by simp [World.frozen?, b3]
        have HW : Hid ((w2.setCell ⟨w.heap.size + 1 + 1, 0, none⟩ (.slice ua2 (un + 1) uc2)).heap[w.heap.size]? = some (.cells #[.slice a0 k c0, .slice a1 k c1, .slice a2 n2 c2] 60 (0, 0)) ∧ (w2.setCell ⟨w.heap.size + 1 + 1, 0, none⟩ (.slice ua2 (un + 1) uc2)).heap[w.heap.size + 1]? = some (.cells #[.slice none 0 0, .slice none 0 0, .slice none 0 0] 60 (0, 0)) ∧ (w2.setCell ⟨w.heap.size + 1 + 1, 0, none⟩ (.slice ua2 (un + 1) uc2)).heap[w.heap.size + 1 + 1]? = some (.cells #[.slice ua2 (un + 1) uc2, .slice za un zc, .slice a2 n2 c2] 60 (0, 0)) ∧ (w2.setCell ⟨w.heap.size + 1 + 1, 0, none⟩ (.slice ua2 (un + 1) uc2)).ownsRow w.heap.size 9 1 (.slice ua2 (un + 1) uc2) (un + 1) (ss.map Value.string ++ [.string nm]) ∧ (w2.setCell ⟨w.heap.size + 1 + 1, 0, none⟩ (.slice ua2 (un + 1) uc2)).ownsRow w.heap.size 3 1 (.slice za un zc) un (zs.map iN) ∧ w.grownBy (w2.setCell ⟨w.heap.size + 1 + 1, 0, none⟩ (.slice ua2 (un + 1) uc2)) none) :=
          ⟨(heap_setCell_other w2 ⟨w.heap.size + 1 + 1, 0, none⟩ _ _ (by show w.heap.size ≠ w.heap.size + 1 + 1; omega)).trans b1, (heap_setCell_other w2 ⟨w.heap.size + 1 + 1, 0, none⟩ _ _ (by show w.heap.size + 1 ≠ w.heap.size + 1 + 1; omega)).trans b2, (heap_setCell_same w2 _ 0 _ _ _ b3).trans rfl, own1_setT h2 b3 (by decide), own1_setT (by rw [HL.out.2] at b4; exact b4) b3 (by decide), grownBy_setNew b5 (by show w.heap.size ≤ w.heap.size + 1 + 1; omega)⟩
        clear h2 h3 b1 b2 b3 b4 b5 HR0
        go_upto_region 11 with fail
        generalize w2.setCell ⟨w.heap.size + 1 + 1, 0, none⟩ (.slice ua2 (un + 1) uc2) = W3 at HW ⊢; clear kq kf hcn hB0; have hcz : W3.cell? ⟨w.heap.size + 1 + 1, 1, none⟩ = some (.slice za un zc) := (zCr HW.out.2.2.1).trans rfl; have hB3 : w.heap.size ≤ W3.heap.size := HW.out.2.2.2.2.2.size
        go_wp2_with (at_builtin; refine wpList_app2 rfl _ _ 57 rfl w.heap.size 3 Tryz.underlying57 Tryz.infoInt rfl (by decide) (.slice za un zc) un (zs.map iN) rfl HW.out.2.2.2.2.1 #[.int .i64 body] W3.heap.size rfl rfl rfl rfl (by omega) (by decide) hB3 ?_)
        intro za2 zc2 w4 ho4 hg4; obtain ⟨b1, b2, b3, b4, b5⟩ := PutSt.bodies (ss := ss ++ [nm]) (zs := zs) HW.out.1 HW.out.2.1 HW.out.2.2.1 (by rw [List.length_append, HL.out.1, List.map_append]; exact HW.out.2.2.2.1) (by rw [HL.out.2]; exact HW.out.2.2.2.2.1) HW.out.2.2.2.2.2 hg4; have kq : w4.cell? ⟨w.heap.size + 1 + 1, 1, none⟩ = some (.slice za un zc) := (zCr b3).trans rfl
        have kf : w4.frozen? ⟨w.heap.size + 1 + 1, 1, none⟩ = false := by simp [World.frozen?, b3]
        obtain ⟨bn, rfl⟩ : ∃ bn : Nat, body = (bn : Int) := ⟨body.toNat, by omega⟩
        have HN : Hid (PutSt w (w4.setCell ⟨w.heap.size + 1 + 1, 1, none⟩ (.slice za2 (un + 1) zc2)) (.slice a0 k c0) (.slice a1 k c1) (.slice a2 n2 c2) (k + 1) (.slice ua2 (un + 1) uc2) (.slice za2 (un + 1) zc2) (ss ++ [nm]) (zs ++ [bn])) := by
          refine ⟨(heap_setCell_other w4 ⟨w.heap.size + 1 + 1, 1, none⟩ _ _ (by show w.heap.size ≠ w.heap.size + 1 + 1; omega)).trans b1, (heap_setCell_other w4 ⟨w.heap.size + 1 + 1, 1, none⟩ _ _ (by show w.heap.size + 1 ≠ w.heap.size + 1 + 1; omega)).trans b2, (heap_setCell_same w4 _ 1 _ _ _ b3).trans rfl, own1_setT b4 b3 (by decide), ?_, ?_, ?_, grownBy_setNew b5 (by show w.heap.size ≤ w.heap.size + 1 + 1; omega)⟩
          · rw [List.length_append, HL.out.2, List.map_append]; exact own1_setT ho4 b3 (by decide)
          · simp [HL.out.1, HL.out.2]
          · simp [HL.out.1]; omega
        clear ho4 hg4 b1 b2 b3 b4 b5 HW
        go_upto_region 12 with fail
        generalize w4.setCell ⟨w.heap.size + 1 + 1, 1, none⟩ (.slice za2 (un + 1) zc2) = W5 at HN ⊢; clear kq kf hcz hB3; have hF := HN.out.fin (ds := m.ds) HD.out.1.d; have HF : Hid _ := hF; have hT : W5.there (w.heap.size + 1) 0 3 := there_blk HN.out.res rfl; have hR : W5.rangeAt (w.heap.size + 1 + 1) 0 [.slice ua2 (un + 1) uc2, .slice za2 (un + 1) zc2, .slice a2 n2 c2] := range_blk HN.out.out; clear hF
        go_wp2_with (refine wpList_load_mid (by rfl) 60 (.tmp 7) (by rfl) (w.heap.size + 1 + 1) 0 (by rfl) [.slice ua2 (un + 1) uc2, .slice za2 (un + 1) zc2, .slice a2 n2 c2] _ hR Tryz.underlying60 rfl (by exact Tryz.sizeDir) ?_; simp only [Act.put, zq1, zq2, zq3]; refine wpList_store_mid (by rfl) _ _ _ (by rfl) _ _ _ (by rfl) (by rfl) ?sa ?sb ?sc ?sd; exact hT; show _ = some 3; exact Tryz.sizeDir; exact all_oneCell_toArray (List.all_eq_true.1 rfl); simp only [Act.put])
        refine bodyPost_ret (results_dir (g := w.heap.size + 1) rfl rfl HF.out.1 rfl) rfl ?_; refine ⟨_, _, rfl, ⟨_, HF.out.2.1, rfl, HN.out.len, ?_, ?_, ?_⟩, HF.out.2.2⟩
        · show (ss ++ [nm]).length ≤ m.ss.length + 1
          rw [HD.out.2.1, List.length_append, HL.out.1]; simp only [List.length_cons, List.length_nil]
          omega
        · intro x hx
          rcases List.mem_append.1 hx with h9 | h9
          · exact .inl (HT.out.2.1 x h9)
          · exact .inr (by simpa using h9)
        · intro x hx
          rcases List.mem_append.1 hx with h9 | h9
          · exact .inl (HT.out.2.2 x h9)
          · obtain rfl : x = bn := by simpa using h9
            exact .inr rfl
      · have hF := hst.fin (ds := m.ds) HD.out.1.d; have HF : Hid _ := hF; have hT : wr.there (w.heap.size + 1) 0 3 := there_blk hst.res rfl; have hR : wr.rangeAt (w.heap.size + 1 + 1) 0 [.slice ua un uc, .slice za un zc, .slice a2 n2 c2] := range_blk hst.out; clear hst hmem hF
        go_wp2_with (refine wpList_load_mid (by rfl) 60 (.tmp 7) (by rfl) (w.heap.size + 1 + 1) 0 (by rfl) [.slice ua un uc, .slice za un zc, .slice a2 n2 c2] _ hR Tryz.underlying60 rfl (by exact Tryz.sizeDir) ?_; simp only [Act.put, zq1, zq2, zq3]; refine wpList_store_mid (by rfl) _ _ _ (by rfl) _ _ _ (by rfl) (by rfl) ?sa2 ?sb2 ?sc2 ?sd2; exact hT; show _ = some 3; exact Tryz.sizeDir; exact all_oneCell_toArray (List.all_eq_true.1 rfl); simp only [Act.put])
        refine bodyPost_ret (results_dir (g := w.heap.size + 1) rfl rfl HF.out.1 rfl) rfl ?_; refine ⟨_, _, rfl, ⟨_, HF.out.2.1, rfl, HL.out.1.trans HL.out.2.symm, ?_, fun x hx => .inl (HT.out.2.1 x hx), fun x hx => .inl (HT.out.2.2 x hx)⟩, HF.out.2.2⟩
        show ss.length ≤ m.ss.length + 1
        rw [HD.out.2.1, HL.out.1]
        omega
theorem run_app_none1 {P : Program} {w : World} {t ty e : TypeId} {i : TypeInfo} (ht : P.underlying t = some (.slice e)) (hi : P.info? e = some i) {base oa : Option Addr} {n cap c : Nat} (hc : n ≤ cap) : (Builtin.append_ #[t, t] ty #[.slice base n cap, .slice oa 0 c]).run P w = .ok (.slice base n cap) w := by
  have hf : (Builtin.firstCells i.size 0 (.slice oa 0 c)).run P w = .ok #[] w := by
    cases oa with
    | none => simp [Builtin.firstCells]
    | some a => simpa using run_firstCells_some (P := P) w i.size 0 a 0 c [] (by simp) (by simp)
  cases base <;> simp [Builtin.append_, run_underlying ht, sizeOf, typeInfo, hi, Builtin.lenOf, hf, hc, storeCells]
theorem run_appS {P : Program} {w : World} (t ty : TypeId) (base : Nat) (e : TypeId) {z : Value} {bytes : Nat} (ht : P.underlying t = some (.slice e)) (hi : (P.info? e).map (fun i => (i.zero, i.size, i.bytes)) = some (some z, 1, bytes)) (hzs : z.cells.size = 1)
    (v : Value) (n : Nat) (xs : List Value) (hown : w.ownsRow base e 1 v n xs) (oa : Option Addr) (m c : Nat) (vs : List Value) (hm : vs.length = m) (hsrc : CellsT w e oa vs) (h1 : ∀ u ∈ vs, u.oneCell' = true) (hn : n + m ≤ 10000000) (hb : bytes ≤ 1000) (hbase : base ≤ w.heap.size) :
    ∃ oa' c' w', (Builtin.append_ #[t, t] ty #[v, .slice oa m c]).run P w = .ok (.slice oa' (n + m) c') w' ∧ w'.ownsRow base e 1 (.slice oa' (n + m) c') (n + m) (xs ++ vs) ∧ w.grownBy w' v.ownBlock := by
  obtain ⟨i, hi, hz⟩ := Option.map_eq_some_iff.1 hi; simp only [Prod.mk.injEq] at hz
  rcases Nat.eq_zero_or_pos m with h0 | h0
  · subst h0; obtain rfl : vs = [] := List.length_eq_zero_iff.1 hm; obtain ⟨a, cp, rfl⟩ := own1_is hown; exact ⟨a, cp, w, run_app_none1 ht hi (own_le hown), by simpa using hown, grownBy_refl _ _⟩
  · obtain ⟨b, off, hoa, -⟩ := hsrc 0 (vs[0]'(by omega)) (List.getElem?_eq_getElem (by omega)); subst hoa
    obtain ⟨v', w', hrun, h2, h3, -⟩ := run_append_own (P := P) w base t ty e i z 1 bytes ht hi hz.1 hz.2.1 hz.2.2 hzs (by decide) v n xs hown ⟨b, off, none⟩ m c vs (by omega) (fun j u hj => by
      obtain ⟨b', off', e1, e2, -⟩ := hsrc j u hj; simp only [Option.some.injEq, Addr.mk.injEq, and_true] at e1; obtain ⟨rfl, rfl⟩ := e1; rw [Addr.add_mid]
      exact e2) h1 (by unfold maxLen; omega) (by
      have h9 : (n + m) * bytes ≤ 10000000 * 1000 := Nat.mul_le_mul hn hb
      omega) hbase
    obtain ⟨oa, c, rfl⟩ := own1_is h2; exact ⟨oa, c, w', hrun, h2, h3⟩
def RBO (w : World) (B : Nat) (v : Value) (ds : List (List Nat)) : Prop := ∃ vs, w.ownsRow B 22 1 v ds.length vs ∧ vs.length = ds.length ∧ ∀ (i : Nat) (u : Value) (d : List Nat), vs[i]? = some u → ds[i]? = some d → BV w u d
theorem RBO.rb {w : World} {B : Nat} {v : Value} {ds : List (List Nat)} (h : RBO w B v ds) : RB w v ds := by
  obtain ⟨vs, h1, h2, h3⟩ := h; obtain ⟨oa, c, rfl⟩ := own1_is h1; exact ⟨oa, c, vs, rfl, CellsT.of_own h1, h2, own_le h1, h3⟩
theorem RBO.grown0 {w w' : World} {B : Nat} {v : Value} {ds : List (List Nat)} (h : RBO w B v ds) (hg : w.grownBy w' none) : RBO w' B v ds := by
  obtain ⟨vs, h1, h2, h3⟩ := h; exact ⟨vs, own1_grown h1 hg, h2, fun i u d hi hd => (h3 i u d hi hd).grown0 hg⟩
theorem BV.keepT {w w' : World} {g : Nat} {v : Value} {D : List Nat} {cur : Array Value} {t : TypeId} {f : Nat × Nat} (h : BV w v D) (hk : ∀ k, k ≠ g → w'.heap[k]? = w.heap[k]?) (hb : w.heap[g]? = some (.cells cur t f)) (ht : t ≠ 5) : BV w' v D := by
  obtain ⟨h0, oa, c, h1, h2, h3⟩ := h; refine ⟨h0, oa, c, h1, fun i u hi => ?_, h3⟩; obtain ⟨b, off, e1, e2, cu, ff, e3⟩ := h2 i u hi
  have hne : b ≠ g := by
    rintro rfl; rw [hb] at e3; have h9 := Option.some.inj e3
    injection h9 with _ h8 _
    exact ht h8
  exact ⟨b, off, e1, (World.cell?_of_block (w := w) (a := ⟨b, off + i, none⟩) (hk b hne)).trans e2, cu, ff, (hk b hne).trans e3⟩
theorem RBO.keepT {w w' : World} {B g : Nat} {v : Value} {ds : List (List Nat)} {cur : Array Value} {t : TypeId} {f : Nat × Nat} (h : RBO w B v ds) (hk : ∀ k, k ≠ g → w'.heap[k]? = w.heap[k]?) (hb : w.heap[g]? = some (.cells cur t f)) (ht : t ≠ 5) (ht2 : t ≠ 22) : RBO w' B v ds := by
  obtain ⟨vs, h1, h2, h3⟩ := h; exact ⟨vs, own1_keepT h1 hb ht2 hk, h2, fun i u d hi hd => (h3 i u d hi hd).keepT hk hb ht⟩
abbrev RowV := Option (Value × Nat × List Value)
def OwnO (W : World) (B : Nat) (t : TypeId) : RowV → Prop
  | none => True
  | some (v, n, xs) => W.ownsRow B t 1 v n xs
theorem OwnO.grown {W W' : World} {B : Nat} {t : TypeId} {r : RowV} (h : OwnO W B t r) (hg : W.grownBy W' none) : OwnO W' B t r := by
  cases r with
  | none => trivial
  | some r => exact own1_grown h hg
theorem OwnO.kept {W W' : World} {B B' e s n : Nat} {t : TypeId} {r : RowV} {v : Value} {xs : List Value} (h : OwnO W B t r) (ho : W.ownsRow B' e s v n xs) (hg : W.grownBy W' v.ownBlock) (hne : e ≠ t) : OwnO W' B t r := by
  cases r with
  | none => trivial
  | some r => exact own1_kept h hg (fun k hk hc => own_types ho h hne hc hk)
theorem lit_own (W : World) (B : Nat) (t : TypeId) (hB : B ≤ W.heap.size) : (W.alloc (.cells #[] t)).ownsRow B t 1 (.slice (some ⟨W.heap.size, 0, none⟩) 0 0) 0 [] :=
  ⟨rfl, .inr ⟨W.heap.size, 0, #[], rfl, hB, heap_alloc_new W _, Nat.le_refl _, Nat.zero_le _, rfl, rfl⟩⟩
structure N3 (w W : World) (t0 t1 t2 : TypeId) (r0 r1 r2 : RowV) : Prop where
  gr : w.grownBy W none
  o0 : OwnO W w.heap.size t0 r0
  o1 : OwnO W w.heap.size t1 r1
  o2 : OwnO W w.heap.size t2 r2
theorem N3.lit0 {w W : World} {t0 t1 t2 : TypeId} {r1 r2 : RowV} (h : N3 w W t0 t1 t2 none r1 r2) : N3 w (W.alloc (.cells #[] t0)) t0 t1 t2 (some (.slice (some ⟨W.heap.size, 0, none⟩) 0 0, 0, [])) r1 r2 :=
  have hg := World.grownBy_alloc W (.cells #[] t0) none
  ⟨grownBy_trans h.gr hg, lit_own W _ _ h.gr.size, h.o1.grown hg, h.o2.grown hg⟩
theorem N3.lit1 {w W : World} {t0 t1 t2 : TypeId} {r0 r2 : RowV} (h : N3 w W t0 t1 t2 r0 none r2) : N3 w (W.alloc (.cells #[] t1)) t0 t1 t2 r0 (some (.slice (some ⟨W.heap.size, 0, none⟩) 0 0, 0, [])) r2 :=
  have hg := World.grownBy_alloc W (.cells #[] t1) none
  ⟨grownBy_trans h.gr hg, h.o0.grown hg, lit_own W _ _ h.gr.size, h.o2.grown hg⟩
theorem N3.lit2 {w W : World} {t0 t1 t2 : TypeId} {r0 r1 : RowV} (h : N3 w W t0 t1 t2 r0 r1 none) : N3 w (W.alloc (.cells #[] t2)) t0 t1 t2 r0 r1 (some (.slice (some ⟨W.heap.size, 0, none⟩) 0 0, 0, [])) :=
  have hg := World.grownBy_alloc W (.cells #[] t2) none
  ⟨grownBy_trans h.gr hg, h.o0.grown hg, h.o1.grown hg, lit_own W _ _ h.gr.size⟩
theorem N3.app0 {w W W' : World} {t0 t1 t2 n n' : Nat} {v v' : Value} {xs xs' : List Value} {r1 r2 : RowV} (h : N3 w W t0 t1 t2 (some (v, n, xs)) r1 r2) (hg : W.grownBy W' v.ownBlock) (ho : W'.ownsRow w.heap.size t0 1 v' n' xs') (h1 : t0 ≠ t1) (h2 : t0 ≠ t2) : N3 w W' t0 t1 t2 (some (v', n', xs')) r1 r2 :=
  have ho0 : W.ownsRow w.heap.size t0 1 v n xs := h.o0
  ⟨grownBy_row h.gr hg (fun _ hg' => own1_base ho0 hg'), ho, h.o1.kept ho0 hg h1, h.o2.kept ho0 hg h2⟩
theorem N3.app1 {w W W' : World} {t0 t1 t2 n n' : Nat} {v v' : Value} {xs xs' : List Value} {r0 r2 : RowV} (h : N3 w W t0 t1 t2 r0 (some (v, n, xs)) r2) (hg : W.grownBy W' v.ownBlock) (ho : W'.ownsRow w.heap.size t1 1 v' n' xs') (h1 : t1 ≠ t0) (h2 : t1 ≠ t2) : N3 w W' t0 t1 t2 r0 (some (v', n', xs')) r2 :=
  have ho0 : W.ownsRow w.heap.size t1 1 v n xs := h.o1
  ⟨grownBy_row h.gr hg (fun _ hg' => own1_base ho0 hg'), h.o0.kept ho0 hg h1, ho, h.o2.kept ho0 hg h2⟩
theorem N3.app2 {w W W' : World} {t0 t1 t2 n n' : Nat} {v v' : Value} {xs xs' : List Value} {r0 r1 : RowV} (h : N3 w W t0 t1 t2 r0 r1 (some (v, n, xs))) (hg : W.grownBy W' v.ownBlock) (ho : W'.ownsRow w.heap.size t2 1 v' n' xs') (h1 : t2 ≠ t0) (h2 : t2 ≠ t1) : N3 w W' t0 t1 t2 r0 r1 (some (v', n', xs')) :=
  have ho0 : W.ownsRow w.heap.size t2 1 v n xs := h.o2
  ⟨grownBy_row h.gr hg (fun _ hg' => own1_base ho0 hg'), h.o0.kept ho0 hg h1, h.o1.kept ho0 hg h2, ho⟩
theorem wpAnyZ_three' {P : Program} {ops : Array Oper} {Q : Exit → Act → World → Prop} {md : Region.Mode} {S : World → Prop} {ex : Nat → Bool} {i k l : Nat} {o o' o'' : Oper} {rest rest' rest'' : List Oper} {fuel : Nat} {listed : Array Bool} {a : Act} {w : World} (hr : Region.ready md ops listed = [i, k, l]) (ho : ops.toList.drop i = o :: rest) (ho' : ops.toList.drop k = o' :: rest') (ho'' : ops.toList.drop l = o'' :: rest'')
    (h : ∀ K : Act → World → Prop, Hid (∀ a' w', (ex i = false → S w → S w') → wpAnyZ P md ops Q S ex fuel (listed.setIfInBounds i true) a' w' → K a' w') →
      if Region.wanted o (yielded ops a.tmps) = true then Oper.wp P o a w K Q else K (a.put o.dst undef) w)
    (h' : ∀ K : Act → World → Prop, Hid (∀ a' w', (ex k = false → S w → S w') → wpAnyZ P md ops Q S ex fuel (listed.setIfInBounds k true) a' w' → K a' w') →
      if Region.wanted o' (yielded ops a.tmps) = true then Oper.wp P o' a w K Q else K (a.put o'.dst undef) w)
    (h'' : ∀ K : Act → World → Prop, Hid (∀ a' w', (ex l = false → S w → S w') → wpAnyZ P md ops Q S ex fuel (listed.setIfInBounds l true) a' w' → K a' w') →
      if Region.wanted o'' (yielded ops a.tmps) = true then Oper.wp P o'' a w K Q else K (a.put o''.dst undef) w) : wpAnyZ P md ops Q S ex (fuel + 1) listed a w := by
  refine ⟨fun h0 => (by rw [hr] at h0; cases h0), fun j hj => ?_⟩; rw [hr] at hj; simp only [List.mem_cons, List.not_mem_nil, or_false] at hj
  rcases hj with rfl | rfl | rfl
  · exact wpZ_step (get_of_drop ho) h
  · exact wpZ_step (get_of_drop ho') h'
  · exact wpZ_step (get_of_drop ho'') h''
end Go.Proofs.YtgehhfncjoogiaaGreatDoor
