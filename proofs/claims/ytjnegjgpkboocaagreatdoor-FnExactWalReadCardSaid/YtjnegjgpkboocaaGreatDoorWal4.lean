/-
  EntW2, ShapesW, EqW, EqI, ViewW, LogW, LogW2, CrcWalks, Not32, Enc
-/
import Derived.Test.YtjnegjgpkboocaaGreatDoorWal3
import Derived.Deep.DeepCutAuto
import Derived.Deep.CutRange
import Derived.Test.YtjnegjgpkboocaaGreatDoorWal1
import Derived.Test.YtjnegjgpkboocaaGreatDoorWal2
import Derived.Test.YtjnegjgpkboocaaGreatDoorChecked
import Derived.Laws.BitsAllLaws
/-
  The laws' markEntryS and heldEntryS, walked.
-/
namespace Go.Proofs.YtjnegjgpkboocaaGreatDoor
open Go.RowKit

set_option maxRecDepth 4000 in
set_option maxHeartbeats 2000000 in
theorem markEntryS_own (G cap m : Nat) (E : List En) (w : World) (h : EnR w G E) (hm : finE E m E.length ≤ 1073741824) :
    Calls Tryz.prog 25 #[.slice (some ⟨G, 0, none⟩) E.length cap, .int .i64 (m : Int)] w fun e w' => e = .returned (.int .i64 ((finE E m E.length : Nat) : Int)) ∧ EnR w' G (mkE E m E.length) ∧ OnlyW (fun k => k = G ∨ k ∈ E.map En.g) w w' := by
  obtain ⟨n, hn⟩ : ∃ n, E.length = n := ⟨_, rfl⟩; have HN : Hid (E.length = n) := hn; have HO : Hid (EnR w G E) := h; rw [hn] at hm ⊢
  have hnm : n ≤ 1073741824 := by
    have h1 : ∀ k, k + m ≤ finE E m k := by
      intro k
      induction k with
      | zero => simp [finE]
      | succ k ih => rw [finE]; omega
    have := h1 n
    omega
  clear hn h; have HM : Hid (finE E m n ≤ 1073741824) := hm; clear hm
  go_enter Tryz.func25, Tryz.ntmps25
  go_wp2
  go_loopw [1, 5] (fun v i wr => ∃ k c : Nat, k ≤ n ∧ i = .int .i64 (k : Int) ∧ v = .int .i64 (c : Int) ∧ c = finE E m k ∧ EnR wr G (mkE E m k) ∧ OnlyW (fun k => k = G ∨ k ∈ E.map En.g) w wr) (fun _ i _ => n - (intOf i).toNat)
  case atStart => exact ⟨0, m, Nat.zero_le _, rfl, rfl, rfl, HO.out, OnlyW.refl _ _⟩
  case round =>
    obtain ⟨k, c, hk, rfl, rfl, hc, hR, hW⟩ := hrel; have HR : Hid (c = finE E m k ∧ EnR wr G (mkE E m k) ∧ OnlyW (fun k => k = G ∨ k ∈ E.map En.g) w wr) := ⟨hc, hR, hW⟩; clear hc hR hW
    by_cases hlt : k < n
    · obtain ⟨e, he⟩ : ∃ e, E[k]? = some e := ⟨_, List.getElem?_eq_getElem (by rw [HN.out]; exact hlt)⟩
      have he2 : (mkE E m k)[k]? = some e := by rw [mkE_late _ _ _ _ (Nat.le_refl _)]; exact he
      obtain ⟨q0, q1, q2⟩ := HR.out.2.1.cells he2; have f0 := q2 (k * 2)
      have hcb : c + 1 + e.n ≤ 1073741824 := by
        have h1 := finE_succ (m := m) he; have h2 := finE_mono E m (show k + 1 ≤ n by omega); have h3 := HM.out; have h4 := HR.out.1
        omega
      have H1 : Hid (EnR (wr.setCell ⟨G, k * 2, none⟩ (.int .i64 (c : Int))) G ((mkE E m k).set k { e with t := c })) := HR.out.2.1.setT he2 c; have HE : Hid (E[k]? = some e ∧ (mkE E m k)[k]? = some e ∧ e ∈ E) := ⟨he, he2, List.mem_of_getElem? he⟩
      have q1' : (wr.setCell ⟨G, k * 2, none⟩ (.int .i64 (c : Int))).cell? ⟨G, k * 2 + 1, none⟩ = some (.slice (some ⟨e.g, e.off, none⟩) e.n e.cp) := by
        rw [World.cell?_setCell_other _ _ _ _ (by simp)]; exact q1
      obtain ⟨eg, heg⟩ : ∃ eg, e.g = eg := ⟨_, rfl⟩; obtain ⟨eo, heo⟩ : ∃ eo, e.off = eo := ⟨_, rfl⟩; obtain ⟨en, hen⟩ : ∃ en, e.n = en := ⟨_, rfl⟩; obtain ⟨ec, hec⟩ : ∃ ec, e.cp = ec := ⟨_, rfl⟩; have HF : Hid (e.g = eg ∧ e.off = eo ∧ e.n = en) := ⟨heg, heo, hen⟩; rw [heg, heo, hen, hec] at q1' q1; rw [hen] at hcb; clear he he2 q1 q2 heg heo hen hec
      have hkI : (k : Int) < (n : Int) := by omega
      go_upto_region 5 with fail
      generalize hX : wr.setCell ⟨G, k * 2, none⟩ (.int .i64 (c : Int)) = X at H1 q1' ⊢
      have H2 : Hid (OnlyW (fun k => k = G ∨ k ∈ E.map En.g) w X) := by
        subst hX; exact HR.out.2.2.trans (OnlyW.of_grown (row := some G) (grownBy_setCell (grownBy_refl _ _)) (fun g hg => .inl (by simpa using hg.symm)))
      clear hX q0 f0; obtain ⟨c1, hcc⟩ : ∃ c1, c + 1 = c1 := ⟨_, rfl⟩
      have hc1 : (c : Int) + 1 = (c1 : Int) := by omega
      have HC1 : Hid (c + 1 = c1) := hcc
      have hcb1 : c1 + en ≤ 1073741824 := by omega
      clear hcc; go_wp2_with fail; clear hc1; have hme : ({ e with t := c } : En) ∈ (mkE E m k).set k { e with t := c } := List.mem_of_getElem? (List.getElem?_set_self (by rw [mkE_len]; exact (List.getElem?_eq_some_iff.1 HE.out.1).1)); refine (markByteS_at eg eo en ec c1 e.D X (by have h9 := (H1.out.own _ hme).1; rw [← HF.out.1]; exact h9) (by have h9 := (H1.out.own _ hme).2; rw [← HF.out.2.1, ← HF.out.2.2]; exact h9) (by omega) (by omega)).mono ?_; rintro ee w2 ⟨rfl, hO2, hG2⟩
      have H3 : Hid (c1 + en = finE E m (k + 1) ∧ EnR w2 G (mkE E m (k + 1)) ∧ OnlyW (fun k => k = G ∨ k ∈ E.map En.g) w w2) := by
        have hkl : k < (mkE E m k).length := by rw [mkE_len]; exact (List.getElem?_eq_some_iff.1 HE.out.1).1
        refine ⟨by rw [finE_succ HE.out.1, ← HR.out.1, HF.out.2.2, HC1.out], ?_, H2.out.trans (OnlyW.of_grown hG2 (fun g hg => .inr (by have h8 : eg = g := (by simpa using hg); rw [← h8, ← HF.out.1]; exact List.mem_map_of_mem HE.out.2.2)))⟩; have h9 := H1.out.setD (k := k) (e := { e with t := c }) (List.getElem?_set_self hkl) (mkAt e.D eo c1 en) (by rw [mkAt_len]) (by show Own w2 _ e.g _; rw [HF.out.1]; exact hO2) (by show X.grownBy w2 (some e.g); rw [HF.out.1]; exact hG2); rw [List.set_set] at h9; have hx := HF.out; rw [mkE_succ HE.out.1, ← HR.out.1, HC1.out]; rw [← hx.2.1, ← hx.2.2] at h9; exact h9
      obtain ⟨c2, hc3⟩ : ∃ c2, c1 + en = c2 := ⟨_, rfl⟩
      have hc2 : (c1 : Int) + (en : Int) = (c2 : Int) := by omega
      rw [hc3] at H3 hcb1; rw [hc2]; clear hO2 hG2 H1 q1' hc2 hc3 H2 hme; go_wp2; go_roundw
      case rel => exact ⟨k + 1, c2, by omega, by go_num, rfl, H3.out.1, H3.out.2.1, H3.out.2.2⟩
      case measure => simp [intOf]; omega
    · obtain rfl : k = n := by omega
      go_wp2; go_ret; exact ⟨by rw [← HR.out.1]; rfl, HR.out.2.1, HR.out.2.2⟩
set_option maxRecDepth 4000 in
set_option maxHeartbeats 2000000 in
theorem heldEntryS_own (G cap m : Nat) (E : List En) (w : World) (h : EnR w G E) (hz : ∀ (i : Nat) (e : En), E[i]? = some e → e.t = finE E m i ∧ ∀ j, j < e.n → e.D.getD (e.off + j) 0 = (finE E m i + 1 + j) % 256) (hm : finE E m E.length ≤ 1073741824) (hl : E.length ≤ 1073741824) :
    Calls Tryz.prog 27 #[.slice (some ⟨G, 0, none⟩) E.length cap, .int .i64 (m : Int)] w fun e w' => e = .returned (.int .i64 ((finE E m E.length : Nat) : Int)) ∧ w' = w := by
  obtain ⟨n, hn⟩ : ∃ n, E.length = n := ⟨_, rfl⟩; have HO : Hid (E.length = n ∧ EnR w G E ∧ (∀ (i : Nat) (e : En), E[i]? = some e → e.t = finE E m i ∧ ∀ j, j < e.n → e.D.getD (e.off + j) 0 = (finE E m i + 1 + j) % 256) ∧ finE E m E.length ≤ 1073741824) := ⟨hn, h, hz, hm⟩; rw [hn] at hl ⊢; clear hn h hz hm
  go_enter Tryz.func27, Tryz.ntmps27
  go_wp2
  go_loopw [1, 5] (fun v i wr => ∃ k c : Nat, k ≤ n ∧ i = .int .i64 (k : Int) ∧ v = .int .i64 (c : Int) ∧ c = finE E m k ∧ wr = w) (fun _ i _ => n - (intOf i).toNat)
  case atStart => exact ⟨0, m, Nat.zero_le _, rfl, rfl, rfl, rfl⟩
  case round =>
    obtain ⟨k, c, hk, rfl, rfl, hc, rfl⟩ := hrel; have HR : Hid (c = finE E m k) := hc; clear hc
    by_cases hlt : k < n
    · obtain ⟨e, he⟩ : ∃ e, E[k]? = some e := ⟨_, List.getElem?_eq_getElem (by rw [HO.out.1]; exact hlt)⟩; obtain ⟨q0, q1, -⟩ := HO.out.2.1.cells he; obtain ⟨ht, hd⟩ := HO.out.2.2.1 k e he; rw [← HR.out] at ht hd; rw [ht] at q0
      have hcb : c + 1 + e.n ≤ 1073741824 := by
        have h1 := finE_succ (m := m) he; have h2 := finE_mono E m (show k + 1 ≤ E.length by rw [HO.out.1]; omega); have h3 := HO.out.2.2.2; have h4 := HR.out
        omega
      have HS : Hid (c + 1 + e.n = finE E m (k + 1)) := by show _ = _; rw [finE_succ he, ← HR.out]
      obtain ⟨ho1, ho2⟩ := HO.out.2.1.own e (List.mem_of_getElem? he)
      have HC : Hid (∀ j : Nat, Calls _ _ _ _ _) := fun _ => heldByteS_at e.g e.off e.n e.cp (c + 1) e.D wr ho1 ho2 hd (by omega) (by omega)
      obtain ⟨en, hen⟩ : ∃ en, e.n = en := ⟨_, rfl⟩; rw [hen] at q1 HC HS hcb; clear hd ho1 ho2 he ht hen
      have hkI : (k : Int) < (n : Int) := by omega
      obtain ⟨c1, hcc⟩ : ∃ c1, c + 1 = c1 := ⟨_, rfl⟩
      have hc1 : (c : Int) + 1 = (c1 : Int) := by omega
      rw [hcc] at HC HS hcb; clear hcc; go_wp2_with fail; clear hc1; refine (HC.out 0).mono ?_; rintro ee w2 ⟨rfl, hw2⟩; subst hw2; obtain ⟨c2, hc3⟩ : ∃ c2, c1 + en = c2 := ⟨_, rfl⟩
      have hc2 : (c1 : Int) + (en : Int) = (c2 : Int) := by omega
      rw [hc3] at HS hcb; rw [hc2]; clear hc2 hc3 HC q0 q1; go_wp2; go_roundw
      case rel => exact ⟨k + 1, c2, by omega, by go_num, rfl, HS.out, by first | trivial | rfl⟩
      case measure => simp [intOf]; omega
    · obtain rfl : k = n := by omega
      go_wp2; go_ret; exact ⟨by rw [← HR.out]; rfl, rfl⟩
def kEntry : List Ki := [.int, .byt]
def kFile : List Ki := [.str, .byt]
theorem fitEntry {e : List Tr} (h : FitsL e kEntry) : ∃ n0 d1 a1 p1, e = [.int n0, .byt d1 a1 p1] := by
  obtain ⟨y0, e0, rfl, f0, h0⟩ := FitsL.cons h; obtain ⟨n0, rfl⟩ := f0.isInt; obtain ⟨y1, e1, rfl, f1, h1⟩ := FitsL.cons h0; obtain ⟨d1, a1, p1, rfl⟩ := f1.isByt; obtain rfl := h1.nil; exact ⟨n0, d1, a1, p1, rfl⟩
theorem fitFile {e : List Tr} (h : FitsL e kFile) : ∃ t0 d1 a1 p1, e = [.str t0, .byt d1 a1 p1] := by
  obtain ⟨y0, e0, rfl, f0, h0⟩ := FitsL.cons h; obtain ⟨t0, rfl⟩ := f0.isStr; obtain ⟨y1, e1, rfl, f1, h1⟩ := FitsL.cons h0; obtain ⟨d1, a1, p1, rfl⟩ := f1.isByt; obtain rfl := h1.nil; exact ⟨t0, d1, a1, p1, rfl⟩
set_option maxRecDepth 4000 in
set_option maxHeartbeats 4000000 in
theorem eqEntry_same (n0 : Int) (d1 : List Nat) (a1 : Option Addr) (p1 : Nat) (a1' : Option Addr) (p1' : Nat) (w : World) (h1 : SlB w a1 d1.length d1) (h1' : SlB w a1' d1.length d1) (s1 : d1.length ≤ 1048576) :
    Calls Tryz.prog 44 #[.agg #[.int .i64 n0, .slice a1 d1.length p1], .agg #[.int .i64 n0, .slice a1' d1.length p1']] w fun e w' => e = .returned (.bool true) ∧ w.grownBy w' none := by
  have C0 : Hid (∀ Y : World, w.grownBy Y none → Calls Tryz.prog 45 #[.slice a1 d1.length p1, .slice a1' d1.length p1'] Y fun e w' => e = .returned (.bool true) ∧ Y.grownBy w' none) := fun Y hY => eqByteS_same a1 a1' d1.length p1 p1' d1 Y (h1.grown0 hY) (h1'.grown0 hY) (by omega)
  have HW : Hid (∀ Y : World, ((w.alloc (.cells #[.int .i64 n0, .slice a1 d1.length p1] 47)).alloc (.cells #[.int .i64 n0, .slice a1' d1.length p1'] 47)).grownBy Y none → Y.cell? ⟨w.heap.size, 0, none⟩ = some (.int .i64 n0) ∧ Y.cell? ⟨w.heap.size, 1, none⟩ = some (.slice a1 d1.length p1) ∧ Y.cell? ⟨w.heap.size + 1, 0, none⟩ = some (.int .i64 n0) ∧ Y.cell? ⟨w.heap.size + 1, 1, none⟩ = some (.slice a1' d1.length p1')) := fun Y hY => by
    have x0 : Y.heap[w.heap.size]? = some (.cells #[.int .i64 n0, .slice a1 d1.length p1] 47 (0, 0)) := (hY.block _ (by simp; omega) (by simp)).trans ((Below.heap_alloc _ _ _ (by simp)).trans (heap_alloc_new w _)); have x1 : Y.heap[w.heap.size + 1]? = some (.cells #[.int .i64 n0, .slice a1' d1.length p1'] 47 (0, 0)) := (hY.block _ (by simp) (by simp)).trans (heap_two w _ _)
    simp [World.cell?, x0, x1]
  have HG : Hid (w.grownBy ((w.alloc (.cells #[.int .i64 n0, .slice a1 d1.length p1] 47)).alloc (.cells #[.int .i64 n0, .slice a1' d1.length p1'] 47)) none) := grownBy_alloc (World.grownBy_alloc _ _ _) _; clear h1 h1' s1
  go_enter Tryz.func44, Tryz.ntmps44
  go_wp2_with fail; refine (C0.out _ HG.out).mono ?_; rintro e w1 ⟨rfl, hG1⟩; have HY : Hid (((w.alloc (.cells #[.int .i64 n0, .slice a1 d1.length p1] 47)).alloc (.cells #[.int .i64 n0, .slice a1' d1.length p1'] 47)).grownBy w1 none) := hG1; clear hG1; have hC := HW.out w1 HY.out; go_wp2; go_ret; exact ⟨rfl, grownBy_trans HG.out HY.out⟩
set_option maxRecDepth 4000 in
set_option maxHeartbeats 4000000 in
theorem eqEntryS_same (L : List (List Tr)) (a : Option Addr) (p : Nat) (L' : List (List Tr)) (a' : Option Addr) (p' : Nat) (w : World) (h : RowOk w kEntry a L) (h' : RowOk w kEntry a' L') (e : tellR L = tellR L') (s : SmR L) :
    Calls Tryz.prog 20 #[.slice a L.length p, .slice a' L'.length p'] w fun e w' => e = .returned (.bool true) ∧ w.grownBy w' none := by
  have hll : L'.length = L.length := by have := congrArg List.length e; simpa using this.symm
  rw [hll]; have HR : Hid (RowOk w kEntry a L ∧ RowOk w kEntry a' L' ∧ tellR L = tellR L' ∧ SmR L) := ⟨h, h', e, s⟩; have hlen := s.1; clear h h' e s; obtain ⟨n, hn⟩ : ∃ n, L.length = n := ⟨_, rfl⟩; have HN : Hid (L.length = n ∧ L'.length = n) := ⟨hn, by omega⟩; rw [hn] at hlen ⊢; clear hll hn
  go_enter Tryz.func20, Tryz.ntmps20
  go_wp2
  go_loopw [5] (fun i wr => ∃ k : Nat, k ≤ n ∧ i = .int .i64 (k : Int) ∧ w.grownBy wr none) (fun i _ => n - (intOf i).toNat)
  case atStart => exact ⟨0, Nat.zero_le _, rfl, grownBy_refl _ _⟩
  case round =>
    obtain ⟨k, hk, rfl, hG⟩ := hrel; have HG : Hid (w.grownBy wr none) := hG; clear hG
    by_cases hlt : k < n
    · obtain ⟨e, he⟩ : ∃ e, L[k]? = some e := ⟨_, List.getElem?_eq_getElem (by rw [HN.out.1]; exact hlt)⟩; obtain ⟨e', he'⟩ : ∃ e, L'[k]? = some e := ⟨_, List.getElem?_eq_getElem (by rw [HN.out.2]; exact hlt)⟩; have htl := tellR_get HR.out.2.2.1 he he'; obtain ⟨hf, hrd, b, off, hab, hc⟩ := HR.out.1.grown0 HG.out k e he; obtain ⟨hf', hrd', b', off', hab', hc'⟩ := HR.out.2.1.grown0 HG.out k e' he'
      have hsm := fun j y hj => HR.out.2.2.2.2 k j e y he hj
      obtain ⟨n0, d1, a1, p1, rfl⟩ := fitEntry hf; obtain ⟨n0', d1', a1', p1', rfl⟩ := fitEntry hf'; simp only [List.map_cons, List.map_nil, List.cons.injEq, and_true, Td.int.injEq, Td.byt.injEq] at htl; obtain ⟨rfl, rfl⟩ := htl; subst hab hab'
      have HE : Hid (∀ w' : World, SameT wr w' → Calls Tryz.prog 44 #[.agg #[.int .i64 n0, .slice a1 d1.length p1], .agg #[.int .i64 n0, .slice a1' d1.length p1']] w' fun e w1 => e = .returned (.bool true) ∧ w'.grownBy w1 none) := fun w' hs => by
        have hh : w'.heap = wr.heap := hs.1; have hhG : wr.grownBy w' none := hs.grown; exact eqEntry_same n0 d1 a1 p1 a1' p1' w' ((hrd (.byt d1 a1 p1) (by simp)).isByt.heap hh) ((hrd' (.byt d1 a1' p1') (by simp)).isByt.heap hh) (hsm 1 _ rfl).isByt
      have hkI : (k : Int) < (n : Int) := by omega
      have hS : wr.drew.rangeAt b (off + k * 2) [.int .i64 n0, .slice a1 d1.length p1] ∧ wr.drew.rangeAt b' (off' + k * 2) [.int .i64 n0, .slice a1' d1.length p1'] := ⟨range_el hc, range_el hc'⟩; clear hc hc' hrd hrd' hsm hf hf' he he'; go_wp2
      go_cut [26] (fun v wx => v = .bool false ∧ wr.grownBy wx none)
      case first =>
        as_aux_lemma =>
          refine wp_region_Z (fun W => W.rangeAt b (off + k * 2) [.int .i64 n0, .slice a1 d1.length p1] ∧ W.rangeAt b' (off' + k * 2) [.int .i64 n0, .slice a1' d1.length p1']) (fun j => j == 8) (by kernel_rfl) ?_; refine wpAnyZ_take' (i := 0) (v := ?vz0) rfl (by kernel_rfl) (by kernel_rfl) (by kernel_rfl) (fun _ _ _ h => h) (Or.inl ⟨by rfl, ?yz0⟩) ?rz0
          case yz0 => (intro w _; go_simp; first | done | with_reducible rfl)
          simp only [Act.put, List.setIfInBounds_toArray, List.set_cons_zero, List.set_cons_succ]; refine wpAnyZ_take' (i := 1) (v := ?vz1) rfl (by kernel_rfl) (by kernel_rfl) (by kernel_rfl) (fun _ _ _ h => h) (Or.inl ⟨by rfl, ?yz1⟩) ?rz1
          case yz1 => (intro w _; go_simp; first | done | with_reducible rfl)
          simp only [Act.put, List.setIfInBounds_toArray, List.set_cons_zero, List.set_cons_succ]; refine wpAnyZ_take' (i := 2) (v := ?vz2) rfl (by kernel_rfl) (by kernel_rfl) (by kernel_rfl) (fun _ _ _ h => h) (Or.inl ⟨by rfl, ?yz2⟩) ?rz2
          case yz2 => (intro w _; go_simp; first | done | with_reducible rfl)
          simp only [Act.put, List.setIfInBounds_toArray, List.set_cons_zero, List.set_cons_succ]; refine wpAnyZ_load' (i := 3) (y := 8) (v := .agg [.int .i64 n0, .slice a1 d1.length p1].toArray) rfl (by kernel_rfl) (by kernel_rfl) (by kernel_rfl) (fun _ _ _ h => h) (fun j hj => .inl (by obtain rfl : j = 8 := (by simpa using hj); kernel_rfl)) rfl (by kernel_rfl) (yieldsIf_load_mid (by rfl) _ _ rfl _ _ rfl _ _ (fun W hW => hW.1) Tryz.underlying47 rfl (by kernel_rfl)) hS ?rz3; simp only [Act.put, List.setIfInBounds_toArray, List.set_cons_zero, List.set_cons_succ]; refine wpAnyZ_take' (i := 4) (v := ?vz4) rfl (by kernel_rfl) (by kernel_rfl) (by kernel_rfl) (fun _ _ _ h => h) (Or.inl ⟨by rfl, ?yz4⟩) ?rz4
          case yz4 => (intro w _; go_simp; first | done | with_reducible rfl)
          simp only [Act.put, List.setIfInBounds_toArray, List.set_cons_zero, List.set_cons_succ]; refine wpAnyZ_take' (i := 5) (v := ?vz5) rfl (by kernel_rfl) (by kernel_rfl) (by kernel_rfl) (fun _ _ _ h => h) (Or.inl ⟨by rfl, ?yz5⟩) ?rz5
          case yz5 => (intro w _; go_simp; first | done | with_reducible rfl)
          simp only [Act.put, List.setIfInBounds_toArray, List.set_cons_zero, List.set_cons_succ]; refine wpAnyZ_take' (i := 6) (v := ?vz6) rfl (by kernel_rfl) (by kernel_rfl) (by kernel_rfl) (fun _ _ _ h => h) (Or.inl ⟨by rfl, ?yz6⟩) ?rz6
          case yz6 => (intro w _; go_simp; first | done | with_reducible rfl)
          simp only [Act.put, List.setIfInBounds_toArray, List.set_cons_zero, List.set_cons_succ]; refine wpAnyZ_load' (i := 7) (y := 8) (v := .agg [.int .i64 n0, .slice a1' d1.length p1'].toArray) rfl (by kernel_rfl) (by kernel_rfl) (by kernel_rfl) (fun _ _ _ h => h) (fun j hj => .inl (by obtain rfl : j = 8 := (by simpa using hj); kernel_rfl)) rfl (by kernel_rfl) (yieldsIf_load_mid (by rfl) _ _ rfl _ _ rfl _ _ (fun W hW => hW.2) Tryz.underlying47 rfl (by kernel_rfl)) hS ?rz7; simp only [Act.put, List.setIfInBounds_toArray, List.set_cons_zero, List.set_cons_succ]; refine wpAnyZ_one' (i := 8) (by kernel_rfl) rfl (fun K hK => ?_); go_simp; go_at_call 44; refine (HE.out wr.drew ⟨rfl, rfl, rfl, rfl⟩).mono ?_; rintro e w1 ⟨rfl, hG1⟩; have HG2 : Hid (wr.grownBy w1 none) := grownBy_trans (grownBy_drew (grownBy_refl wr none)) hG1; clear hG1; go_wp2_with fail; refine hK.out _ _ (fun h => by cases h) ?_; clear hK K; (try simp only [Act.put, List.setIfInBounds_toArray, List.set_cons_zero, List.set_cons_succ]); refine wpAnyZ_one' (i := 9) (by kernel_rfl) rfl (fun K hK => ?_); go_simp; refine hK.out _ _ (fun _ h => h) ?_; clear hK K; (try simp only [Act.put, List.setIfInBounds_toArray, List.set_cons_zero, List.set_cons_succ]); refine wpAnyZ_done (by kernel_rfl) ?_ _; go_wp2_with fail; go_meet
          case rel => exact ⟨rfl, HG2.out⟩
      case rest =>
        obtain ⟨rfl, hG1⟩ := hcut; have HG2 : Hid (w.grownBy wc none) := grownBy_trans HG.out hG1; clear hG1; go_wp2; go_roundw
        case rel => exact ⟨k + 1, by omega, by go_num, HG2.out⟩
        case measure => simp [intOf]; omega
    · obtain rfl : k = n := by omega
      go_wp2; go_ret; exact ⟨rfl, HG.out⟩
set_option maxRecDepth 4000 in
set_option maxHeartbeats 4000000 in
theorem eqFile_same (t0 : ByteArray) (d1 : List Nat) (a1 : Option Addr) (p1 : Nat) (a1' : Option Addr) (p1' : Nat) (w : World) (h1 : SlB w a1 d1.length d1) (h1' : SlB w a1' d1.length d1) (s1 : d1.length ≤ 1048576) :
    Calls Tryz.prog 22 #[.agg #[.string t0, .slice a1 d1.length p1], .agg #[.string t0, .slice a1' d1.length p1']] w fun e w' => e = .returned (.bool true) ∧ w.grownBy w' none := by
  have C0 : Hid (∀ Y : World, w.grownBy Y none → Calls Tryz.prog 45 #[.slice a1 d1.length p1, .slice a1' d1.length p1'] Y fun e w' => e = .returned (.bool true) ∧ Y.grownBy w' none) := fun Y hY => eqByteS_same a1 a1' d1.length p1 p1' d1 Y (h1.grown0 hY) (h1'.grown0 hY) (by omega)
  have HW : Hid (∀ Y : World, ((w.alloc (.cells #[.string t0, .slice a1 d1.length p1] 48)).alloc (.cells #[.string t0, .slice a1' d1.length p1'] 48)).grownBy Y none → Y.cell? ⟨w.heap.size, 0, none⟩ = some (.string t0) ∧ Y.cell? ⟨w.heap.size, 1, none⟩ = some (.slice a1 d1.length p1) ∧ Y.cell? ⟨w.heap.size + 1, 0, none⟩ = some (.string t0) ∧ Y.cell? ⟨w.heap.size + 1, 1, none⟩ = some (.slice a1' d1.length p1')) := fun Y hY => by
    have x0 : Y.heap[w.heap.size]? = some (.cells #[.string t0, .slice a1 d1.length p1] 48 (0, 0)) := (hY.block _ (by simp; omega) (by simp)).trans ((Below.heap_alloc _ _ _ (by simp)).trans (heap_alloc_new w _)); have x1 : Y.heap[w.heap.size + 1]? = some (.cells #[.string t0, .slice a1' d1.length p1'] 48 (0, 0)) := (hY.block _ (by simp) (by simp)).trans (heap_two w _ _)
    simp [World.cell?, x0, x1]
  have HG : Hid (w.grownBy ((w.alloc (.cells #[.string t0, .slice a1 d1.length p1] 48)).alloc (.cells #[.string t0, .slice a1' d1.length p1'] 48)) none) := grownBy_alloc (World.grownBy_alloc _ _ _) _; clear h1 h1' s1
  go_enter Tryz.func22, Tryz.ntmps22
  go_wp2_with fail; refine (C0.out _ HG.out).mono ?_; rintro e w1 ⟨rfl, hG1⟩; have HY : Hid (((w.alloc (.cells #[.string t0, .slice a1 d1.length p1] 48)).alloc (.cells #[.string t0, .slice a1' d1.length p1'] 48)).grownBy w1 none) := hG1; clear hG1; have hC := HW.out w1 HY.out; go_wp2; go_ret; exact ⟨rfl, grownBy_trans HG.out HY.out⟩
set_option maxRecDepth 4000 in
set_option maxHeartbeats 4000000 in
theorem eqFileS_same (L : List (List Tr)) (a : Option Addr) (p : Nat) (L' : List (List Tr)) (a' : Option Addr) (p' : Nat) (w : World) (h : RowOk w kFile a L) (h' : RowOk w kFile a' L') (e : tellR L = tellR L') (s : SmR L) :
    Calls Tryz.prog 9 #[.slice a L.length p, .slice a' L'.length p'] w fun e w' => e = .returned (.bool true) ∧ w.grownBy w' none := by
  have hll : L'.length = L.length := by have := congrArg List.length e; simpa using this.symm
  rw [hll]; have HR : Hid (RowOk w kFile a L ∧ RowOk w kFile a' L' ∧ tellR L = tellR L' ∧ SmR L) := ⟨h, h', e, s⟩; have hlen := s.1; clear h h' e s; obtain ⟨n, hn⟩ : ∃ n, L.length = n := ⟨_, rfl⟩; have HN : Hid (L.length = n ∧ L'.length = n) := ⟨hn, by omega⟩; rw [hn] at hlen ⊢; clear hll hn
  go_enter Tryz.func9, Tryz.ntmps9
  go_wp2
  go_loopw [5] (fun i wr => ∃ k : Nat, k ≤ n ∧ i = .int .i64 (k : Int) ∧ w.grownBy wr none) (fun i _ => n - (intOf i).toNat)
  case atStart => exact ⟨0, Nat.zero_le _, rfl, grownBy_refl _ _⟩
  case round =>
    obtain ⟨k, hk, rfl, hG⟩ := hrel; have HG : Hid (w.grownBy wr none) := hG; clear hG
    by_cases hlt : k < n
    · obtain ⟨e, he⟩ : ∃ e, L[k]? = some e := ⟨_, List.getElem?_eq_getElem (by rw [HN.out.1]; exact hlt)⟩; obtain ⟨e', he'⟩ : ∃ e, L'[k]? = some e := ⟨_, List.getElem?_eq_getElem (by rw [HN.out.2]; exact hlt)⟩; have htl := tellR_get HR.out.2.2.1 he he'; obtain ⟨hf, hrd, b, off, hab, hc⟩ := HR.out.1.grown0 HG.out k e he; obtain ⟨hf', hrd', b', off', hab', hc'⟩ := HR.out.2.1.grown0 HG.out k e' he'
      have hsm := fun j y hj => HR.out.2.2.2.2 k j e y he hj
      obtain ⟨t0, d1, a1, p1, rfl⟩ := fitFile hf; obtain ⟨t0', d1', a1', p1', rfl⟩ := fitFile hf'; simp only [List.map_cons, List.map_nil, List.cons.injEq, and_true, Td.str.injEq, Td.byt.injEq] at htl; obtain ⟨rfl, rfl⟩ := htl; subst hab hab'
      have HE : Hid (∀ w' : World, SameT wr w' → Calls Tryz.prog 22 #[.agg #[.string t0, .slice a1 d1.length p1], .agg #[.string t0, .slice a1' d1.length p1']] w' fun e w1 => e = .returned (.bool true) ∧ w'.grownBy w1 none) := fun w' hs => by
        have hh : w'.heap = wr.heap := hs.1; have hhG : wr.grownBy w' none := hs.grown; exact eqFile_same t0 d1 a1 p1 a1' p1' w' ((hrd (.byt d1 a1 p1) (by simp)).isByt.heap hh) ((hrd' (.byt d1 a1' p1') (by simp)).isByt.heap hh) (hsm 1 _ rfl).isByt
      have hkI : (k : Int) < (n : Int) := by omega
      have hS : wr.drew.rangeAt b (off + k * 2) [.string t0, .slice a1 d1.length p1] ∧ wr.drew.rangeAt b' (off' + k * 2) [.string t0, .slice a1' d1.length p1'] := ⟨range_el hc, range_el hc'⟩; clear hc hc' hrd hrd' hsm hf hf' he he'; go_wp2
      go_cut [26] (fun v wx => v = .bool false ∧ wr.grownBy wx none)
      case first =>
        as_aux_lemma =>
          refine wp_region_Z (fun W => W.rangeAt b (off + k * 2) [.string t0, .slice a1 d1.length p1] ∧ W.rangeAt b' (off' + k * 2) [.string t0, .slice a1' d1.length p1']) (fun j => j == 8) (by kernel_rfl) ?_; refine wpAnyZ_take' (i := 0) (v := ?vz0) rfl (by kernel_rfl) (by kernel_rfl) (by kernel_rfl) (fun _ _ _ h => h) (Or.inl ⟨by rfl, ?yz0⟩) ?rz0
          case yz0 => (intro w _; go_simp; first | done | with_reducible rfl)
          simp only [Act.put, List.setIfInBounds_toArray, List.set_cons_zero, List.set_cons_succ]; refine wpAnyZ_take' (i := 1) (v := ?vz1) rfl (by kernel_rfl) (by kernel_rfl) (by kernel_rfl) (fun _ _ _ h => h) (Or.inl ⟨by rfl, ?yz1⟩) ?rz1
          case yz1 => (intro w _; go_simp; first | done | with_reducible rfl)
          simp only [Act.put, List.setIfInBounds_toArray, List.set_cons_zero, List.set_cons_succ]; refine wpAnyZ_take' (i := 2) (v := ?vz2) rfl (by kernel_rfl) (by kernel_rfl) (by kernel_rfl) (fun _ _ _ h => h) (Or.inl ⟨by rfl, ?yz2⟩) ?rz2
          case yz2 => (intro w _; go_simp; first | done | with_reducible rfl)
          simp only [Act.put, List.setIfInBounds_toArray, List.set_cons_zero, List.set_cons_succ]; refine wpAnyZ_load' (i := 3) (y := 8) (v := .agg [.string t0, .slice a1 d1.length p1].toArray) rfl (by kernel_rfl) (by kernel_rfl) (by kernel_rfl) (fun _ _ _ h => h) (fun j hj => .inl (by obtain rfl : j = 8 := (by simpa using hj); kernel_rfl)) rfl (by kernel_rfl) (yieldsIf_load_mid (by rfl) _ _ rfl _ _ rfl _ _ (fun W hW => hW.1) Tryz.underlying48 rfl (by kernel_rfl)) hS ?rz3; simp only [Act.put, List.setIfInBounds_toArray, List.set_cons_zero, List.set_cons_succ]; refine wpAnyZ_take' (i := 4) (v := ?vz4) rfl (by kernel_rfl) (by kernel_rfl) (by kernel_rfl) (fun _ _ _ h => h) (Or.inl ⟨by rfl, ?yz4⟩) ?rz4
          case yz4 => (intro w _; go_simp; first | done | with_reducible rfl)
          simp only [Act.put, List.setIfInBounds_toArray, List.set_cons_zero, List.set_cons_succ]; refine wpAnyZ_take' (i := 5) (v := ?vz5) rfl (by kernel_rfl) (by kernel_rfl) (by kernel_rfl) (fun _ _ _ h => h) (Or.inl ⟨by rfl, ?yz5⟩) ?rz5
          case yz5 => (intro w _; go_simp; first | done | with_reducible rfl)
          simp only [Act.put, List.setIfInBounds_toArray, List.set_cons_zero, List.set_cons_succ]; refine wpAnyZ_take' (i := 6) (v := ?vz6) rfl (by kernel_rfl) (by kernel_rfl) (by kernel_rfl) (fun _ _ _ h => h) (Or.inl ⟨by rfl, ?yz6⟩) ?rz6
          case yz6 => (intro w _; go_simp; first | done | with_reducible rfl)
          simp only [Act.put, List.setIfInBounds_toArray, List.set_cons_zero, List.set_cons_succ]; refine wpAnyZ_load' (i := 7) (y := 8) (v := .agg [.string t0, .slice a1' d1.length p1'].toArray) rfl (by kernel_rfl) (by kernel_rfl) (by kernel_rfl) (fun _ _ _ h => h) (fun j hj => .inl (by obtain rfl : j = 8 := (by simpa using hj); kernel_rfl)) rfl (by kernel_rfl) (yieldsIf_load_mid (by rfl) _ _ rfl _ _ rfl _ _ (fun W hW => hW.2) Tryz.underlying48 rfl (by kernel_rfl)) hS ?rz7; simp only [Act.put, List.setIfInBounds_toArray, List.set_cons_zero, List.set_cons_succ]; refine wpAnyZ_one' (i := 8) (by kernel_rfl) rfl (fun K hK => ?_); go_simp; go_at_call 22; refine (HE.out wr.drew ⟨rfl, rfl, rfl, rfl⟩).mono ?_; rintro e w1 ⟨rfl, hG1⟩; have HG2 : Hid (wr.grownBy w1 none) := grownBy_trans (grownBy_drew (grownBy_refl wr none)) hG1; clear hG1; go_wp2_with fail; refine hK.out _ _ (fun h => by cases h) ?_; clear hK K; (try simp only [Act.put, List.setIfInBounds_toArray, List.set_cons_zero, List.set_cons_succ]); refine wpAnyZ_one' (i := 9) (by kernel_rfl) rfl (fun K hK => ?_); go_simp; refine hK.out _ _ (fun _ h => h) ?_; clear hK K; (try simp only [Act.put, List.setIfInBounds_toArray, List.set_cons_zero, List.set_cons_succ]); refine wpAnyZ_done (by kernel_rfl) ?_ _; go_wp2_with fail; go_meet
          case rel => exact ⟨rfl, HG2.out⟩
      case rest =>
        obtain ⟨rfl, hG1⟩ := hcut; have HG2 : Hid (w.grownBy wc none) := grownBy_trans HG.out hG1; clear hG1; go_wp2; go_roundw
        case rel => exact ⟨k + 1, by omega, by go_num, HG2.out⟩
        case measure => simp [intOf]; omega
    · obtain rfl : k = n := by omega
      go_wp2; go_ret; exact ⟨rfl, HG.out⟩
set_option maxHeartbeats 800000 in
theorem eqIntS_same (oa ob : Option Addr) (len ca cb : Nat) (zs : List Int) (w : World) (ha : SlI w oa len zs) (hb : SlI w ob len zs) (hm : len ≤ 1073741824) :
    Calls Tryz.prog 21 #[.slice oa len ca, .slice ob len cb] w fun e w' => e = .returned (.bool true) ∧ w.grownBy w' none := by
  obtain ⟨hl, hz, hc⟩ := ha; obtain ⟨_, _, hd⟩ := hb; clear hz
  go_enter Tryz.func21, Tryz.ntmps21
  go_wp2
  go_loopw [5] (fun i wr => ∃ k : Nat, k ≤ len ∧ i = .int .i64 k ∧ w.grownBy wr none) (fun i _ => len - (intOf i).toNat)
  case atStart => exact ⟨0, Nat.zero_le _, rfl, grownBy_refl _ _⟩
  case round =>
    obtain ⟨k, hk, rfl, hG⟩ := hrel
    by_cases hlt : k < len
    · obtain ⟨b, off, rfl, hcc⟩ := hc (by omega); obtain ⟨b', off', rfl, hdd⟩ := hd (by omega)
      have h1 : wr.cell? ⟨b, off + k, none⟩ = some (.int .i64 (zs.getD k 0)) := by
        have h0 := hcc k hlt; exact (World.cell?_of_block (w := w) (a := ⟨b, off + k, none⟩) (hG.block b (cell_block_lt h0) (by simp))).trans h0
      have h2 : wr.cell? ⟨b', off' + k, none⟩ = some (.int .i64 (zs.getD k 0)) := by
        have h0 := hdd k hlt; exact (World.cell?_of_block (w := w) (a := ⟨b', off' + k, none⟩) (hG.block b' (cell_block_lt h0) (by simp))).trans h0
      obtain ⟨c, hce⟩ : ∃ c, c = zs.getD k 0 := ⟨_, rfl⟩; rw [← hce] at h1 h2; have HG : Hid (w.grownBy wr none) := hG; clear hcc hdd hc hd hce hG; go_wp2
      go_region
      all_goals (try go_wp2)
      all_goals go_roundw
      all_goals first | (simp [intOf]; omega) | exact ⟨k + 1, by omega, by go_num, by repeat (first | exact HG.out | apply grownBy_drew)⟩
    · have HG : Hid (w.grownBy wr none) := hG; clear hG; go_wp2; go_ret; exact ⟨rfl, HG.out⟩
def En.tr (e : En) : List Tr := [.int (e.t : Int), .byt e.data (some ⟨e.g, e.off, none⟩) e.cp]
def En.tell (e : En) : Nat × List Nat := (e.t, e.data)
theorem En.data_len {e : En} (h : e.off + e.n ≤ e.D.length) : e.data.length = e.n := by simp [En.data]; omega
theorem EnR.rowOk {w : World} {G : Nat} {E : List En} (h : EnR w G E) (hs : ∀ e ∈ E, e.t ≤ 1073741824 ∧ e.n ≤ 1048576) : RowOk w kEntry (some ⟨G, 0, none⟩) (E.map En.tr) := by
  intro i x hi; rw [List.getElem?_map] at hi; obtain ⟨e, he, rfl⟩ := Option.map_eq_some_iff.1 hi; have hm := List.mem_of_getElem? he; obtain ⟨ho, hl⟩ := h.own e hm; obtain ⟨c0, c1, -⟩ := h.cells he; have hd := En.data_len hl; refine ⟨⟨rfl, fun j y k hj hk => ?_⟩, fun y hy => ?_, G, 0, rfl, fun j y hj => ?_⟩
  · match j with
    | 0 => obtain rfl := Option.some.inj hj; obtain rfl := Option.some.inj hk; exact .int _
    | 1 => obtain rfl := Option.some.inj hj; obtain rfl := Option.some.inj hk; exact .byt _ _ _
    | j + 2 => cases hk
  · simp only [En.tr, List.mem_cons, List.not_mem_nil, or_false] at hy
    rcases hy with rfl | rfl
    · exact .int ⟨by omega, by have := (hs e hm).1; omega⟩
    · exact .byt (by rw [hd]; have := (hs e hm).2; unfold maxLen; omega) (by rw [hd]; exact ho.slAt e.off e.n hl)
  · match j with
    | 0 =>
      obtain rfl := Option.some.inj hj
      show w.cell? ⟨G, 0 + i * 2 + 0, none⟩ = _
      rw [Nat.zero_add]; exact c0
    | 1 =>
      obtain rfl := Option.some.inj hj
      show w.cell? ⟨G, 0 + i * 2 + 1, none⟩ = some (.slice _ e.data.length _)
      rw [Nat.zero_add, hd]; exact c1
    | j + 2 => cases hj
/-- a slice of entries: none, or a row of its own -/
def EnS (w : World) (oa : Option Addr) (n : Nat) (E : List En) : Prop := E.length = n ∧ ((oa = none ∧ E = []) ∨ ∃ G, oa = some ⟨G, 0, none⟩ ∧ EnR w G E)
/-- a slice of numbers: none, or a row of its own -/
def InS (w : World) (oa : Option Addr) (n : Nat) (zs : List Int) : Prop := zs.length = n ∧ ((oa = none ∧ zs = []) ∨ ∃ G, oa = some ⟨G, 0, none⟩ ∧ OwnI w 3 G zs)
theorem EnS.grown0 {w w' : World} {oa : Option Addr} {n : Nat} {E : List En} (h : EnS w oa n E) (hg : w.grownBy w' none) : EnS w' oa n E := by
  obtain ⟨h1, h2 | ⟨G, h2, h3⟩⟩ := h
  · exact ⟨h1, .inl h2⟩
  · exact ⟨h1, .inr ⟨G, h2, h3.grown0 hg⟩⟩
theorem InS.grown0 {w w' : World} {oa : Option Addr} {n : Nat} {zs : List Int} (h : InS w oa n zs) (hg : w.grownBy w' none) : InS w' oa n zs := by
  obtain ⟨h1, h2 | ⟨G, h2, h3⟩⟩ := h
  · exact ⟨h1, .inl h2⟩
  · exact ⟨h1, .inr ⟨G, h2, h3.grown hg (by simp)⟩⟩
theorem EnS.rowOk {w : World} {oa : Option Addr} {n : Nat} {E : List En} (h : EnS w oa n E) (hs : ∀ e ∈ E, e.t ≤ 1073741824 ∧ e.n ≤ 1048576) : RowOk w kEntry oa (E.map En.tr) := by
  obtain ⟨-, ⟨-, rfl⟩ | ⟨G, rfl, h3⟩⟩ := h
  · intro i x hi; simp at hi
  · exact h3.rowOk hs
theorem InS.sl {w : World} {oa : Option Addr} {n : Nat} {zs : List Int} (h : InS w oa n zs) : SlI w oa n zs := by
  obtain ⟨h1, ⟨rfl, rfl⟩ | ⟨G, rfl, h3⟩⟩ := h
  · exact ⟨h1, by simp, fun hn => absurd h1.symm (by simpa using hn)⟩
  · exact h3.sl n h1
theorem tellR_en {E E' : List En} (h : E.map En.tell = E'.map En.tell) : tellR (E.map En.tr) = tellR (E'.map En.tr) := by
  have h1 : ∀ F : List En, tellR (F.map En.tr) = (F.map En.tell).map (fun p => [Td.int (p.1 : Int), Td.byt p.2]) := by
    intro F; rw [tellR, List.map_map, List.map_map]; refine List.map_congr_left (fun e _ => ?_)
    simp [En.tr, En.tell]
  rw [h1, h1, h]
theorem smR_en {E : List En} (hl : E.length ≤ 1048576) (hs : ∀ e ∈ E, e.data.length ≤ 1048576) : SmR (E.map En.tr) := by
  refine ⟨by simpa using hl, fun i j x y hi hj => ?_⟩; rw [List.getElem?_map] at hi; obtain ⟨e, he, rfl⟩ := Option.map_eq_some_iff.1 hi
  match j with
  | 0 => obtain rfl := Option.some.inj hj; exact .int _
  | 1 => obtain rfl := Option.some.inj hj; exact .byt (hs e (List.mem_of_getElem? he))
  | j + 2 => cases hj
/-- the answer -/
structure Wv where
  code : Nat
  base : Nat
  bt : Nat
  E : List En
  zs : List Int
  keep : Nat
  drop : Bool
  ea : Option Addr
  ec : Nat
  sa : Option Addr
  sc : Nat
def Wv.tell (v : Wv) : Nat × Nat × Nat × List (Nat × List Nat) × List Int × Nat × Bool := (v.code, v.base, v.bt, v.E.map En.tell, v.zs, v.keep, v.drop)
structure WvAt (w : World) (v : Wv) : Prop where
  en : EnS w v.ea v.E.length v.E
  se : InS w v.sa v.zs.length v.zs
structure WvSm (v : Wv) : Prop where
  len : v.E.length ≤ 1048576
  slen : v.zs.length ≤ 1048576
  each : ∀ e ∈ v.E, e.t ≤ 1073741824 ∧ e.n ≤ 1048576 ∧ e.off + e.n ≤ e.D.length
  num : v.code ≤ 1073741824 ∧ v.base ≤ 1073741824 ∧ v.bt ≤ 1073741824 ∧ v.keep ≤ 1073741824
theorem WvAt.grown0 {w w' : World} {v : Wv} (h : WvAt w v) (hg : w.grownBy w' none) : WvAt w' v := ⟨h.en.grown0 hg, h.se.grown0 hg⟩
abbrev Wv.val (v : Wv) : Value := .agg #[.int .i64 (v.code : Int), .int .i64 (v.base : Int), .int .i64 (v.bt : Int), .slice v.ea v.E.length v.ec, .slice v.sa v.zs.length v.sc, .int .i64 (v.keep : Int), .bool v.drop]
set_option maxRecDepth 4000 in
set_option maxHeartbeats 2000000 in
theorem eqWalView_same (v u : Wv) (w : World) (hv : WvAt w v) (hu : WvAt w u) (h : v.tell = u.tell) (sv : WvSm v) (su : WvSm u) :
    Calls Tryz.prog 8 #[v.val, u.val] w fun e w' => e = .returned (.bool true) ∧ w.grownBy w' none := by
  obtain ⟨code, base, bt, E, zs, keep, drop, ea, ec, sa, sc⟩ := v; obtain ⟨code', base', bt', E', zs', keep', drop', ea', ec', sa', sc'⟩ := u; simp only [Wv.tell, Prod.mk.injEq] at h; obtain ⟨rfl, rfl, rfl, hE, rfl, rfl, rfl⟩ := h
  have hll : E'.length = E.length := by have := congrArg List.length hE; simpa using this.symm
  have HE : Hid (∀ Y : World, w.grownBy Y none → Calls Tryz.prog 20 #[.slice ea E.length ec, .slice ea' E'.length ec'] Y fun e w' => e = .returned (.bool true) ∧ Y.grownBy w' none) := fun Y hY => by
    have h1 := eqEntryS_same (E.map En.tr) ea ec (E'.map En.tr) ea' ec' Y ((hv.en.grown0 hY).rowOk (fun e he => ⟨(sv.each e he).1, (sv.each e he).2.1⟩)) ((hu.en.grown0 hY).rowOk (fun e he => ⟨(su.each e he).1, (su.each e he).2.1⟩)) (tellR_en hE) (smR_en sv.len (fun e he => by rw [En.data_len (sv.each e he).2.2]; exact (sv.each e he).2.1))
    simpa using h1
  have HI : Hid (∀ Y : World, w.grownBy Y none → Calls Tryz.prog 21 #[.slice sa zs.length sc, .slice sa' zs.length sc'] Y fun e w' => e = .returned (.bool true) ∧ Y.grownBy w' none) := fun Y hY =>
    eqIntS_same sa sa' zs.length sc sc' zs Y (hv.se.grown0 hY).sl (hu.se.grown0 hY).sl (by have := sv.slen; simp at this; omega)
  clear hv hu sv su hE; simp only [Wv.val]; rw [hll] at HE ⊢; clear hll; generalize E.length = n at *; generalize zs.length = m at *
  go_enter Tryz.func8, Tryz.ntmps8
  go_wp2_with fail; refine (HE.out _ (grownBy_alloc (World.grownBy_alloc _ _ _) _)).mono ?_; rintro e w1 ⟨rfl, hG1⟩; have hA : w1.heap[w.heap.size]? = some (.cells #[.int .i64 (code : Int), .int .i64 (base : Int), .int .i64 (bt : Int), .slice ea n ec, .slice sa m sc, .int .i64 (keep : Int), .bool drop] 27 (0, 0)) := (hG1.block _ (by simp; omega) (by simp)).trans ((Below.heap_alloc _ _ _ (by simp)).trans (heap_alloc_new w _)); have hB : w1.heap[w.heap.size + 1]? = some (.cells #[.int .i64 (code : Int), .int .i64 (base : Int), .int .i64 (bt : Int), .slice ea' n ec', .slice sa' m sc', .int .i64 (keep : Int), .bool drop] 27 (0, 0)) := (hG1.block _ (by simp) (by simp)).trans (heap_two w _ _); have H1 : Hid (w.grownBy w1 none ∧ w1.heap[w.heap.size]? = some (.cells #[.int .i64 (code : Int), .int .i64 (base : Int), .int .i64 (bt : Int), .slice ea n ec, .slice sa m sc, .int .i64 (keep : Int), .bool drop] 27 (0, 0)) ∧ w1.heap[w.heap.size + 1]? = some (.cells #[.int .i64 (code : Int), .int .i64 (base : Int), .int .i64 (bt : Int), .slice ea' n ec', .slice sa' m sc', .int .i64 (keep : Int), .bool drop] 27 (0, 0))) := ⟨grownBy_trans (grownBy_alloc (World.grownBy_alloc _ _ _) _) hG1, hA, hB⟩; have c4 : w1.cell? ⟨w.heap.size, 4, none⟩ = some (.slice sa m sc) := (cell_of_row w1 _ _ _ _ _ hA).trans rfl; have d4 : w1.cell? ⟨w.heap.size + 1, 4, none⟩ = some (.slice sa' m sc') := (cell_of_row w1 _ _ _ _ _ hB).trans rfl; clear hG1 hA hB HE; go_wp2_with fail; refine (HI.out _ H1.out.1).mono ?_; rintro e w2 ⟨rfl, hG2⟩; have hA := (hG2.block _ (Array.getElem?_eq_some_iff.1 H1.out.2.1).1 (by simp)).trans H1.out.2.1; have hB := (hG2.block _ (Array.getElem?_eq_some_iff.1 H1.out.2.2).1 (by simp)).trans H1.out.2.2; have H2 : Hid (w.grownBy w2 none) := grownBy_trans H1.out.1 hG2; have c5 : w2.cell? ⟨w.heap.size, 5, none⟩ = some (.int .i64 (keep : Int)) := (cell_of_row w2 _ _ _ _ _ hA).trans rfl; have d5 : w2.cell? ⟨w.heap.size + 1, 5, none⟩ = some (.int .i64 (keep : Int)) := (cell_of_row w2 _ _ _ _ _ hB).trans rfl; have c6 : w2.cell? ⟨w.heap.size, 6, none⟩ = some (.bool drop) := (cell_of_row w2 _ _ _ _ _ hA).trans rfl; have d6 : w2.cell? ⟨w.heap.size + 1, 6, none⟩ = some (.bool drop) := (cell_of_row w2 _ _ _ _ _ hB).trans rfl; clear hG2 hA hB HI c4 d4 H1; go_wp2; go_ret; exact ⟨rfl, H2.out⟩
def En.cells (e : En) : List Value := [.int .i64 (e.t : Int), .slice (some ⟨e.g, e.off, none⟩) e.n e.cp]
def sgCells (s : Nat × Nat) : List Value := [.int .i64 (s.1 : Int), .int .i64 (s.2 : Int)]
structure Lg where
  base : Nat
  bt : Nat
  E : List En
  ev : Value
  S : List (Nat × Nat)
  sv : Value
structure LogIn (w : World) (R B : Nat) (tl : List Value) (L : Lg) : Prop where
  box : w.heap[R]? = some (.cells (Value.int .i64 (L.base : Int) :: .int .i64 (L.bt : Int) :: L.ev :: L.sv :: tl).toArray 60 (0, 0))
  ent : w.ownsRow B 47 2 L.ev L.E.length (L.E.flatMap En.cells)
  own : ∀ e ∈ L.E, B ≤ e.g ∧ Own w 5 e.g e.D ∧ e.off + e.n ≤ e.D.length
  apart : (L.E.map En.g).Nodup
  seg : w.ownsRow B 67 2 L.sv L.S.length (L.S.flatMap sgCells)
  low : R < B
  sm : L.base + L.E.length ≤ 1000000 ∧ L.bt ≤ 1000000000 ∧ L.S.length ≤ 1000 ∧ ∀ e ∈ L.E, e.t ≤ 1000000000 ∧ e.n ≤ 8192
theorem flat2_get {α : Type} (f : α → Value) (g : α → Value) (l : List α) {i : Nat} {x : α} (h : l[i]? = some x) : (l.flatMap (fun y => [f y, g y]))[i * 2]? = some (f x) ∧ (l.flatMap (fun y => [f y, g y]))[i * 2 + 1]? = some (g x) := by
  induction l generalizing i with
  | nil => simp at h
  | cons y l ih =>
    cases i with
    | zero => simp at h; subst h; simp
    | succ i =>
      have h1 := ih (i := i) (by simpa using h); rw [show (i + 1) * 2 = i * 2 + 1 + 1 by omega]
      simpa using h1
theorem own_at {w : World} {B e n : Nat} {v : Value} {xs : List Value} (h : w.ownsRow B e 2 v n xs) {i : Nat} {u : Value} (hi : xs[i]? = some u) : ∃ g cap, v = .slice (some ⟨g, 0, none⟩) n cap ∧ B ≤ g ∧ n ≤ cap ∧ cap ≤ maxLen ∧ w.cell? ⟨g, i, none⟩ = some u ∧ (∀ o, w.frozen? ⟨g, o, none⟩ = false) ∧ g < w.heap.size := by
  obtain ⟨hl, ⟨rfl, rfl⟩ | ⟨g, cap, cur, rfl, hb, hg, hc, hm, hs, ht⟩⟩ := h
  · have := (List.getElem?_eq_some_iff.1 hi).1
    omega
  · refine ⟨g, cap, rfl, hb, hc, hm, ?_, fun o => by simp [World.frozen?, hg], (Array.getElem?_eq_some_iff.1 hg).1⟩; rw [cell_of_row w g _ _ _ _ hg]; have hil := (List.getElem?_eq_some_iff.1 hi).1; rw [← ht, List.getElem?_take] at hi
    split at hi
    · simpa using hi
    · cases hi
theorem LogIn.cells {w : World} {R B : Nat} {tl : List Value} {L : Lg} (h : LogIn w R B tl L) : w.cell? ⟨R, 0, none⟩ = some (.int .i64 (L.base : Int)) ∧ w.cell? ⟨R, 1, none⟩ = some (.int .i64 (L.bt : Int)) ∧ w.cell? ⟨R, 2, none⟩ = some L.ev ∧ w.cell? ⟨R, 3, none⟩ = some L.sv ∧ (∀ o, w.frozen? ⟨R, o, none⟩ = false) ∧ R < w.heap.size := by
  have hb := h.box; refine ⟨?_, ?_, ?_, ?_, fun o => by simp [World.frozen?, hb], (Array.getElem?_eq_some_iff.1 hb).1⟩ <;> rw [cell_of_row w R _ _ _ _ hb] <;> simp
theorem LogIn.evIs {w : World} {R B : Nat} {tl : List Value} {L : Lg} (h : LogIn w R B tl L) : ∃ oa cap, L.ev = .slice oa L.E.length cap ∧ L.E.length ≤ cap ∧ cap ≤ maxLen := by
  obtain ⟨hl, ⟨h1, h2⟩ | ⟨g, cap, cur, h1, hb, hg, hc, hm, hs, ht⟩⟩ := h.ent
  · exact ⟨none, 0, by rw [h1, h2], by omega, by unfold maxLen; omega⟩
  · exact ⟨_, cap, h1, hc, hm⟩
theorem LogIn.svIs {w : World} {R B : Nat} {tl : List Value} {L : Lg} (h : LogIn w R B tl L) : ∃ oa cap, L.sv = .slice oa L.S.length cap ∧ L.S.length ≤ cap ∧ cap ≤ maxLen := by
  obtain ⟨hl, ⟨h1, h2⟩ | ⟨g, cap, cur, h1, hb, hg, hc, hm, hs, ht⟩⟩ := h.seg
  · exact ⟨none, 0, by rw [h1, h2], by omega, by unfold maxLen; omega⟩
  · exact ⟨_, cap, h1, hc, hm⟩
theorem LogIn.heap {w w' : World} {R B : Nat} {tl : List Value} {L : Lg} (h : LogIn w R B tl L) (hh : w'.heap = w.heap) : LogIn w' R B tl L :=
  ⟨by rw [hh]; exact h.box, ownsRow_heap h.ent hh, fun e he => ⟨(h.own e he).1, (h.own e he).2.1.heap hh, (h.own e he).2.2⟩, h.apart, ownsRow_heap h.seg hh, h.low, h.sm⟩
/-- a term -/
def ltm (base bt : Nat) (ts : List Nat) (i : Nat) : Nat := if i = base then bt else if i < base ∨ base + ts.length < i then 0 else ts.getD (i - base - 1) 0
def Lg.term (L : Lg) (i : Nat) : Nat := ltm L.base L.bt (L.E.map En.t) i
def Lg.last (L : Lg) : Nat := L.base + L.E.length
set_option maxRecDepth 4000 in
set_option maxHeartbeats 1000000 in
theorem last_any (R B : Nat) (tl : List Value) (L : Lg) (w : World) (h : LogIn w R B tl L) :
    Calls Tryz.prog 71 #[.pointer (some ⟨R, 0, none⟩)] w fun e w' => e = .returned (.int .i64 (L.last : Int)) ∧ ∃ m, w' = w.drewN m := by
  obtain ⟨c0, -, c2, -⟩ := h.cells; obtain ⟨oa, cap, hev, -⟩ := h.evIs; rw [hev] at c2; have hsm := h.sm.1
  unfold Lg.last
  obtain ⟨base, hb⟩ : ∃ x, L.base = x := ⟨_, rfl⟩; obtain ⟨n, hn⟩ : ∃ x, L.E.length = x := ⟨_, rfl⟩; rw [hb, hn] at hsm; rw [hb] at c0; rw [hn] at c2; rw [hb, hn]; clear h hev hb hn; have v1 : IntKind.i64.wrap ((base : Int) + n) = base + n := IntWalk.i64_in _ (by omega)
  go_enter Tryz.func71, Tryz.ntmps71
  go_wp2; go_quiet (fail); go_wp2; go_ret; exact ⟨ret_int (by omega), _, rfl⟩
set_option maxRecDepth 4000 in
set_option maxHeartbeats 2000000 in
theorem termAt_any (i R B : Nat) (tl : List Value) (L : Lg) (w : World) (h : LogIn w R B tl L) (hi : i ≤ 1073741824) :
    Calls Tryz.prog 73 #[.pointer (some ⟨R, 0, none⟩), .int .i64 (i : Int)] w fun e w' => e = .returned (.int .i64 (L.term i : Int)) ∧ ∃ m, w' = w.drewN m := by
  obtain ⟨c0, c1, c2, -⟩ := h.cells; have hsm := h.sm.1
  have HC : Hid (∀ w', w'.heap = w.heap → Calls _ _ _ w' _) := fun w' hh => last_any R B tl L w' (h.heap hh)
  unfold Lg.last at HC
  unfold Lg.term ltm
  rw [List.length_map]
  by_cases h1 : i = L.base
  · rw [if_pos h1]; subst h1; clear HC
    go_enter Tryz.func73, Tryz.ntmps73
    go_wp2; go_ret; exact ⟨rfl, 0, rfl⟩
  · rw [if_neg h1]
    have e1 : ((i : Int) == (L.base : Int)) = false := by rw [beq_eq_false_iff_ne]; omega
    by_cases h2 : i < L.base
    · rw [if_pos (.inl h2)]
      have e2 : (i : Int) < (L.base : Int) := by omega
      clear HC
      go_enter Tryz.func73, Tryz.ntmps73
      go_wp2; go_ret; exact ⟨rfl, 0, rfl⟩
    · have e2 : ¬ (i : Int) < (L.base : Int) := by omega
      by_cases h3 : L.base + L.E.length < i
      · rw [if_pos (.inr h3)]
        have e3 : ((L.base + L.E.length : Nat) : Int) < (i : Int) := by omega
        go_enter Tryz.func73, Tryz.ntmps73
        go_wp2_with fail; refine (HC.out w rfl).mono ?_; clear HC; rintro e w1 ⟨rfl, m, rfl⟩; go_wp2; go_ret; exact ⟨rfl, m, rfl⟩
      · rw [if_neg (by omega)]
        have e3 : ¬ ((L.base + L.E.length : Nat) : Int) < (i : Int) := by omega
        obtain ⟨e, he⟩ : ∃ e, L.E[i - L.base - 1]? = some e := ⟨_, List.getElem?_eq_getElem (by omega)⟩
        have ht : (L.E.map En.t).getD (i - L.base - 1) 0 = e.t := by rw [List.getD_eq_getElem?_getD, List.getElem?_map, he]; rfl
        rw [ht]; obtain ⟨g, cap, hev, -, hc, -, q, -⟩ := own_at h.ent (flat2_get (fun e : En => .int .i64 (e.t : Int)) (fun e : En => .slice (some ⟨e.g, e.off, none⟩) e.n e.cp) L.E he).1; rw [hev] at c2; obtain ⟨k, hk⟩ : ∃ k, i - L.base - 1 = k := ⟨_, rfl⟩; rw [hk] at q; have v1 : IntKind.i64.wrap ((i : Int) - L.base) = i - L.base := IntWalk.i64_in _ (by omega)
        have v2 : IntKind.i64.wrap ((i : Int) - L.base - 1) = (k : Int) := by rw [IntWalk.i64_in _ (by omega)]; omega
        obtain ⟨n, hn⟩ : ∃ x, L.E.length = x := ⟨_, rfl⟩; obtain ⟨base, hb⟩ : ∃ x, L.base = x := ⟨_, rfl⟩; rw [hn] at c2 e3 HC hsm; rw [hb] at v1 v2 e1 e2 e3 c0 HC hsm
        have e4 : (k : Int) < (n : Int) := by omega
        have hsl : w.cell? ⟨g, k * 2, none⟩ = some (.int .i64 (e.t : Int)) := q; clear h hev ht he hk q h1 h2 h3 hn hb c1
        go_enter Tryz.func73, Tryz.ntmps73
        go_wp2_with fail; refine (HC.out w rfl).mono ?_; clear HC; rintro e w1 ⟨rfl, m, rfl⟩; have d0 : (w.drewN m).cell? ⟨R, 0, none⟩ = some (.int .i64 (base : Int)) := c0; have d2 : (w.drewN m).cell? ⟨R, 2, none⟩ = some (.slice (some ⟨g, 0, none⟩) n cap) := c2; have d3 : (w.drewN m).cell? ⟨g, k * 2, none⟩ = some (.int .i64 (e.t : Int)) := hsl; go_wp2; go_quiet (fail); go_wp2; go_ret; exact ⟨rfl, m + nq, by simp⟩
set_option maxRecDepth 4000 in
set_option maxHeartbeats 1000000 in
theorem lastTerm_any (R B : Nat) (tl : List Value) (L : Lg) (w : World) (h : LogIn w R B tl L) :
    Calls Tryz.prog 72 #[.pointer (some ⟨R, 0, none⟩)] w fun e w' => e = .returned (.int .i64 (L.term L.last : Int)) ∧ ∃ m, w' = w.drewN m := by
  have hsm := h.sm.1; have H1 : Hid (Calls _ _ _ w _) := last_any R B tl L w h
  have H2 : Hid (∀ w', w'.heap = w.heap → Calls _ _ _ w' _) := fun w' hh => termAt_any L.last R B tl L w' (h.heap hh) (by unfold Lg.last; omega)
  clear h
  go_enter Tryz.func72, Tryz.ntmps72
  go_wp2_with fail; refine H1.out.mono ?_; rintro e w1 ⟨rfl, m, rfl⟩; go_wp2_with fail; refine (H2.out (w.drewN m) rfl).mono ?_; rintro e w1 ⟨rfl, m', rfl⟩; go_wp2; go_ret; exact ⟨rfl, m + m', by simp⟩
set_option maxRecDepth 4000 in
set_option maxHeartbeats 1000000 in
theorem current_any (R B : Nat) (tl : List Value) (L : Lg) (w : World) (h : LogIn w R B tl L) (g n cap : Nat) (hs : L.sv = .slice (some ⟨g, 0, none⟩) (n + 1) cap) (hn : n ≤ 1000) :
    Calls Tryz.prog 62 #[.pointer (some ⟨R, 0, none⟩)] w fun e w' => e = .returned (.pointer (some ⟨g, n * 2, none⟩)) ∧ ∃ m, w' = w.drewN m := by
  obtain ⟨-, -, -, c3, -⟩ := h.cells; rw [hs] at c3; clear h hs
  have e1 : IntKind.i64.wrap (((n + 1 : Nat) : Int) - 1) = (n : Int) := by rw [IntWalk.i64_in _ (by omega)]; omega
  have e2 : (n : Int) < ((n + 1 : Nat) : Int) := by omega
  obtain ⟨k, hk⟩ : ∃ k, n + 1 = k := ⟨_, rfl⟩; rw [hk] at c3 e1 e2; clear hk
  go_enter Tryz.func62, Tryz.ntmps62
  go_wp2; go_quiet (fail); go_wp2; go_ret; exact ⟨rfl, _, rfl⟩
/-- what a call on the log may turn: the box, and rows of entries and of segments from B on -/
def RowK (w : World) (k : Nat) : Prop := ∃ cur t f, w.heap[k]? = some (.cells cur t f) ∧ (t = 47 ∨ t = 67)
def TT (w : World) (R B k : Nat) : Prop := k = R ∨ (B ≤ k ∧ RowK w k)
def RowsW (w : World) (R B : Nat) (w' : World) : Prop := OnlyW (TT w R B) w w'
theorem RowsW.refl (w : World) (R B : Nat) : RowsW w R B w := OnlyW.refl _ w
theorem RowsW.trans {a b c : World} {R B : Nat} (h : RowsW a R B b) (k : RowsW b R B c) : RowsW a R B c :=
  ⟨k.os.trans h.os, k.tape.trans h.tape, k.output.trans h.output, Nat.le_trans h.size k.size, fun i hi hT => by
    have h1 := h.block i hi hT; refine (k.block i (Nat.lt_of_lt_of_le hi h.size) ?_).trans h1; rintro (h2 | ⟨h2, cur, t, f, h3, h4⟩)
    · exact hT (.inl h2)
    · exact hT (.inr ⟨h2, cur, t, f, h1.symm.trans h3, h4⟩)⟩
theorem RowsW.of_grown0 {w w' : World} {R B : Nat} (h : w.grownBy w' none) : RowsW w R B w' := OnlyW.of_grown h (by simp)
theorem RowsW.of_box {w w' : World} {R B : Nat} (h : w.grownBy w' (some R)) : RowsW w R B w' := OnlyW.of_grown h (fun g e => by cases e; exact .inl rfl)
theorem RowsW.of_row {w w' : World} {R B e n : Nat} {v : Value} {xs : List Value} (h : w.grownBy w' v.ownBlock) (ho : w.ownsRow B e 2 v n xs) (he : e = 47 ∨ e = 67) : RowsW w R B w' :=
  OnlyW.of_grown h (fun g hg => by
    obtain ⟨hl, ⟨h1, h2⟩ | ⟨g', cap, cur, h1, hb, hg', -⟩⟩ := ho
    · rw [h1] at hg; simp [Value.ownBlock] at hg
    · rw [h1] at hg; simp only [Value.ownBlock, Option.some.injEq] at hg; subst hg
      exact .inr ⟨hb, cur, e, _, hg', he⟩)
theorem RowsW.keep {w w' : World} {R B k : Nat} {o : Obj} (h : RowsW w R B w') (ho : w.heap[k]? = some o) (hR : k ≠ R) (ht : k < B ∨ ∀ cur t f, o = .cells cur t f → t ≠ 47 ∧ t ≠ 67) : w'.heap[k]? = some o :=
  (h.block k (Array.getElem?_eq_some_iff.1 ho).1 (by
    rintro (h2 | ⟨h2, cur, t, f, h3, h4⟩)
    · exact hR h2
    · rcases ht with ht | ht
      · omega
      · rw [ho] at h3; have := ht cur t f (Option.some.inj h3)
        rcases h4 with h4 | h4
        · exact this.1 h4
        · exact this.2 h4)).trans ho
theorem RowsW.own {w w' : World} {R B g : Nat} {zs : List Nat} (h : RowsW w R B w') (ho : Own w 5 g zs) (hR : g ≠ R) : Own w' 5 g zs := by
  refine ho.of_block ?_; obtain ⟨-, cur, hg, -⟩ := ho; rw [hg]; exact h.keep hg hR (.inr (fun c t f e => by injection e with _ e _; subst e; decide))
theorem RowsW.grown0 {a b c : World} {R B : Nat} (h : a.grownBy b none) (k : RowsW b R B c) (hR : a.heap.size ≤ R) (hB : a.heap.size ≤ B) : a.grownBy c none :=
  ⟨k.os.trans h.os, k.tape.trans h.tape, k.output.trans h.output, Nat.le_trans h.size k.size, fun i hi _ => by
    refine (k.block i (Nat.lt_of_lt_of_le hi h.size) ?_).trans (h.block i hi (by simp))
    rintro (h2 | ⟨h2, -⟩) <;> omega⟩
theorem box_set {w : World} {R j : Nat} {v : Value} {vs : List Value} (h : w.heap[R]? = some (.cells vs.toArray 60 (0, 0))) : (w.setCell ⟨R, j, none⟩ v).heap[R]? = some (.cells (vs.set j v).toArray 60 (0, 0)) := set_blkL j v h
theorem owns_set {w : World} {R j B e n : Nat} {u v : Value} {xs : List Value} (h : w.ownsRow B e 2 v n xs) (hR : R < B) : (w.setCell ⟨R, j, none⟩ u).ownsRow B e 2 v n xs := by
  obtain ⟨hl, h1 | ⟨g', cap, cur, h1, hb, hg', h2⟩⟩ := h
  · exact ⟨hl, .inl h1⟩
  · exact ⟨hl, .inr ⟨g', cap, cur, h1, hb, (heap_setCell_other w ⟨R, j, none⟩ g' u (by show g' ≠ R; omega)).trans hg', h2⟩⟩
/-- the box alone is turned -/
theorem LogIn.startAt {w w' : World} {R B : Nat} {tl : List Value} {L : Lg} (h : LogIn w R B tl L) (b t : Nat) (hb : b ≤ 1000000) (ht : t ≤ 1000000000)
    (hbox : w'.heap[R]? = some (.cells (Value.int .i64 (b : Int) :: .int .i64 (t : Int) :: .slice none 0 0 :: L.sv :: tl).toArray 60 (0, 0))) (hoth : ∀ k, k ≠ R → w'.heap[k]? = w.heap[k]?) : LogIn w' R B tl ⟨b, t, [], .slice none 0 0, L.S, L.sv⟩ := by
  refine ⟨hbox, World.ownsRow_nil _ _ _ _, by simp, by simp, ?_, h.low, ⟨by simpa using hb, ht, h.sm.2.2.1, by simp⟩⟩; obtain ⟨hl, h1 | ⟨g', cap, cur, h1, hb, hg', h2⟩⟩ := h.seg
  · exact ⟨hl, .inl h1⟩
  · exact ⟨hl, .inr ⟨g', cap, cur, h1, hb, (hoth g' (by have := h.low; omega)).trans hg', h2⟩⟩
set_option maxRecDepth 4000 in
set_option maxHeartbeats 1000000 in
theorem startAt_any (b t R B : Nat) (tl : List Value) (L : Lg) (w : World) (h : LogIn w R B tl L) (hb : b ≤ 1000000) (ht : t ≤ 1000000000) :
    Calls Tryz.prog 70 #[.pointer (some ⟨R, 0, none⟩), .int .i64 (b : Int), .int .i64 (t : Int)] w fun e w' => (∃ v, e = .returned v) ∧ LogIn w' R B tl ⟨b, t, [], .slice none 0 0, L.S, L.sv⟩ ∧ w.grownBy w' (some R) := by
  have H : Hid (LogIn w R B tl L) := h; obtain ⟨c0, c1, c2, -, cf, -⟩ := h.cells; have f0 := cf 0; have f1 := cf 1; have f2 := cf 2; clear h cf
  go_enter Tryz.func70, Tryz.ntmps70
  go_wp2; refine bodyPost_end (results_none rfl _ _ _) rfl ⟨⟨_, rfl⟩, H.out.startAt b t hb ht ?_ ?_, grownBy_setCell (grownBy_setCell (grownBy_setCell (grownBy_refl w _)))⟩
  · exact box_set (box_set (box_set H.out.box))
  · intro k hk; rw [heap_setCell_other _ ⟨R, 2, none⟩ k _ hk, heap_setCell_other _ ⟨R, 1, none⟩ k _ hk, heap_setCell_other _ ⟨R, 0, none⟩ k _ hk]
theorem owns_grown0 {w w' : World} {B e n : Nat} {v : Value} {xs : List Value} (h : w.ownsRow B e 2 v n xs) (hg : w.grownBy w' none) : w'.ownsRow B e 2 v n xs := by
  obtain ⟨hl, h1 | ⟨g', cap, cur, h1, hb, hg', h2⟩⟩ := h
  · exact ⟨hl, .inl h1⟩
  · exact ⟨hl, .inr ⟨g', cap, cur, h1, hb, grown_blk hg hg', h2⟩⟩
theorem LogIn.grown0 {w w' : World} {R B : Nat} {tl : List Value} {L : Lg} (h : LogIn w R B tl L) (hg : w.grownBy w' none) : LogIn w' R B tl L :=
  ⟨grown_blk hg h.box, owns_grown0 h.ent hg, fun e he => ⟨(h.own e he).1, (h.own e he).2.1.grown hg (by simp), (h.own e he).2.2⟩, h.apart, owns_grown0 h.seg hg, h.low, h.sm⟩
set_option maxRecDepth 4000 in
set_option maxHeartbeats 1000000 in
theorem reset_any (n0 n1 n2 : Nat) (dv : Value) (R B : Nat) (tl : List Value) (L : Lg) (w : World) (h : LogIn w R B tl L) (hb : n0 ≤ 1000000) (ht : n1 ≤ 1000000000) :
    Calls Tryz.prog 57 #[.pointer (some ⟨R, 0, none⟩), .agg #[.int .i64 (n0 : Int), .int .i64 (n1 : Int), .int .i64 (n2 : Int)], dv] w fun e w' => e = .returned (.bool true) ∧ LogIn w' R B tl ⟨n0, n1, [], .slice none 0 0, L.S, L.sv⟩ ∧ w.grownBy w' (some R) := by
  have H1 : Hid (∀ w', w.grownBy w' none → Calls _ _ _ w' _) := fun w' hg => startAt_any n0 n1 R B tl L w' (h.grown0 hg) hb ht
  clear h
  go_enter Tryz.func57, Tryz.ntmps57
  go_wp2_with fail; refine (H1.out _ (World.grownBy_alloc w _ _)).mono ?_; rintro e w1 ⟨⟨v, rfl⟩, h1, h2⟩; have H2 : Hid (_ ∧ _) := And.intro h1 (grownBy_trans (World.grownBy_alloc w _ _) h2); clear h1 h2; go_wp2; go_ret; exact ⟨rfl, H2.out⟩
set_option maxRecDepth 4000 in
set_option maxHeartbeats 1000000 in
theorem reject_any (n0 n1 n2 : Nat) (dv : Value) (R : Nat) (w : World) :
    Calls Tryz.prog 56 #[.pointer (some ⟨R, 0, none⟩), .agg #[.int .i64 (n0 : Int), .int .i64 (n1 : Int), .int .i64 (n2 : Int)], dv] w fun e w' => e = .returned (.bool false) ∧ w.grownBy w' none := by
  go_enter Tryz.func56, Tryz.ntmps56
  go_wp2; go_ret; exact ⟨rfl, World.grownBy_alloc w _ _⟩
/-- The sum's table lies in its variable. -/
def Tab (w : World) : Prop := ∀ r, r < 16 → w.cell? ⟨13, r, none⟩ = some (.int .u32 ((Crc.step4 r : Nat) : Int))
theorem and15 (y : Nat) (hy : y < 4294967296) : bits .and .u32 (y : Int) 15 = ((y % 16 : Nat) : Int) := by
  have := u32_and_nat y 15 hy (by decide); rw [show ((15 : Nat) : Int) = 15 from rfl] at this; rw [this, Nat.and_two_pow_sub_one_eq_mod y 4]
theorem nib (y : Nat) (hy : y < 4294967296) : bits .xor .u32 ((y : Int) / 16) ((Crc.step4 (y % 16) : Nat) : Int) = ((Crc.step4 y : Nat) : Int) := by
  rw [show ((y : Int) / 16) = ((y / 16 : Nat) : Int) by omega, u32_xor_nat (y / 16) _ (by omega) (Crc.step4_lt _ (by omega)), ← Crc.step4_split]

set_option maxHeartbeats 400000 in
theorem sumOver_any (s : Nat) (hs : s < 4294967296) (oa : Option Addr) (len cap : Nat) (zs : List Nat) (w : World) (hsl : SlB w oa len zs) (ht : Tab w) (hm : len ≤ 1073741824) :
    Calls Tryz.prog 88 #[.int .u32 s, .slice oa len cap] w fun e w' => e = .returned (.int .u32 ((Crc.crcL s zs : Nat) : Int)) ∧ w' = w := by
  obtain ⟨hl, hb, hc⟩ := hsl; have HT : Hid (Tab w) := ht; have HB : Hid (∀ z ∈ zs, z < 256) := hb; clear ht hb
  go_enter Tryz.func88, Tryz.ntmps88
  go_wp2
  go_loop [0, 9] (fun v i => ∃ k : Nat, k ≤ len ∧ i = .int .i64 k ∧ v = .int .u32 ((Crc.crcL s (zs.take k) : Nat) : Int)) (fun _ i => len - (intOf i).toNat)
  case atStart => exact ⟨0, Nat.zero_le _, rfl, rfl⟩
  case round =>
    obtain ⟨k, hk, rfl, rfl⟩ := hrel
    by_cases hlt : k < len
    · obtain ⟨b, off, rfl, hcc⟩ := hc (by omega); have hck := hcc k hlt; obtain ⟨c, hce⟩ : ∃ c, c = zs.getD k 0 := ⟨_, rfl⟩
      have hc256 : c < 256 := by rw [hce]; exact HB.out _ (Crc.getD_mem _ _ (by omega))
      rw [← hce] at hck; obtain ⟨x, hxe⟩ : ∃ x, x = Crc.crcL s (zs.take k) := ⟨_, rfl⟩
      have hx : x < 4294967296 := by rw [hxe]; exact Crc.crcL_lt _ (Crc.lt_take _ _ HB.out) _ hs
      have HN : Hid (Crc.crcL s (zs.take (k + 1)) = Crc.step4 (Crc.step4 (x ^^^ c))) := by
        show _ = _
        rw [Crc.take_snoc zs k (by omega), Crc.crcL_snoc, ← hxe, ← hce]; rfl
      rw [← hxe]; clear hce hcc hc hxe
      have e1 : ((c : Int) % 4294967296) = c := by omega
      have e2 : bits .xor .u32 (x : Int) (c : Int) = ((x ^^^ c : Nat) : Int) := u32_xor_nat x c hx (by omega); have hy : x ^^^ c < 4294967296 := Nat.xor_lt_two_pow (n := 32) hx (by omega); obtain ⟨y, hye⟩ : ∃ y, y = x ^^^ c := ⟨_, rfl⟩; rw [← hye] at e2 hy HN; clear hye; have e3 := and15 y hy; have e4 := nib y hy; have c1 := HT.out (y % 16) (by omega); have hz := Crc.step4_lt y hy; obtain ⟨z, hze⟩ : ∃ z, z = Crc.step4 y := ⟨_, rfl⟩; rw [← hze] at e4 hz HN; clear hze; have e5 := and15 z hz; have e6 := nib z hz; have c2 := HT.out (z % 16) (by omega); go_wp2
      go_round
      case rel => exact ⟨k + 1, by omega, by go_num, by rw [HN.out]⟩
      case measure => simp [intOf]; omega
    · go_wp2; go_ret; exact ⟨ret_int (by rw [List.take_of_length_le (by omega)]), rfl⟩
theorem not32 (s : Nat) (hs : s < 4294967296) : bits .xor .u32 (s : Int) 4294967295 = ((4294967295 - s : Nat) : Int) := by
  rw [show (4294967295 : Int) = ((4294967295 : Nat) : Int) from rfl, u32_xor_nat s _ hs (by decide)]
  have h : s ^^^ 4294967295 = 4294967295 - s := by
    apply Nat.eq_of_testBit_eq
    intro i; rw [Nat.testBit_xor, show 4294967295 - s = 2 ^ 32 - (s + 1) by omega, Nat.testBit_two_pow_sub_succ (by omega), show 4294967295 = 2 ^ 32 - 1 by omega, Nat.testBit_two_pow_sub_one]
    by_cases hi : i < 32
    · simp [hi]
    · have : s.testBit i = false := Nat.testBit_lt_two_pow (Nat.lt_of_lt_of_le (show s < 2 ^ 32 by omega) (Nat.pow_le_pow_right (by decide) (by omega)))
      simp [hi, this]
  rw [h]

theorem not32' (s : Nat) (hs : s < 4294967296) : bits .xor .u32 4294967295 (s : Int) = ((4294967295 - s : Nat) : Int) := by
  rw [← not32 s hs, show (4294967295 : Int) = ((4294967295 : Nat) : Int) from rfl, u32_xor_nat s _ hs (by decide), u32_xor_nat _ s (by decide) hs, Nat.xor_comm]
def pad (n : Nat) : Nat := (4 - n % 4) % 4

set_option maxHeartbeats 400000 in
theorem padding_any (n : Nat) (w : World) (hn : n ≤ 1073741824) :
    Calls Tryz.prog 77 #[.int .i64 (n : Int)] w fun e w' => e = .returned (.int .i64 ((pad n : Nat) : Int)) ∧ w' = w := by
  have HP : Hid (((pad n : Nat) : Int) = (4 - (n : Int) % 4) % 4) := by show _ = _; unfold pad; omega
  go_enter Tryz.func77, Tryz.ntmps77
  go_wp2; go_ret; exact ⟨ret_int (by rw [HP.out]), rfl⟩

end Go.Proofs.YtjnegjgpkboocaaGreatDoor
