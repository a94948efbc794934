/-
  The program's Apply.
-/
import Derived.Test.YtdajcpcajdhplaaDoorAp5
import Derived.Test.YtdajcpcajdhplaaDoorClone2
namespace Go.Proofs.YtdajcpcajdhplaaDoor
open Go.RowKit

set_option maxRecDepth 4000 in
set_option maxHeartbeats 2000000 in
theorem implApply_no (s : Sv) (v : Value) (w : World) (h : SvFull w s) (hs : SvSmall s) (hno : ¬ ValidV s.b s.K s.S) :
    Calls Tryd.prog 13 #[.agg #[.int .i64 s.b, .slice s.ko s.K.length s.kc, .slice s.so s.S.length s.sc], v] w fun e w' => e = .returned (.tuple #[.agg #[.int .i64 0, .slice none 0 0, .slice none 0 0], .int .i64 0, .int .i64 5]) ∧ w.grownBy w' none := by
  have HV : Hid (∀ X : World, w.grownBy X none → Calls Tryd.prog 33 #[.agg #[.int .i64 s.b, .slice s.ko s.K.length s.kc, .slice s.so s.S.length s.sc]] X fun e w' => e = .returned (.bool false) ∧ X.grownBy w' none) := fun X hX => by
    refine (svalidE_any s.b s.ko s.kc s.K s.so s.sc s.S X (h.at_.kk.grown0 hX) (h.at_.ss.grown0 hX) hs.1 hs.2.1 hs.2.2.1 hs.2.2.2).mono ?_
    rintro e w' ⟨r, rfl, hr, hG⟩
    cases r with
    | true => exact absurd (hr.1 rfl) hno
    | false => exact ⟨rfl, hG⟩
  clear h hs hno
  obtain ⟨b, ko, kc, K, so, sc, S⟩ := s
  simp only at HV ⊢
  generalize K.length = kn at *
  generalize S.length = sn at *
  go_enter Tryd.func13, Tryd.ntmps13
  go_wp2_with fail
  refine (HV.out _ (grownBy_alloc (World.grownBy_alloc _ _ _) _)).mono ?_
  rintro e w1 ⟨rfl, hG1⟩
  have hb := (hG1.block (w.heap.size + 1) (by simp) (by simp)).trans (heap_two w _ _)
  have r0 : w1.cell? ⟨w.heap.size + 1, 0, none⟩ = some (.int .i64 0) := by simp [World.cell?, hb]
  have r1 : w1.cell? ⟨w.heap.size + 1, 1, none⟩ = some (.slice none 0 0) := by simp [World.cell?, hb]
  have r2 : w1.cell? ⟨w.heap.size + 1, 2, none⟩ = some (.slice none 0 0) := by simp [World.cell?, hb]
  have y0 : w1.frozen? ⟨w.heap.size + 1, 0, none⟩ = false := by simp [World.frozen?, hb]
  have y1 : w1.frozen? ⟨w.heap.size + 1, 1, none⟩ = false := by simp [World.frozen?, hb]
  have y2 : w1.frozen? ⟨w.heap.size + 1, 2, none⟩ = false := by simp [World.frozen?, hb]
  have HG : Hid (w.grownBy w1 none) := grownBy_trans (grownBy_alloc (World.grownBy_alloc _ _ _) _) hG1
  clear hb hG1
  go_wp2
  refine bodyPost_ret (v := .tuple #[.agg #[.int .i64 0, .slice none 0 0, .slice none 0 0], .int .i64 0, .int .i64 5]) (by simp [results, Tryd.results13, go_sem, r0, r1, r2]) rfl ⟨rfl, ?_⟩
  exact grownBy_setNew (grownBy_setNew (grownBy_setNew HG.out (by simp)) (by simp)) (by simp)
theorem risesE_tell (S : List El) : ∀ (S0 : List El) (b : Int), S.map El.tell = S0.map El.tell → risesE b S0 → risesE b S := by
  induction S with
  | nil => intro S0 b h _; exact trivial
  | cons x S ih =>
    intro S0 b h hr
    cases S0 with
    | nil => simp at h
    | cons y S0 =>
      simp only [List.map_cons, List.cons.injEq] at h
      have hc : x.c = y.c := by have := congrArg Prod.fst h.1; simp only [El.tell] at this; simp only [El.c, this]
      exact ⟨by rw [hc]; exact hr.1, by rw [hc]; exact ih S0 _ h.2 hr.2⟩
set_option maxRecDepth 4000 in
set_option maxHeartbeats 4000000 in
theorem implApply_ok (s : Sv) (oa : Option Addr) (len cap : Nat) (zs : List Nat) (ad : Nat → Addr) (w : World) (hE : ErrsAt w ad) (hsl : SlB w oa len zs) (hcp : len ≤ cap) (hm : len ≤ 1073741824) (h : SvFull w s) (hs : SvSmall s) (hv : ValidV s.b s.K s.S) :
    Calls Tryd.prog 13 #[.agg #[.int .i64 s.b, .slice s.ko s.K.length s.kc, .slice s.so s.S.length s.sc], .slice oa len cap] w fun e w' => ∃ (q r : Sv) (pl c : Int), e = .returned (.tuple #[r.val, .int .i64 pl, .int .i64 c]) ∧ q.tell = s.tell ∧ r.b = s.b ∧ ApSays s.b q.K q.S zs pl c (r.K.map El.tell) (r.S.map El.tell) ∧ SvAt w' r ∧ (∀ k, SvB r k → w.heap.size ≤ k) ∧ w.grownBy w' none := by
  have HV : Hid (∀ X : World, w.grownBy X none → Calls Tryd.prog 33 #[.agg #[.int .i64 s.b, .slice s.ko s.K.length s.kc, .slice s.so s.S.length s.sc]] X fun e w' => e = .returned (.bool true) ∧ X.grownBy w' none) := fun X hX => by
    refine (svalidE_any s.b s.ko s.kc s.K s.so s.sc s.S X (h.at_.kk.grown0 hX) (h.at_.ss.grown0 hX) hs.1 hs.2.1 hs.2.2.1 hs.2.2.2).mono ?_
    rintro e w' ⟨r, rfl, hr, hG⟩
    cases r with
    | true => exact ⟨rfl, hG⟩
    | false => exact absurd (hr.2 hv) (by simp)
  have HC : Hid (∀ X : World, w.grownBy X none → Calls Tryd.prog 34 #[.agg #[.int .i64 s.b, .slice s.ko s.K.length s.kc, .slice s.so s.S.length s.sc]] X fun e w' => ∃ (gk gs kn sn : Nat) (K S : List El), e = .returned (.agg #[.int .i64 s.b, .slice (some ⟨gk, 0, none⟩) kn kn, .slice (some ⟨gs, 0, none⟩) sn sn]) ∧ Hid (K.length = kn ∧ S.length = sn ∧ K.map El.tell = s.K.map El.tell ∧ S.map El.tell = s.S.map El.tell ∧ ElAt w' 32 2 gk K ∧ ElAt w' 74 3 gs S ∧ (∀ x ∈ K, ∀ y ∈ S, ∀ j, x.o = some j → y.o ≠ some j) ∧ (∀ j, (ElB (some ⟨gk, 0, none⟩) K j ∨ ElB (some ⟨gs, 0, none⟩) S j) → X.heap.size ≤ j)) ∧ X.grownBy w' none) := fun X hX => by
    refine (svClone_any s X (h.grown0 hX) hs).mono ?_
    rintro e w' ⟨⟨b', ko', kc', K', so', sc', S'⟩, rfl, ht, hF, hk1, hk2, hB, hG⟩
    obtain ⟨gk, hgk⟩ := hF.kb
    obtain ⟨gs, hgs⟩ := hF.sb
    simp only [Sv.tell, Prod.mk.injEq] at ht hgk hgs hk1 hk2
    subst hgk hgs
    obtain ⟨rfl, htk, hts⟩ := ht
    exact ⟨gk, gs, K'.length, S'.length, K', S', by simp [hk1, hk2], ⟨rfl, rfl, htk, hts, hF.at_.kk.here, hF.at_.ss.here, hF.at_.far, fun j hj => hB j hj⟩, hG⟩
  have HE : Hid (ErrsAt w ad ∧ SlB w oa len zs) := ⟨hE, hsl⟩
  have HS : Hid (SvSmall s ∧ ValidV s.b s.K s.S) := ⟨hs, hv⟩
  clear h hs hv hE hsl
  obtain ⟨b, ko, kc, K0, so, sc, S0⟩ := s
  simp only at HV HC HS ⊢
  obtain ⟨kn0, hkn0⟩ : ∃ n, K0.length = n := ⟨_, rfl⟩
  obtain ⟨sn0, hsn0⟩ : ∃ n, S0.length = n := ⟨_, rfl⟩
  have HN0 : Hid (K0.length = kn0 ∧ S0.length = sn0) := ⟨hkn0, hsn0⟩
  rw [hkn0, hsn0] at HV HC ⊢
  clear hkn0 hsn0
  go_enter Tryd.func13, Tryd.ntmps13
  go_wp2_with fail
  refine (HV.out _ (grownBy_alloc (World.grownBy_alloc _ _ _) _)).mono ?_
  rintro e w1 ⟨rfl, hG1⟩
  have hb0 := (hG1.block w.heap.size (by simp; omega) (by simp)).trans ((Below.heap_alloc _ _ _ (by simp)).trans (heap_alloc_new w _))
  have hb1 := (hG1.block (w.heap.size + 1) (by simp) (by simp)).trans (heap_two w _ _)
  have a0 : w1.cell? ⟨w.heap.size, 0, none⟩ = some (.int .i64 b) := by simp [World.cell?, hb0]
  have a1 : w1.cell? ⟨w.heap.size, 1, none⟩ = some (.slice ko kn0 kc) := by simp [World.cell?, hb0]
  have a2 : w1.cell? ⟨w.heap.size, 2, none⟩ = some (.slice so sn0 sc) := by simp [World.cell?, hb0]
  have HG1 : Hid (w.grownBy w1 none ∧ w1.heap[w.heap.size + 1]? = some (.cells #[.int .i64 0, .slice none 0 0, .slice none 0 0] 28 (0, 0))) := ⟨grownBy_trans (grownBy_alloc (World.grownBy_alloc _ _ _) _) hG1, hb1⟩
  clear hb0 hb1 hG1 HV
  go_wp2_with fail
  refine (HC.out _ HG1.out.1).mono ?_
  rintro e w2 ⟨gk, gs, kn, sn, K, S, rfl, HF, hG2⟩
  have HG2 : Hid (w1.grownBy w2 none) := hG2
  clear hG2 HC a0 a1 a2
  go_wp2_with fail
  have HAP : Hid (Calls Tryd.prog 35 #[.pointer (some ⟨w2.heap.size, 0, none⟩), .slice oa len cap] (w2.alloc (.cells #[.int .i64 b, .slice (some ⟨gk, 0, none⟩) kn kn, .slice (some ⟨gs, 0, none⟩) sn sn] 28)) fun e w3 => ∃ (pl c : Int) (er : Value) (gk' kc' gs' sc' kn' sn' : Nat) (K' S' : List El), e = .returned (.tuple #[.int .i64 pl, er]) ∧ (w3.cell? ⟨w2.heap.size, 0, none⟩ = some (.int .i64 b) ∧ w3.cell? ⟨w2.heap.size, 1, none⟩ = some (.slice (some ⟨gk', 0, none⟩) kn' kc') ∧ w3.cell? ⟨w2.heap.size, 2, none⟩ = some (.slice (some ⟨gs', 0, none⟩) sn' sc')) ∧
      Hid (ErrSays ad er c ∧ ErrsAt w3 ad ∧ K'.length = kn' ∧ S'.length = sn' ∧ ApSays b K S zs pl c (K'.map El.tell) (S'.map El.tell) ∧ ElAt w3 32 2 gk' K' ∧ ElAt w3 74 3 gs' S' ∧ (∀ x ∈ K', ∀ y ∈ S', ∀ j, x.o = some j → y.o ≠ some j) ∧ (∀ j, (ElB (some ⟨gk', 0, none⟩) K' j ∨ ElB (some ⟨gs', 0, none⟩) S' j) → w.heap.size + 2 ≤ j) ∧ w.grownBy w3 none ∧ w2.heap.size < w3.heap.size ∧ w3.heap[w.heap.size + 1]? = some (.cells #[.int .i64 0, .slice none 0 0, .slice none 0 0] 28 (0, 0)))) := by
    obtain ⟨hl1, hl2, ht1, ht2, hK, hS, hfar, hB⟩ := HF.out
    have hz1 : w.heap.size + 2 ≤ w1.heap.size := by have := (Array.getElem?_eq_some_iff.1 HG1.out.2).1; omega
    have GA : w2.grownBy (w2.alloc (.cells #[.int .i64 b, .slice (some ⟨gk, 0, none⟩) kn kn, .slice (some ⟨gs, 0, none⟩) sn sn] 28)) none := World.grownBy_alloc _ _ _
    have GW := grownBy_trans (grownBy_trans HG1.out.1 HG2.out) GA
    have hkl : K.length ≤ 1048576 := by have h1 := congrArg List.length ht1; simp at h1; have := HS.out.1.1; simp at this; omega
    have hsl' : S.length ≤ 1048576 := by have h1 := congrArg List.length ht2; simp at h1; have := HS.out.1.2.1; simp at this; omega
    have hrs : risesE 0 S := risesE_tell S S0 0 ht2 HS.out.2.2.2.2.2.2
    refine (apply_any w2.heap.size gk gs b K S oa len cap zs ad _ (HE.out.1.grown GW) (HE.out.2.grown0 GW) hcp hm (by rw [hl1, hl2]; exact heap_alloc_new w2 _) (hK.kept (fun j hj _ => GA.block j hj (by simp))) (hS.kept (fun j hj _ => GA.block j hj (by simp))) hfar hrs hsl' hkl (by have h1 := HS.out.2.1; have h2 := HS.out.2.2.1; omega)).mono ?_
    rintro e w3 ⟨pl, c, er, gk', kc', gs', sc', K', S', rfl, h1, h2, h3, h4, h5, h6, h7, h8⟩
    have hgs : w1.heap.size ≤ gs := hB gs (.inr (.inl rfl))
    have hz2 := HG2.out.size
    have hg3 : w.grownBy w3 none := h8.grown GW (fun k hk => by rcases hk with rfl | rfl <;> omega)
    refine ⟨pl, c, er, gk', kc', gs', sc', K'.length, S'.length, K', S', rfl, by simp [World.cell?, h3], h1, HE.out.1.grown hg3, rfl, rfl, h2, h4, h5, h6, fun j hj => ?_, hg3, (Array.getElem?_eq_some_iff.1 h3).1, ?_⟩
    · rcases h7 j hj with h | h
      · have := hB j h; omega
      · simp at h; omega
    · have e1 := h8.block (w.heap.size + 1) (by simp; omega) (by intro h; rcases h with h | h <;> omega)
      exact e1.trans ((grownBy_trans HG2.out GA).block _ (by omega) (by simp) |>.trans HG1.out.2)
  refine HAP.out.mono ?_
  rintro e w3 ⟨pl, c, er, gk', kc', gs', sc', kn', sn', K', S', rfl, hD, HR⟩
  have HB7 : Hid (w.heap.size + 1 < w2.heap.size) := by show _ < _; have h1 := (Array.getElem?_eq_some_iff.1 HG1.out.2).1; have h2 := HG2.out.size; omega
  have hne : w2.heap.size ≠ w.heap.size + 1 := by have := HB7.out; omega
  have HCO : Hid (∀ X : World, Same w3 X → Calls Tryd.prog 36 #[er] X fun e w4 => e = .returned (.int .i64 c) ∧ (w4.cell? ⟨w2.heap.size, 0, none⟩ = some (.int .i64 b) ∧ w4.cell? ⟨w2.heap.size, 1, none⟩ = some (.slice (some ⟨gk', 0, none⟩) kn' kc') ∧ w4.cell? ⟨w2.heap.size, 2, none⟩ = some (.slice (some ⟨gs', 0, none⟩) sn' sc')) ∧ (w4.cell? ⟨w.heap.size + 1, 0, none⟩ = some (.int .i64 0) ∧ w4.cell? ⟨w.heap.size + 1, 1, none⟩ = some (.slice none 0 0) ∧ w4.cell? ⟨w.heap.size + 1, 2, none⟩ = some (.slice none 0 0)) ∧ (w4.frozen? ⟨w.heap.size + 1, 0, none⟩ = false ∧ w4.frozen? ⟨w.heap.size + 1, 1, none⟩ = false ∧ w4.frozen? ⟨w.heap.size + 1, 2, none⟩ = false) ∧ Hid (w3.grownBy w4 none)) := by
    intro X hX
    have GX : w3.grownBy X none := grownBy_same (grownBy_refl _ _) hX
    refine (codeOf_says ad er c X (HR.out.2.1.grown GX) HR.out.1).mono ?_
    rintro e w4 ⟨rfl, hG⟩
    have G4 : w3.grownBy w4 none := grownBy_trans GX hG
    have hc : ∀ {a o v}, w3.cell? ⟨a, o, none⟩ = some v → w4.cell? ⟨a, o, none⟩ = some v := fun h => ((bcell G4).1 _ _ (cell_block_lt h)).trans h
    have hb := (G4.block _ (Array.getElem?_eq_some_iff.1 HR.out.2.2.2.2.2.2.2.2.2.2.2).1 (by simp)).trans HR.out.2.2.2.2.2.2.2.2.2.2.2
    exact ⟨rfl, ⟨hc hD.1, hc hD.2.1, hc hD.2.2⟩, by simp [World.cell?, hb], by simp [World.frozen?, hb], G4⟩
  obtain ⟨d0, d1, d2⟩ := hD
  clear HAP
  go_wp2_with fail
  go_region_held3 (fun W => W.cell? ⟨w2.heap.size, 0, none⟩ = some (.int .i64 b) ∧ W.cell? ⟨w2.heap.size, 1, none⟩ = some (.slice (some ⟨gk', 0, none⟩) kn' kc') ∧ W.cell? ⟨w2.heap.size, 2, none⟩ = some (.slice (some ⟨gs', 0, none⟩) sn' sc')) (first | go_keep | exact ⟨d0, d1, d2⟩ | exact hD4 | (simp only [cell_set_ne _ _ _ _ _ _ hne]; exact hD4) | fail)
    (first
      | (go_at_call 36; refine (HCO.out _ (by exact ⟨rfl, rfl, rfl, rfl⟩)).mono ?_; rintro e w4 ⟨rfl, hD4, ⟨r0, r1, r2⟩, ⟨y0, y1, y2⟩, HG4⟩)
      | fail)
  all_goals
    go_wp2
    refine bodyPost_ret (v := .tuple #[.agg #[.int .i64 b, .slice (some ⟨gk', 0, none⟩) kn' kc', .slice (some ⟨gs', 0, none⟩) sn' sc'], .int .i64 pl, .int .i64 c]) (by simp [results, Tryd.results13, go_sem, r0, r1, r2]) rfl ?_
    obtain ⟨-, -, hl1', hl2', hsay, hK', hS', hfar', hB', hg3, -, -⟩ := HR.out
    have hl1 := HF.out.2.2.1
    have hl2 := HF.out.2.2.2.1
    have hk : ∀ {t : TypeId} {m g : Nat} {L : List El} {X : World} (p : Addr) (v : Value), ElAt X t m g L → (∀ k, (k = g ∨ ∃ x ∈ L, x.o = some k) → k ≠ p.block) → ElAt (X.setCell p v) t m g L := fun p v h hk => h.kept (fun k _ hkk => heap_setCell_other _ _ _ _ (hk k hkk))
    have nK : ∀ k, (k = gk' ∨ ∃ x ∈ K', x.o = some k) → k ≠ w.heap.size + 1 := fun k hk => by
      have := hB' k (.inl (by rcases hk with rfl | hk; exact .inl rfl; exact .inr hk))
      omega
    have nS : ∀ k, (k = gs' ∨ ∃ x ∈ S', x.o = some k) → k ≠ w.heap.size + 1 := fun k hk => by
      have := hB' k (.inr (by rcases hk with rfl | hk; exact .inl rfl; exact .inr hk))
      omega
    refine ⟨⟨b, some ⟨gk, 0, none⟩, kn, K, some ⟨gs, 0, none⟩, sn, S⟩, ⟨b, some ⟨gk', 0, none⟩, kc', K', some ⟨gs', 0, none⟩, sc', S'⟩, pl, c, by simp [Sv.val, hl1', hl2'], by simp [Sv.tell, hl1, hl2], rfl, hsay, ⟨.inr ⟨gk', rfl, ?_⟩, .inr ⟨gs', rfl, ?_⟩, hfar'⟩, fun k hkk => by have := hB' k hkk; omega, ?_⟩
    · exact hk _ _ (hk _ _ (hk _ _ (hK'.kept (fun j hj _ => HG4.out.block j hj (by simp))) nK) nK) nK
    · exact hk _ _ (hk _ _ (hk _ _ (hS'.kept (fun j hj _ => HG4.out.block j hj (by simp))) nS) nS) nS
    · exact grownBy_setNew (grownBy_setNew (grownBy_setNew (grownBy_trans hg3 HG4.out) (by simp)) (by simp)) (by simp)
end Go.Proofs.YtdajcpcajdhplaaDoor
