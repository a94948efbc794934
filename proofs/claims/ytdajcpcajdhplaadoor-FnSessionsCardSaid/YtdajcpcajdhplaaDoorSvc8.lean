/-
  Clone2, Search
-/
import Derived.Test.YtdajcpcajdhplaaDoorSvc5
import Derived.Test.YtdajcpcajdhplaaDoorSvc7
import Derived.Deep.DeepCutAuto
import Derived.Deep.RegionHeld3
/-
  A service copied by the program: clone; the search for a client's session; an item that comes again.
-/
namespace Go.Proofs.YtdajcpcajdhplaaDoor
open Go.RowKit

/-- a service whose bytes are all there, in rows that end where they do -/
structure SvFull (w : World) (s : Sv) : Prop where
  at_ : SvAt w s
  ks : elSome s.K
  ss : elSome s.S
  kb : ∃ g, s.ko = some ⟨g, 0, none⟩
  sb : ∃ g, s.so = some ⟨g, 0, none⟩
theorem SvFull.grown0 {w w' : World} {s : Sv} (h : SvFull w s) (hg : w.grownBy w' none) : SvFull w' s := ⟨h.at_.grown0 hg, h.ks, h.ss, h.kb, h.sb⟩
theorem ElO.here {w : World} {t : TypeId} {m cap g : Nat} {L : List El} (h : ElO w t m (some ⟨g, 0, none⟩) cap L) : ElAt w t m g L := by
  rcases h with ⟨h0, _⟩ | ⟨g', h0, hA⟩
  · cases h0
  · obtain rfl : g = g' := by simpa using h0
    exact hA
set_option maxRecDepth 4000 in
set_option maxHeartbeats 2000000 in
theorem svClone_any (s : Sv) (w : World) (h : SvFull w s) (hs : SvSmall s) :
    Calls Tryd.prog 34 #[.agg #[.int .i64 s.b, .slice s.ko s.K.length s.kc, .slice s.so s.S.length s.sc]] w fun e w' => ∃ r : Sv, e = .returned (.agg #[.int .i64 r.b, .slice r.ko r.K.length r.kc, .slice r.so r.S.length r.sc]) ∧ r.tell = s.tell ∧ SvFull w' r ∧ r.kc = r.K.length ∧ r.sc = r.S.length ∧ (∀ k, SvB r k → w.heap.size ≤ k) ∧ w.grownBy w' none := by
  obtain ⟨b, ko, kc, K, so, sc, S⟩ := s; obtain ⟨hAt, hks, hss, ⟨gk, hgk⟩, ⟨gs, hgs⟩⟩ := h; simp only at hgk hgs hks hss; subst hgk; subst hgs; obtain ⟨W0, hW0⟩ : ∃ W0, W0 = (w.alloc (.cells #[.int .i64 b, .slice (some ⟨gk, 0, none⟩) K.length kc, .slice (some ⟨gs, 0, none⟩) S.length sc] 28)).alloc (.cells #[.int .i64 0, .slice none 0 0, .slice none 0 0] 28) := ⟨_, rfl⟩
  have B0 : W0.heap[w.heap.size]? = some (.cells #[.int .i64 b, .slice (some ⟨gk, 0, none⟩) K.length kc, .slice (some ⟨gs, 0, none⟩) S.length sc] 28 (0, 0)) := by
    rw [hW0]; exact ((World.grownBy_alloc _ _ none).block _ (by simp) (by simp)).trans (heap_alloc_new w _)
  have B1 : W0.heap[w.heap.size + 1]? = some (.cells #[.int .i64 0, .slice none 0 0, .slice none 0 0] 28 (0, 0)) := by rw [hW0]; exact heap_two w _ _
  have G0 : w.grownBy W0 none := by rw [hW0]; exact grownBy_alloc (World.grownBy_alloc _ _ _) _
  have z0 : W0.heap.size = w.heap.size + 2 := by rw [hW0]; simp
  have HKI : Hid (∀ X : World, Same W0 X → Calls Tryd.prog 56 #[.slice (some ⟨gk, 0, none⟩) K.length kc, .func (.func 31) #[] #[]] X fun e w1 => ∃ g1 M, e = .returned (.slice (some ⟨g1, 0, none⟩) K.length K.length) ∧ (w1.cell? ⟨w.heap.size, 0, none⟩ = some (.int .i64 b) ∧ w1.cell? ⟨w.heap.size, 1, none⟩ = some (.slice (some ⟨gk, 0, none⟩) K.length kc) ∧ w1.cell? ⟨w.heap.size, 2, none⟩ = some (.slice (some ⟨gs, 0, none⟩) S.length sc)) ∧
      Hid (∀ Y : World, Same w1 Y → Calls Tryd.prog 57 #[.slice (some ⟨gs, 0, none⟩) S.length sc, .func (.func 58) #[] #[]] Y fun e w2 => ∃ g2 M2, e = .returned (.slice (some ⟨g2, 0, none⟩) S.length S.length) ∧ (w2.cell? ⟨w.heap.size, 0, none⟩ = some (.int .i64 b) ∧ w2.cell? ⟨w.heap.size, 1, none⟩ = some (.slice (some ⟨gk, 0, none⟩) K.length kc) ∧ w2.cell? ⟨w.heap.size, 2, none⟩ = some (.slice (some ⟨gs, 0, none⟩) S.length sc)) ∧ (w2.cell? ⟨w.heap.size + 1, 0, none⟩ = some (.int .i64 0) ∧ w2.cell? ⟨w.heap.size + 1, 1, none⟩ = some (.slice none 0 0) ∧ w2.cell? ⟨w.heap.size + 1, 2, none⟩ = some (.slice none 0 0)) ∧ (w2.frozen? ⟨w.heap.size + 1, 0, none⟩ = false ∧ w2.frozen? ⟨w.heap.size + 1, 1, none⟩ = false ∧ w2.frozen? ⟨w.heap.size + 1, 2, none⟩ = false) ∧
        Hid (ElAt w2 32 2 g1 M ∧ ElAt w2 74 3 g2 M2 ∧ M.map El.tell = K.map El.tell ∧ M2.map El.tell = S.map El.tell ∧ elSome M ∧ elSome M2 ∧ w.heap.size + 2 ≤ g1 ∧ g1 < g2 ∧ (∀ y ∈ M, ∀ b, y.o = some b → g1 < b ∧ b < g2) ∧ (∀ y ∈ M2, ∀ b, y.o = some b → g2 < b) ∧ w.grownBy w2 none))) := by
    intro X hX; have GX : w.grownBy X none := grownBy_same G0 hX; have hAX := hAt.grown0 GX; refine (cloneItemS_any gk kc K X hAX.kk.here hks hs.1 hs.2.2.1).mono ?_; rintro e w1 ⟨M, rfl, hM, hMt, hMs, hMf, hG1⟩; have GG1 : W0.grownBy w1 none := grownBy_trans (grownBy_same (grownBy_refl W0 none) hX) hG1
    have zX : X.heap.size = w.heap.size + 2 := by rw [hX.1, z0]
    have hb1 : w1.heap[w.heap.size]? = _ := (GG1.block _ (by omega) (by simp)).trans B0; refine ⟨X.heap.size, M, rfl, by simp [World.cell?, hb1], fun Y hY => ?_⟩; have GY : w.grownBy Y none := grownBy_same (grownBy_trans GX hG1) hY; have hAY := hAt.grown0 GY; refine (cloneSessionS_any gs sc S Y hAY.ss.here hss hs.2.1 hs.2.2.2).mono ?_; rintro e w2 ⟨M2, rfl, hM2, hMt2, hMs2, hMf2, hG2⟩; have GG2 : W0.grownBy w2 none := grownBy_trans (grownBy_same GG1 hY) hG2; have hb2 : w2.heap[w.heap.size + 1]? = _ := (GG2.block _ (by omega) (by simp)).trans B1; have hb3 : w2.heap[w.heap.size]? = _ := (GG2.block _ (by omega) (by simp)).trans B0; have hlt1 := hM.lt
    have zY : Y.heap.size = w1.heap.size := by rw [hY.1]
    have hMY : ElAt Y 32 2 X.heap.size M := hM.kept (fun k _ _ => by rw [hY.1]); refine ⟨Y.heap.size, M2, rfl, by simp [World.cell?, hb3], by simp [World.cell?, hb2], by simp [World.frozen?, hb2], hMY.kept (fun k hk _ => hG2.block k hk (by simp)), hM2, hMt, hMt2, hMs, hMs2, by omega, by omega, fun y hy b' hb' => ⟨hMf y hy b' hb', ?_⟩, hMf2, grownBy_trans GY hG2⟩; obtain ⟨i, hi⟩ := List.getElem?_of_mem hy; have := (ownS_blk (hM.own i y hi).2.1 hb').lt
    omega
  have a0 : W0.cell? ⟨w.heap.size, 0, none⟩ = some (.int .i64 b) := by simp [World.cell?, B0]
  have a1 : W0.cell? ⟨w.heap.size, 1, none⟩ = some (.slice (some ⟨gk, 0, none⟩) K.length kc) := by simp [World.cell?, B0]
  have a2 : W0.cell? ⟨w.heap.size, 2, none⟩ = some (.slice (some ⟨gs, 0, none⟩) S.length sc) := by simp [World.cell?, B0]
  have HL : Hid (∀ M : List El, M.map El.tell = K.map El.tell → M.length = K.length) := fun M h => by have := congrArg List.length h; simpa using this
  have HL2 : Hid (∀ M : List El, M.map El.tell = S.map El.tell → M.length = S.length) := fun M h => by have := congrArg List.length h; simpa using this
  clear hAt hks hss hs B0 B1 z0; obtain ⟨kn, hkn⟩ : ∃ kn, K.length = kn := ⟨_, rfl⟩; obtain ⟨sn, hsn⟩ : ∃ sn, S.length = sn := ⟨_, rfl⟩; have HKN : Hid (K.length = kn ∧ S.length = sn) := ⟨hkn, hsn⟩; simp only [hkn, hsn] at *; clear hkn hsn
  go_enter Tryd.func34, Tryd.ntmps34
  go_wp2_with fail; rw [← hW0]; clear hW0
  go_region_held3 (fun w' => w'.cell? ⟨w.heap.size, 0, none⟩ = some (.int .i64 b) ∧ w'.cell? ⟨w.heap.size, 1, none⟩ = some (.slice (some ⟨gk, 0, none⟩) kn kc) ∧ w'.cell? ⟨w.heap.size, 2, none⟩ = some (.slice (some ⟨gs, 0, none⟩) sn sc)) (first | go_keep | exact hD1 | exact hD2 | (simp [hD2.1, hD2.2.1, hD2.2.2]; done) | fail)
    (first
      | (go_at_call 56; refine (HKI.out _ (by exact ⟨rfl, rfl, rfl, rfl⟩)).mono ?_; rintro e w1 ⟨g1, M, rfl, hD1, HKS⟩)
      | (go_at_call 57; refine (HKS.out _ (by exact ⟨rfl, rfl, rfl, rfl⟩)).mono ?_; rintro e w2 ⟨g2, M2, rfl, hD2, ⟨r0, r1, r2⟩, ⟨y0, y1, y2⟩, HR⟩)
      | fail)
  all_goals
    go_wp2; have lM := HL.out M HR.out.2.2.1; have lM2 := HL2.out M2 HR.out.2.2.2.1; refine bodyPost_ret (v := .agg #[.int .i64 b, .slice (some ⟨g1, 0, none⟩) kn kn, .slice (some ⟨g2, 0, none⟩) sn sn]) (by simp [results, Tryd.results34, go_sem, r0, r1, r2]) rfl ⟨⟨b, some ⟨g1, 0, none⟩, kn, M, some ⟨g2, 0, none⟩, sn, M2⟩, by simp [lM, lM2], by simp [Sv.tell, HR.out.2.2.1, HR.out.2.2.2.1], ?_, lM.symm, lM2.symm, fun k hk => ?_, ?_⟩
    · obtain ⟨hM, hM2, -, -, hs1, hs2, hg1, hg12, hf1, hf2, -⟩ := HR.out
      have ho : ∀ {t : TypeId} {m g : Nat} {L : List El} {X : World} (p : Addr) (v : Value), ElAt X t m g L → (∀ k, (k = g ∨ ∃ x ∈ L, x.o = some k) → k ≠ p.block) → ElAt (X.setCell p v) t m g L := fun p v h hk => h.kept (fun k _ hkk => heap_setCell_other _ _ _ _ (hk k hkk))
      have hK : ∀ k, (k = g1 ∨ ∃ x ∈ M, x.o = some k) → w.heap.size + 1 < k := by
        rintro k (rfl | ⟨x, hx, hxo⟩)
        · omega
        · have := (hf1 x hx k hxo).1; omega
      have hS : ∀ k, (k = g2 ∨ ∃ x ∈ M2, x.o = some k) → w.heap.size + 1 < k := by
        rintro k (rfl | ⟨x, hx, hxo⟩)
        · omega
        · have := hf2 x hx k hxo; omega
      refine ⟨⟨.inr ⟨g1, rfl, ?_⟩, .inr ⟨g2, rfl, ?_⟩, fun x hx y hy j hxj hyj => ?_⟩, hs1, hs2, ⟨g1, rfl⟩, ⟨g2, rfl⟩⟩
      · exact ho _ _ (ho _ _ (ho _ _ hM (fun k hk => by have := hK k hk; show k ≠ w.heap.size + 1; omega)) (fun k hk => by have := hK k hk; show k ≠ w.heap.size + 1; omega)) (fun k hk => by have := hK k hk; show k ≠ w.heap.size + 1; omega)
      · exact ho _ _ (ho _ _ (ho _ _ hM2 (fun k hk => by have := hS k hk; show k ≠ w.heap.size + 1; omega)) (fun k hk => by have := hS k hk; show k ≠ w.heap.size + 1; omega)) (fun k hk => by have := hS k hk; show k ≠ w.heap.size + 1; omega)
      · have h1 := (hf1 x hx j hxj).2; have h2 := hf2 y hy j hyj
        omega
    · obtain ⟨-, -, -, -, -, -, hg1, hg12, hf1, hf2, -⟩ := HR.out
      rcases hk with (h | ⟨x, hx, ho⟩) | (h | ⟨x, hx, ho⟩)
      · have : g1 = k := by simpa using h
        omega
      · have := (hf1 x hx k ho).1; omega
      · have : g2 = k := by simpa using h
        omega
      · have := hf2 x hx k ho; omega
    · exact grownBy_setNew (grownBy_setNew (grownBy_setNew HR.out.2.2.2.2.2.2.2.2.2.2 (by simp)) (by simp)) (by simp)
set_option maxHeartbeats 400000 in
theorem sesClient_any (c q i : Int) (oa : Option Addr) (n cp : Nat) (w : World) :
    Calls Tryd.prog 60 #[.agg #[.int .i64 c, .int .i64 q, .int .i64 i, .slice oa n cp]] w fun e w' => e = .returned (.int .i64 c) ∧ w.grownBy w' none := by
  go_enter Tryd.func60, Tryd.ntmps60
  go_wp2; go_ret; refine ⟨rfl, ?_⟩
  repeat (first | exact grownBy_refl _ _ | apply grownBy_alloc)
theorem risesE_lt (S : List El) : ∀ b, risesE b S → ∀ (i : Nat) (x : El), S[i]? = some x → b < x.c := by
  induction S with
  | nil => intro b _ i x h; simp at h
  | cons y S ih =>
    intro b h i x hx; obtain ⟨h1, h2⟩ := h
    cases i with
    | zero => simp at hx; subst hx; exact h1
    | succ i =>
      have := ih y.c h2 i x (by simpa using hx)
      omega
theorem risesE_mono (S : List El) : ∀ b, risesE b S → ∀ (i j : Nat) (x y : El), i < j → S[i]? = some x → S[j]? = some y → x.c < y.c := by
  induction S with
  | nil => intro b _ i j x y _ h; simp at h
  | cons z S ih =>
    intro b h i j x y hij hx hy; obtain ⟨h1, h2⟩ := h
    cases j with
    | zero => omega
    | succ j =>
      cases i with
      | zero =>
        simp at hx; subst hx
        exact risesE_lt S z.c h2 j y (by simpa using hy)
      | succ i => exact ih z.c h2 i j x y (by omega) (by simpa using hx) (by simpa using hy)
/-- where a client's session is, or would be -/
structure Spot (S : List El) (key : Int) (k : Nat) : Prop where
  le : k ≤ S.length
  lo : ∀ (i : Nat) (x : El), i < k → S[i]? = some x → x.c < key
  hi : ∀ (i : Nat) (x : El), k ≤ i → S[i]? = some x → key ≤ x.c
def knownAt (S : List El) (key : Int) (k : Nat) : Bool := match S[k]? with
  | some x => decide (x.c = key)
  | none => false
set_option maxRecDepth 4000 in
set_option maxHeartbeats 2000000 in
theorem search_any (g cap : Nat) (S : List El) (key : Int) (w : World) (h : ElAt w 74 3 g S) (hr : risesE 0 S) (hn : S.length ≤ 1048576) :
    Calls Tryd.prog 59 #[.slice (some ⟨g, 0, none⟩) S.length cap, .int .i64 key, .func (.func 60) #[] #[]] w fun e w' => ∃ k, e = .returned (.tuple #[.int .i64 ((k : Nat) : Int), .bool (knownAt S key k)]) ∧ Spot S key k ∧ w.grownBy w' none := by
  have HA : Hid (ElAt w 74 3 g S ∧ risesE 0 S) := ⟨h, hr⟩; clear h hr; obtain ⟨n, hnn⟩ : ∃ n, S.length = n := ⟨_, rfl⟩; have HN : Hid (S.length = n) := hnn; rw [hnn] at hn ⊢; clear hnn
  go_enter Tryd.func59, Tryd.ntmps59
  go_wp2
  go_loopw [8, 9] (fun a b wr => ∃ lo hi : Nat, lo ≤ hi ∧ hi ≤ n ∧ a = .int .i64 (lo : Int) ∧ b = .int .i64 (hi : Int) ∧ (∀ (i : Nat) (x : El), i < lo → S[i]? = some x → x.c < key) ∧ (∀ (i : Nat) (x : El), hi ≤ i → S[i]? = some x → key ≤ x.c) ∧ w.grownBy wr none) (fun a b _ => (intOf b).toNat - (intOf a).toNat)
  case atStart => exact ⟨0, n, Nat.zero_le _, Nat.le_refl _, rfl, rfl, fun i x hi => absurd hi (by omega), fun i x hi hx => by have h1 := (List.getElem?_eq_some_iff.1 hx).1; have h2 := HN.out; omega, grownBy_refl _ _⟩
  case round =>
    obtain ⟨lo, hi, hlh, hhn, rfl, rfl, hlo, hhi, hG⟩ := hrel; have HI : Hid ((∀ (i : Nat) (x : El), i < lo → S[i]? = some x → x.c < key) ∧ (∀ (i : Nat) (x : El), hi ≤ i → S[i]? = some x → key ≤ x.c) ∧ w.grownBy wr none) := ⟨hlo, hhi, hG⟩; have hAr : ElAt wr 74 3 g S := HA.out.1.kept (fun j hj _ => hG.block j hj (by simp)); clear hlo hhi hG
    by_cases hlt : lo < hi
    · obtain ⟨mid, hmid⟩ : ∃ mid, (lo + hi) / 2 = mid := ⟨_, rfl⟩
      have hm1 : lo ≤ mid := by omega
      have hm2 : mid < hi := by omega
      have hmI : ((lo : Int) + (hi : Int)) / 2 = (mid : Int) := by omega
      have hmT : ((lo : Int) + (hi : Int)).tdiv 2 = (mid : Int) := by rw [Int.tdiv_eq_ediv_of_nonneg (by omega)]; exact hmI
      have hloI : (lo : Int) < (hi : Int) := by omega
      obtain ⟨x, hx⟩ : ∃ x, S[mid]? = some x := ⟨_, List.getElem?_eq_getElem (by have := HN.out; omega)⟩; obtain ⟨n0, n1, n2, hhd, c0, c1, c2, cd⟩ := hAr.get3 hx; obtain ⟨e0, -, -⟩ := El.hd3 hhd; have HX : Hid (S[mid]? = some x ∧ x.c = n0) := ⟨hx, e0⟩; obtain ⟨xh, d, o, cp⟩ := x; simp only at cd; generalize oad o = og at *; clear hx hhd e0 hAr hmid
      have hmn : (mid : Int) < (n : Int) := by omega
      go_wp2_with fail; refine (sesClient_any n0 n1 n2 og d.length cp _).mono ?_; rintro e w1 ⟨rfl, hG1⟩; have HG1 : Hid (w.grownBy w1 none) := grownBy_trans HI.out.2.2 hG1; clear hG1
      by_cases hc : n0 < key
      · have HL : Hid (∀ (i : Nat) (x : El), i < mid + 1 → S[i]? = some x → x.c < key) := fun i y hi' hy => by
          rcases Nat.lt_or_ge i mid with h1 | h1
          · have := risesE_mono S 0 HA.out.2 i mid y _ h1 hy HX.out.1; have h2 := HX.out.2
            omega
          · obtain rfl : i = mid := by omega
            have h3 := HX.out.1; rw [hy] at h3; obtain rfl := Option.some.inj h3; have h2 := HX.out.2
            omega
        go_wp2; go_roundw
        case rel => exact ⟨mid + 1, hi, by omega, by omega, by go_num, rfl, HL.out, HI.out.2.1, HG1.out⟩
        case measure => simp [intOf]; omega
      · have HL : Hid (∀ (i : Nat) (x : El), mid ≤ i → S[i]? = some x → key ≤ x.c) := fun i y hi' hy => by
          rcases Nat.lt_or_ge mid i with h1 | h1
          · have := risesE_mono S 0 HA.out.2 mid i _ y h1 HX.out.1 hy; have h2 := HX.out.2
            omega
          · obtain rfl : i = mid := by omega
            have h3 := HX.out.1; rw [hy] at h3; obtain rfl := Option.some.inj h3; have h2 := HX.out.2
            omega
        have hc' : key ≤ n0 := by omega
        go_wp2; go_roundw
        case rel => exact ⟨lo, mid, by omega, by omega, rfl, by go_num, HI.out.1, HL.out, HG1.out⟩
        case measure => simp [intOf]; omega
    · obtain rfl : lo = hi := by omega
      have HSP : Hid (Spot S key lo) := ⟨by rw [HN.out]; exact hhn, HI.out.1, HI.out.2.1⟩
      by_cases hln : lo < n
      · obtain ⟨x, hx⟩ : ∃ x, S[lo]? = some x := ⟨_, List.getElem?_eq_getElem (by have := HN.out; omega)⟩; obtain ⟨n0, n1, n2, hhd, c0, c1, c2, cd⟩ := hAr.get3 hx; obtain ⟨e0, -, -⟩ := El.hd3 hhd
        have HX : Hid (knownAt S key lo = decide (n0 = key)) := by show _ = _; unfold knownAt; rw [hx]; simp only [e0]
        obtain ⟨xh, d, o, cp⟩ := x; simp only at cd; generalize oad o = og at *; clear hx hhd e0 hAr
        have hlI : (lo : Int) < (n : Int) := by omega
        go_wp2_with fail; refine (sesClient_any n0 n1 n2 og d.length cp _).mono ?_; rintro e w1 ⟨rfl, hG1⟩; have HG1 : Hid (w.grownBy w1 none) := grownBy_trans HI.out.2.2 hG1; clear hG1; go_wp2
        go_ret2
        refine ⟨lo, ?_, HSP.out, HG1.out⟩; rw [HX.out]
        by_cases hk : n0 = key
        · subst hk; simp
        · have : (n0 == key) = false := by simpa using hk
          simp [hk, this]
      · have HX : Hid (knownAt S key lo = false) := by
          show _ = _
          unfold knownAt
          rw [List.getElem?_eq_none (by have := HN.out; omega)]
        have hlI : (n : Int) ≤ (lo : Int) := by omega
        clear hAr; go_wp2
        go_ret2
        refine ⟨lo, ?_, HSP.out, HI.out.2.2⟩; rw [HX.out]
        try rfl
end Go.Proofs.YtdajcpcajdhplaaDoor
