/-
  The laws' helpers over services, walked: eqService, markService, heldService.
-/
import Derived.Test.YtdajcpcajdhplaaDoorElLawI
namespace Go.Proofs.YtdajcpcajdhplaaDoor
open Go.RowKit

/-- a service as it lies: base, kept items, sessions -/
structure Sv where
  b : Int
  ko : Option Addr
  kc : Nat
  K : List El
  so : Option Addr
  sc : Nat
  S : List El
def Sv.val (s : Sv) : Value := .agg #[.int .i64 s.b, .slice s.ko s.K.length s.kc, .slice s.so s.S.length s.sc]
def Sv.tell (s : Sv) : Int × List (List Int × List Nat) × List (List Int × List Nat) := (s.b, s.K.map El.tell, s.S.map El.tell)
/-- its blocks -/
def SvB (s : Sv) (k : Nat) : Prop := ElB s.ko s.K k ∨ ElB s.so s.S k
/-- .. no block serves twice -/
structure SvAt (w : World) (s : Sv) : Prop where
  kk : ElO w 32 2 s.ko s.kc s.K
  ss : ElO w 74 3 s.so s.sc s.S
  far : ∀ x ∈ s.K, ∀ y ∈ s.S, ∀ j, x.o = some j → y.o ≠ some j
/-- small enough for the laws' numbers -/
def SvSmall (s : Sv) : Prop := s.K.length ≤ 1048576 ∧ s.S.length ≤ 1048576 ∧ (∀ x ∈ s.K, x.d.length ≤ 1048576) ∧ (∀ x ∈ s.S, x.d.length ≤ 1048576)
def Sv.mid (s : Sv) (m : Nat) : Nat := eAt 2 s.K m s.K.length
def Sv.fin (s : Sv) (m : Nat) : Nat := eAt 3 s.S (s.mid m) s.S.length
def SvBound (s : Sv) (m : Nat) : Prop := (∀ k, k ≤ s.K.length → eAt 2 s.K m k ≤ 1073741000) ∧ ∀ k, k ≤ s.S.length → eAt 3 s.S (s.mid m) k ≤ 1073741000
def Sv.mkd (s : Sv) (m : Nat) : Sv := { s with K := stE 2 s.K m s.K.length, S := stE 3 s.S (s.mid m) s.S.length }
theorem SvAt.apart {w w' : World} {T : Nat → Prop} {s : Sv} (h : SvAt w s) (hb : Only T w w') (hd : ∀ k, SvB s k → ¬ T k) : SvAt w' s := ⟨h.kk.apart hb (fun k hk => hd k (.inl hk)), h.ss.apart hb (fun k hk => hd k (.inr hk)), h.far⟩
theorem SvAt.grown0 {w w' : World} {s : Sv} (h : SvAt w s) (hg : w.grownBy w' none) : SvAt w' s := ⟨h.kk.grown0 hg, h.ss.grown0 hg, h.far⟩
theorem SvAt.lt {w : World} {s : Sv} (h : SvAt w s) : ∀ k, SvB s k → k < w.heap.size := fun k hk => hk.elim (h.kk.lt k) (h.ss.lt k)
set_option maxHeartbeats 800000 in
theorem eqService_same (s r : Sv) (w : World) (h : SvAt w s) (h' : SvAt w r) (ht : s.tell = r.tell) (hs : SvSmall s) :
    Calls Tryd.prog 21 #[s.val, r.val] w fun e w' => e = .returned (.bool true) ∧ w.grownBy w' none := by
  obtain ⟨b, ko, kc, K, so, sc, S⟩ := s
  obtain ⟨b', ko', kc', K', so', sc', S'⟩ := r
  simp only [Sv.tell, Prod.mk.injEq] at ht
  obtain ⟨rfl, hK, hS⟩ := ht
  have H1 : Hid (∀ X : World, w.grownBy X none → Calls Tryd.prog 48 #[.slice ko K.length kc, .slice ko' K'.length kc'] X fun e w' => e = .returned (.bool true) ∧ X.grownBy w' none) := fun X hX =>
    eqItemS_same ko ko' kc kc' K K' X (h.kk.grown0 hX) (h'.kk.grown0 hX) hK hs.1 hs.2.2.1
  have H2 : Hid (∀ X : World, w.grownBy X none → Calls Tryd.prog 49 #[.slice so S.length sc, .slice so' S'.length sc'] X fun e w' => e = .returned (.bool true) ∧ X.grownBy w' none) := fun X hX =>
    eqSessionS_same so so' sc sc' S S' X (h.ss.grown0 hX) (h'.ss.grown0 hX) hS hs.2.1 hs.2.2.2
  clear h h' hK hS hs
  simp only [Sv.val]
  generalize K.length = kn at *
  generalize K'.length = kn' at *
  generalize S.length = sn at *
  generalize S'.length = sn' at *
  go_enter Tryd.func21, Tryd.ntmps21
  go_wp2_with fail
  refine (H1.out _ (grownBy_alloc (World.grownBy_alloc _ _ _) _)).mono ?_
  rintro e w1 ⟨rfl, hG1⟩
  have hz : w.heap.size + 1 < w1.heap.size := by have := hG1.size; simp at this; omega
  have a2 : w1.cell? ⟨w.heap.size, 2, none⟩ = some (.slice so sn sc) := ((bcell hG1).1 _ _ (by simp; omega)).trans (by simp)
  have b2 : w1.cell? ⟨w.heap.size + 1, 2, none⟩ = some (.slice so' sn' sc') := ((bcell hG1).1 _ _ (by simp)).trans (by simp)
  have HG1 : Hid (w.grownBy w1 none) := grownBy_trans (grownBy_alloc (World.grownBy_alloc _ _ _) _) hG1
  clear hG1 H1
  go_wp2_with fail
  refine (H2.out _ HG1.out).mono ?_
  rintro e w2 ⟨rfl, hG2⟩
  have R : Hid (w.grownBy w2 none) := grownBy_trans HG1.out hG2
  clear hG2
  go_wp2
  go_ret
  exact ⟨rfl, R.out⟩
theorem SvAt.two {w : World} {s : Sv} (h : SvAt w s) : ∀ k, ElB s.ko s.K k → ¬ ElB s.so s.S k := h.kk.two h.ss (by decide) (by decide) (by decide) h.far
set_option maxHeartbeats 800000 in
theorem markService_any (s : Sv) (m : Nat) (w : World) (h : SvAt w s) (hs : SvSmall s) (hb : SvBound s m) :
    Calls Tryd.prog 23 #[s.val, .int .i64 (m : Int)] w fun e w' => e = .returned (.int .i64 ((s.fin m : Nat) : Int)) ∧ SvAt w' (s.mkd m) ∧ Only (SvB s) w w' := by
  have H0 := World.grownBy_alloc w (.cells #[.int .i64 s.b, .slice s.ko s.K.length s.kc, .slice s.so s.S.length s.sc] 28) none
  have h0 := h.grown0 H0
  have hlt := h.lt
  have H1 : Hid (Calls Tryd.prog 50 #[.slice s.ko s.K.length s.kc, .int .i64 (m : Int)] (w.alloc (.cells #[.int .i64 s.b, .slice s.ko s.K.length s.kc, .slice s.so s.S.length s.sc] 28)) fun e w' => ∃ M : Nat, e = .returned (.int .i64 (M : Int)) ∧ w'.cell? ⟨w.heap.size, 2, none⟩ = some (.slice s.so s.S.length s.sc) ∧
      Hid (Calls Tryd.prog 51 #[.slice s.so s.S.length s.sc, .int .i64 (M : Int)] w' fun e w'' => e = .returned (.int .i64 ((s.fin m : Nat) : Int)) ∧ SvAt w'' (s.mkd m) ∧ Only (SvB s) w w'')) := by
    refine (markItemS_o s.ko s.kc m s.K _ h0.kk hb.1 hs.2.2.1 hs.1).mono ?_
    rintro e w1 ⟨rfl, hE1, hO1⟩
    have hS1 : ElO w1 74 3 s.so s.sc s.S := h0.ss.apart hO1 (fun k hk hk' => h0.two k hk' hk)
    refine ⟨s.mid m, rfl, ?_, ?_⟩
    · have e1 : w1.heap[w.heap.size]? = _ := hO1.block w.heap.size (by simp) (fun hk => by have := hlt _ (.inl hk); omega)
      rw [heap_alloc_new] at e1
      simp [World.cell?, e1]
    refine (markSessionS_o s.so s.sc (s.mid m) s.S w1 hS1 hb.2 hs.2.2.2 hs.2.1).mono ?_
    rintro e w2 ⟨rfl, hE2, hO2⟩
    refine ⟨rfl, ⟨hE1.apart hO2 (fun k hk hk' => h0.two k (stE_B _ _ _ _ _ _ hk) hk'), hE2, fun x hx y hy j hxj hyj => ?_⟩, ?_⟩
    · obtain ⟨x', hx', ex⟩ := stE_o 2 s.K m _ x hx
      obtain ⟨y', hy', ey⟩ := stE_o 3 s.S (s.mid m) _ y hy
      exact h.far x' hx' y' hy' j (by rw [← ex]; exact hxj) (by rw [← ey]; exact hyj)
    · exact ((Only.of H0 (fun k e => by cases e)).trans (hO1.mono fun k hk => .inl hk)).trans (hO2.mono fun k hk => .inr hk)
  clear h0 h hs hb H0 hlt
  obtain ⟨b, ko, kc, K, so, sc, S⟩ := s
  simp only [Sv.val] at *
  generalize K.length = kn at *
  generalize S.length = sn at *
  go_enter Tryd.func23, Tryd.ntmps23
  go_wp2_with fail
  refine H1.out.mono ?_
  rintro e w1 ⟨M, rfl, a2, H2⟩
  clear H1
  go_wp2_with fail
  refine H2.out.mono ?_
  rintro e w2 ⟨rfl, R⟩
  have RR : Hid (_ ∧ _) := R
  clear R H2
  obtain ⟨F, hF⟩ : ∃ F, (Sv.mk b ko kc K so sc S).fin m = F := ⟨_, rfl⟩
  have HF : Hid ((Sv.mk b ko kc K so sc S).fin m = F) := hF
  rw [hF]
  clear hF
  go_wp2
  go_ret
  exact ⟨by rw [HF.out]; rfl, RR.out⟩
set_option maxHeartbeats 800000 in
theorem heldService_any (s : Sv) (m : Nat) (w : World) (h : SvAt w (s.mkd m)) (hs : SvSmall s) (hb : SvBound s m) :
    Calls Tryd.prog 25 #[s.val, .int .i64 (m : Int)] w fun e w' => e = .returned (.int .i64 ((s.fin m : Nat) : Int)) ∧ w.grownBy w' none := by
  have H0 := World.grownBy_alloc w (.cells #[.int .i64 s.b, .slice s.ko s.K.length s.kc, .slice s.so s.S.length s.sc] 28) none
  have h0 := h.grown0 H0
  have H1 : Hid (Calls Tryd.prog 52 #[.slice s.ko s.K.length s.kc, .int .i64 (m : Int)] (w.alloc (.cells #[.int .i64 s.b, .slice s.ko s.K.length s.kc, .slice s.so s.S.length s.sc] 28)) fun e w' => e = .returned (.int .i64 ((s.mid m : Nat) : Int)) ∧ w' = w.alloc (.cells #[.int .i64 s.b, .slice s.ko s.K.length s.kc, .slice s.so s.S.length s.sc] 28)) :=
    heldItemS_o s.ko s.kc m s.K _ h0.kk hb.1 hs.2.2.1 hs.1
  have H2 : Hid (Calls Tryd.prog 53 #[.slice s.so s.S.length s.sc, .int .i64 ((s.mid m : Nat) : Int)] (w.alloc (.cells #[.int .i64 s.b, .slice s.ko s.K.length s.kc, .slice s.so s.S.length s.sc] 28)) fun e w' => e = .returned (.int .i64 ((s.fin m : Nat) : Int)) ∧ w' = w.alloc (.cells #[.int .i64 s.b, .slice s.ko s.K.length s.kc, .slice s.so s.S.length s.sc] 28)) :=
    heldSessionS_o s.so s.sc (s.mid m) s.S _ h0.ss hb.2 hs.2.2.2 hs.2.1
  have b1 : (0 : Int) ≤ ((s.mid m : Nat) : Int) := by omega
  have b2 : (0 : Int) ≤ ((s.fin m : Nat) : Int) := by omega
  have b3 : s.mid m ≤ 1073741000 := hb.1 _ (Nat.le_refl _)
  have b4 : s.fin m ≤ 1073741000 := hb.2 _ (Nat.le_refl _)
  clear h0 h hs hb H0
  obtain ⟨b, ko, kc, K, so, sc, S⟩ := s
  simp only [Sv.val] at *
  generalize K.length = kn at *
  generalize S.length = sn at *
  generalize (Sv.fin _ m : Nat) = F at *
  generalize (Sv.mid _ m : Nat) = M at *
  go_enter Tryd.func25, Tryd.ntmps25
  go_wp2_with fail
  refine H1.out.mono ?_
  rintro e w1 ⟨rfl, hw1⟩
  subst hw1
  clear H1
  go_wp2_with fail
  refine H2.out.mono ?_
  rintro e w1 ⟨rfl, hw1⟩
  subst hw1
  clear H2
  go_wp2
  go_ret
  exact ⟨rfl, World.grownBy_alloc _ _ _⟩
/-- a service that was read: no kept items -/
def svOf (B : Nat) (oa : Option Addr) (cap : Nat) (L : List Se) : Sv := ⟨(B : Int), none, 0, [], oa, cap, L.map Se.el⟩
theorem svOf_val (B : Nat) (oa : Option Addr) (cap : Nat) (L : List Se) : (svOf B oa cap L).val = .agg #[.int .i64 (B : Int), .slice none 0 0, .slice oa L.length cap] := by simp [svOf, Sv.val]
theorem svOf_at {w : World} {base : Nat} {v : Value} {L : List Se} (B : Nat) (h : SesRow w base v L) : ∃ oa cap, v = .slice oa L.length cap ∧ SvAt w (svOf B oa cap L) ∧ ∀ k, SvB (svOf B oa cap L) k → base ≤ k := by
  obtain ⟨oa, cap, hv, hE, hB⟩ := h.el
  refine ⟨oa, cap, hv, ⟨.inl ⟨rfl, rfl, rfl⟩, hE, by simp [svOf]⟩, fun k hk => ?_⟩
  rcases hk with hk | hk
  · rcases hk with h | ⟨x, hx, _⟩
    · cases h
    · simp [svOf] at hx
  · exact hB k hk
end Go.Proofs.YtdajcpcajdhplaaDoor
