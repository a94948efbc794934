/-
  What Apply tells of a service and data, for the program and the model alike.
-/
import Derived.Test.YtdajcpcajdhplaaDoorSpAp3
import Derived.Test.YtdajcpcajdhplaaDoorSvArg
namespace Go.Proofs.YtdajcpcajdhplaaDoor
open Go.RowKit

def elOf (y : List Int × List Nat) : El := ⟨y.1, y.2, none, 0⟩
def validT (T : Told) : Prop := ValidV T.1 (T.2.1.map elOf) (T.2.2.map elOf)
theorem elOf_tells (L : List (List Int × List Nat)) : (L.map elOf).map El.tell = L := by
  rw [List.map_map]
  exact (List.map_congr_left (fun x _ => rfl)).trans (List.map_id L)
theorem risesE_map (f : El → El) (hf : ∀ x, (f x).c = x.c) (l : List El) : ∀ b, risesE b (l.map f) ↔ risesE b l := by
  induction l with
  | nil => intro b; exact Iff.rfl
  | cons x l ih =>
    intro b
    have e1 : risesE b ((x :: l).map f) ↔ b < (f x).c ∧ risesE (f x).c (l.map f) := Iff.rfl
    have e2 : risesE b (x :: l) ↔ b < x.c ∧ risesE x.c l := Iff.rfl
    rw [e1, e2, hf, ih]
theorem validV_tell (b : Int) (K S : List El) : ValidV b K S ↔ validT (b, K.map El.tell, S.map El.tell) := by
  have e : ∀ L : List El, (L.map El.tell).map elOf = L.map (fun x => elOf x.tell) := fun L => by simp [List.map_map, Function.comp_def]
  unfold validT ValidV
  simp only [e, List.length_map, List.forall_mem_map]
  rw [risesE_map (fun x => elOf x.tell) (fun _ => rfl)]
  exact Iff.rfl
/-- what Apply tells -/
def ApTold (T : Told) (zs : List Nat) (T' : Told) (pl c : Int) : Prop :=
  (validT T ∧ T'.1 = T.1 ∧ ApSays T.1 (T.2.1.map elOf) (T.2.2.map elOf) zs pl c T'.2.1 T'.2.2) ∨ (¬ validT T ∧ T' = (0, [], []) ∧ pl = 0 ∧ c = 5)
theorem ApTold.one {T T1 T2 : Told} {zs : List Nat} {p1 c1 p2 c2 : Int} (h : ApTold T zs T1 p1 c1) (h' : ApTold T zs T2 p2 c2) : T1 = T2 ∧ p1 = p2 ∧ c1 = c2 := by
  rcases h with ⟨hv, hb, hs⟩ | ⟨hv, rfl, rfl, rfl⟩
  · rcases h' with ⟨_, hb', hs'⟩ | ⟨hv', _⟩
    · obtain ⟨e1, e2, e3, e4⟩ := hs.one hs'
      exact ⟨Prod.ext (hb.trans hb'.symm) (Prod.ext e3 e4), e1, e2⟩
    · exact absurd hv hv'
  · rcases h' with ⟨hv', _⟩ | ⟨_, rfl, rfl, rfl⟩
    · exact absurd hv' hv
    · exact ⟨rfl, rfl, rfl⟩
theorem apSays_ex (b : Int) (K S : List El) (zs : List Nat) (hr : risesE 0 S) : ∃ pl c KK SS, ApSays b K S zs pl c KK SS := by
  by_cases h0 : zs = []
  · exact ⟨_, _, _, _, .empty h0⟩
  · by_cases hd : decGood zs
    · obtain ⟨k, hk⟩ := spot_ex S (decCl zs : Int) 0 hr
      rcases known_of S (decCl zs : Int) k with hu | ⟨x, hx, hc⟩
      · by_cases hf : b + (K.length : Int) = 1000000
        · refine ⟨_, _, _, _, .full hd k hk (fun x hx hc => ?_) hf⟩
          unfold knownAt at hu
          rw [hx] at hu
          simp [hc] at hu
        · exact ⟨_, _, _, _, .new hd k hk hu hf⟩
      · by_cases hq : (decSq zs : Int) ≤ x.q
        · by_cases hs : sameItem x.q x.d (decSq zs : Int) (zs.drop 8)
          · exact ⟨_, _, _, _, .again hd k x hk hx hc hq hs⟩
          · exact ⟨_, _, _, _, .exist hd k x hk hx hc hq hs⟩
        · by_cases hf : b + (K.length : Int) = 1000000
          · exact ⟨_, _, _, _, .full hd k hk (fun x' hx' _ => by rw [hx] at hx'; obtain rfl := Option.some.inj hx'; omega) hf⟩
          · exact ⟨_, _, _, _, .old hd k x hk hx hc (by omega) hf⟩
    · exact ⟨_, _, _, _, .bad h0 hd⟩
theorem apTold_ex (T : Told) (zs : List Nat) : ∃ T' pl c, ApTold T zs T' pl c := by
  by_cases h : validT T
  · obtain ⟨pl, c, KK, SS, hs⟩ := apSays_ex T.1 (T.2.1.map elOf) (T.2.2.map elOf) zs h.2.2.2.2.2
    exact ⟨(T.1, KK, SS), pl, c, .inl ⟨h, rfl, hs⟩⟩
  · exact ⟨_, _, _, .inr ⟨h, rfl, rfl, rfl⟩⟩
/-- few and short -/
def fitT (T : Told) : Prop := T.2.1.length ≤ 1000001 ∧ T.2.2.length ≤ 51 ∧ (∀ y ∈ T.2.1, y.2.length ≤ 64) ∧ ∀ y ∈ T.2.2, y.2.length ≤ 64
theorem ApTold.fit {T T' : Told} {zs : List Nat} {pl c : Int} (h : ApTold T zs T' pl c) : fitT T' := by
  rcases h with ⟨hv, hb, hs⟩ | ⟨_, rfl, _, _⟩
  · have hl : (T.2.2.map elOf).length ≤ 50 := by
      have := risesE_len (T.2.2.map elOf) 50 0 (by omega) hv.2.2.2.2.2 (fun x hx => by have h1 := (hv.2.2.2.2.1 x hx).1; unfold okE itemOk at h1; omega)
      omega
    have hk := hv.2.2.1
    have hK : ∀ y ∈ (T.2.1.map elOf).map El.tell, y.2.length ≤ 64 := fun y hy => by
      obtain ⟨x, hx, rfl⟩ := List.mem_map.1 hy
      have h1 := hv.2.2.2.1 x hx
      unfold okE itemOk at h1
      exact h1.2.2.2.2
    have hS : ∀ y ∈ (T.2.2.map elOf).map El.tell, y.2.length ≤ 64 := fun y hy => by
      obtain ⟨x, hx, rfl⟩ := List.mem_map.1 hy
      have h1 := (hv.2.2.2.2.1 x hx).1
      unfold okE itemOk at h1
      exact h1.2.2.2.2
    have h64 : decGood zs → (zs.drop 8).length ≤ 64 := fun hd => by
      have h1 := hd.2
      unfold itemOk at h1
      rw [List.length_drop]
      exact h1.2.2.2.2
    obtain ⟨b', KK, SS⟩ := T'
    simp only at hs
    have hlk : ((T.2.1.map elOf).map El.tell).length ≤ 1000000 := by simpa using hk
    have hls : ((T.2.2.map elOf).map El.tell).length ≤ 50 := by simpa using hl
    have same : ∀ {KK SS}, KK = (T.2.1.map elOf).map El.tell → SS = (T.2.2.map elOf).map El.tell → fitT (b', KK, SS) := fun e1 e2 => by subst e1 e2; exact ⟨by simp only; omega, by simp only; omega, hK, hS⟩
    have hkeep : decGood zs → ∀ (p : List Int), ((T.2.1.map elOf).map El.tell ++ [(p, zs.drop 8)]).length ≤ 1000001 ∧ ∀ y ∈ (T.2.1.map elOf).map El.tell ++ [(p, zs.drop 8)], y.2.length ≤ 64 := fun hd p => by
      refine ⟨by rw [List.length_append]; simp only [List.length_cons, List.length_nil]; omega, fun y hy => ?_⟩
      rcases List.mem_append.1 hy with h | h
      · exact hK y h
      · obtain rfl : y = _ := by simpa using h
        exact h64 hd
    cases hs using ApSays.elim with
    | empty h => exact same rfl rfl
    | bad h hd => exact same rfl rfl
    | again hd k x hk hx hc hq hs => exact same rfl rfl
    | exist hd k x hk hx hc hq hs => exact same rfl rfl
    | full hd k hk hq hf => exact same rfl rfl
    | old hd k x hk hx hc hq hf =>
      refine ⟨(hkeep hd _).1, by simp only [List.length_set]; omega, (hkeep hd _).2, fun y hy => ?_⟩
      rcases List.mem_or_eq_of_mem_set hy with h | h
      · exact hS y h
      · rw [h]; exact h64 hd
    | new hd k hk hu hf =>
      refine ⟨(hkeep hd _).1, ?_, (hkeep hd _).2, fun y hy => ?_⟩
      · simp only [List.length_append, List.length_cons, List.length_take, List.length_drop]
        omega
      · rcases List.mem_append.1 hy with h | h
        · exact hS y (List.mem_of_mem_take h)
        · rcases List.mem_cons.1 h with h | h
          · rw [h]; exact h64 hd
          · exact hS y (List.mem_of_mem_drop h)
  · exact ⟨by simp, by simp, by simp, by simp⟩
/-- a service of few and short -/
structure ApFit (r : Sv) : Prop where
  kl : r.K.length ≤ 1000001
  sl : r.S.length ≤ 51
  kd : ∀ x ∈ r.K, x.d.length ≤ 64
  sd : ∀ x ∈ r.S, x.d.length ≤ 64
theorem apFit {r : Sv} {T : Told} (h : r.tell = T) (hf : fitT T) : ApFit r := by
  subst h
  obtain ⟨h1, h2, h3, h4⟩ := hf
  exact ⟨by simpa [Sv.tell] using h1, by simpa [Sv.tell] using h2, fun x hx => h3 x.tell (List.mem_map.2 ⟨x, hx, rfl⟩), fun x hx => h4 x.tell (List.mem_map.2 ⟨x, hx, rfl⟩)⟩
theorem ApFit.small {r : Sv} (h : ApFit r) : SvSmall r := ⟨by have := h.kl; omega, by have := h.sl; omega, fun x hx => by have := h.kd x hx; omega, fun x hx => by have := h.sd x hx; omega⟩
theorem ApFit.bound {r : Sv} (h : ApFit r) : SvBound r 1 := by
  have hkl := h.kl
  have hsl := h.sl
  have hm : r.mid 1 ≤ 1 + 1000001 * (2 + 64) := by
    have h1 := eAt_le 2 r.K 1 r.K.length 64 h.kd
    have h2 : r.K.length * (2 + 64) ≤ 1000001 * (2 + 64) := Nat.mul_le_mul_right _ hkl
    unfold Sv.mid
    omega
  refine ⟨fun k hk => ?_, fun k hk => ?_⟩
  · have h1 := eAt_le 2 r.K 1 k 64 h.kd
    have h2 : k * (2 + 64) ≤ 1000001 * (2 + 64) := Nat.mul_le_mul_right _ (by omega)
    omega
  · have h1 := eAt_le 3 r.S (r.mid 1) k 64 h.sd
    have h2 : k * (3 + 64) ≤ 51 * (3 + 64) := Nat.mul_le_mul_right _ (by omega)
    omega
/-- the answer, in new memory -/
def ApAns (X : World) (T' : Told) (pl c : Int) (e : Ending) (w' : World) : Prop :=
  ∃ r : Sv, e = .returned (.tuple #[.agg #[.int .i64 r.b, .slice r.ko r.K.length r.kc, .slice r.so r.S.length r.sc], .int .i64 pl, .int .i64 c]) ∧ r.tell = T' ∧ SvAt w' r ∧ (∀ k, SvB r k → X.heap.size ≤ k) ∧ X.grownBy w' none
theorem ans_post {s : Sv} {zs : List Nat} {X w' : World} {e : Ending} {T T' : Told} {pl c : Int} (h : ApPost s zs X e w') (hs : s.tell = T) (hv : ValidV s.b s.K s.S) (hT : ApTold T zs T' pl c) : ApAns X T' pl c e w' := by
  obtain ⟨q, r, pl0, c0, rfl, hq, hb, hsay, h1, h2, h3⟩ := h
  have ht : ApTold T zs r.tell pl0 c0 := by
    refine .inl ⟨?_, ?_, ?_⟩
    · rw [← hs]; exact (validV_tell _ _ _).1 hv
    · rw [← hs]; exact hb
    · rw [← hs]
      have e1 : q.K.map El.tell = s.K.map El.tell := congrArg (fun t => t.2.1) hq
      have e2 : q.S.map El.tell = s.S.map El.tell := congrArg (fun t => t.2.2) hq
      exact hsay.tell (by rw [e1]; exact (elOf_tells _).symm) (by rw [e2]; exact (elOf_tells _).symm)
  obtain ⟨rfl, rfl, rfl⟩ := ht.one hT
  exact ⟨r, rfl, rfl, h1, h2, h3⟩
theorem ans_no {s : Sv} {zs : List Nat} {X w' : World} {e : Ending} {T T' : Told} {pl c : Int} (he : e = .returned (.tuple #[.agg #[.int .i64 0, .slice none 0 0, .slice none 0 0], .int .i64 0, .int .i64 5])) (hG : X.grownBy w' none) (hs : s.tell = T) (hv : ¬ ValidV s.b s.K s.S) (hT : ApTold T zs T' pl c) : ApAns X T' pl c e w' := by
  have ht : ApTold T zs (0, [], []) 0 5 := .inr ⟨fun h => hv ((validV_tell _ _ _).2 (by rw [← hs] at h; exact h)), rfl, rfl, rfl⟩
  obtain ⟨rfl, rfl, rfl⟩ := ht.one hT
  refine ⟨⟨0, none, 0, [], none, 0, []⟩, he, rfl, ⟨.inl ⟨rfl, rfl, rfl⟩, .inl ⟨rfl, rfl, rfl⟩, by simp⟩, fun j hj => ?_, hG⟩
  rcases hj with (h | ⟨x, hx, _⟩) | (h | ⟨x, hx, _⟩)
  · cases h
  · simp at hx
  · cases h
  · simp at hx
theorem implApply_ans (s : Sv) (oa : Option Addr) (len : Nat) (zs : List Nat) (ad : Nat → Addr) (X : World) (T T' : Told) (pl c : Int) (hE : ErrsAt X ad) (hsl : SlB X oa len zs) (hm : len ≤ 1073741824) (h : SvFull X s) (hs : SvSmall s) (ht : s.tell = T) (hT : ApTold T zs T' pl c) :
    Calls Tryd.prog 13 #[.agg #[.int .i64 s.b, .slice s.ko s.K.length s.kc, .slice s.so s.S.length s.sc], .slice oa len len] X (ApAns X T' pl c) := by
  by_cases hv : ValidV s.b s.K s.S
  · exact (implApply_ok s oa len len zs ad X hE hsl (Nat.le_refl _) hm h hs hv).mono fun e w' hp => ans_post hp ht hv hT
  · refine (implApply_no s _ X h hs hv).mono ?_
    rintro e w' ⟨he, hG⟩
    exact ans_no he hG ht hv hT
theorem specApply_ans (s : Sv) (oa : Option Addr) (len : Nat) (zs : List Nat) (X : World) (T T' : Told) (pl c : Int) (hsl : SlB X oa len zs) (hm : len ≤ 1073741824) (h : SvAt X s) (hs : SvSmall s) (ht : s.tell = T) (hT : ApTold T zs T' pl c) :
    Calls Tryd.prog 18 #[.agg #[.int .i64 s.b, .slice s.ko s.K.length s.kc, .slice s.so s.S.length s.sc], .slice oa len len] X (ApAns X T' pl c) := by
  by_cases hv : ValidV s.b s.K s.S
  · have hc := apCalls h hs hv
    have hp : Calls Tryd.prog 18 #[.agg #[.int .i64 s.b, .slice s.ko s.K.length s.kc, .slice s.so s.S.length s.sc], .slice oa len len] X (ApPost s zs X) := by
      by_cases h0 : len = 0
      · subst h0
        have hz : zs = [] := List.eq_nil_of_length_eq_zero hsl.1
        subst hz
        exact specApply_empty s oa 0 X hc
      · by_cases hd : decGood zs
        · exact specApply_good s oa len zs X hsl hm hd hc hv
        · exact specApply_bad s oa len zs X hsl hm h0 hd hc
    exact hp.mono fun e w' hp => ans_post hp ht hv hT
  · refine (specApply_no s _ X h hs hv).mono ?_
    rintro e w' ⟨he, hG⟩
    exact ans_no he hG ht hv hT
end Go.Proofs.YtdajcpcajdhplaaDoor
