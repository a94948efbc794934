/-
  What apply tells is a matter of the tells alone, and it tells one thing.
-/
import Derived.Test.YtdajcpcajdhplaaDoorAp5
namespace Go.Proofs.YtdajcpcajdhplaaDoor

theorem tell_get {S S0 : List El} (h : S.map El.tell = S0.map El.tell) {i : Nat} {y : El} (hy : S[i]? = some y) : ∃ x, S0[i]? = some x ∧ x.tell = y.tell := by
  have h1 := congrArg (fun l => l[i]?) h
  simp only [List.getElem?_map, hy, Option.map_some] at h1
  cases h2 : S0[i]? with
  | none => rw [h2] at h1; cases h1
  | some x => rw [h2] at h1; exact ⟨x, rfl, (Option.some.inj h1).symm⟩
theorem tell_eq {x y : El} (h : x.tell = y.tell) : x.c = y.c ∧ x.q = y.q ∧ x.i = y.i ∧ x.d = y.d := by
  have h1 := congrArg Prod.fst h
  have h2 := congrArg Prod.snd h
  simp only [El.tell] at h1 h2
  simp only [El.c, El.q, El.i, h1, h2, and_self]
theorem Spot.tell {S S0 : List El} (h : S.map El.tell = S0.map El.tell) {key : Int} {k : Nat} (hk : Spot S key k) : Spot S0 key k := by
  have hl : S.length = S0.length := by have := congrArg List.length h; simpa using this
  refine ⟨by rw [← hl]; exact hk.le, fun i x hi hx => ?_, fun i x hi hx => ?_⟩
  · obtain ⟨y, hy, ht⟩ := tell_get h.symm hx
    rw [← (tell_eq ht).1]
    exact hk.lo i y hi hy
  · obtain ⟨y, hy, ht⟩ := tell_get h.symm hx
    rw [← (tell_eq ht).1]
    exact hk.hi i y hi hy
theorem known_tell {S S0 : List El} (h : S.map El.tell = S0.map El.tell) (key : Int) (k : Nat) : knownAt S key k = knownAt S0 key k := by
  unfold knownAt
  cases hs : S[k]? with
  | none =>
    cases h0 : S0[k]? with
    | none => rfl
    | some x => obtain ⟨y, hy, _⟩ := tell_get h.symm h0; rw [hs] at hy; cases hy
  | some x =>
    obtain ⟨y, hy, ht⟩ := tell_get h hs
    rw [hy]
    simp only [(tell_eq ht).1]
theorem ApSays.tell {b : Int} {K S K0 S0 : List El} {zs : List Nat} {pl c : Int} {KK SS : List (List Int × List Nat)} (hK : K.map El.tell = K0.map El.tell) (hS : S.map El.tell = S0.map El.tell) (h : ApSays b K S zs pl c KK SS) : ApSays b K0 S0 zs pl c KK SS := by
  have hl : K.length = K0.length := by have := congrArg List.length hK; simpa using this
  cases h using ApSays.elim with
  | empty h => rw [hK, hS]; exact .empty h
  | bad h hd => rw [hK, hS]; exact .bad h hd
  | again hd k x hk hx hc hq hs =>
    obtain ⟨y, hy, ht⟩ := tell_get hS hx
    obtain ⟨t1, t2, t3, t4⟩ := tell_eq ht
    rw [hK, hS, ← t3]
    rw [← t1] at hc
    rw [← t2] at hq
    rw [← t2, ← t4] at hs
    exact .again hd k y (hk.tell hS) hy hc hq hs
  | exist hd k x hk hx hc hq hs =>
    obtain ⟨y, hy, ht⟩ := tell_get hS hx
    obtain ⟨t1, t2, t3, t4⟩ := tell_eq ht
    rw [hK, hS]
    rw [← t1] at hc
    rw [← t2] at hq
    rw [← t2, ← t4] at hs
    exact .exist hd k y (hk.tell hS) hy hc hq hs
  | full hd k hk hq hf =>
    rw [hK, hS]
    rw [hl] at hf
    refine .full hd k (hk.tell hS) (fun x hx hc => ?_) hf
    obtain ⟨y, hy, ht⟩ := tell_get hS.symm hx
    obtain ⟨t1, t2, t3, t4⟩ := tell_eq ht
    rw [← t2]
    exact hq y hy (by rw [t1]; exact hc)
  | old hd k x hk hx hc hq hf =>
    obtain ⟨y, hy, ht⟩ := tell_get hS hx
    obtain ⟨t1, t2, t3, t4⟩ := tell_eq ht
    rw [hl] at hf ⊢
    rw [hK, hS]
    exact .old hd k y (hk.tell hS) hy (by rw [t1]; exact hc) (by rw [t2]; exact hq) hf
  | new hd k hk hu hf =>
    rw [hl] at hf ⊢
    rw [hK, hS]
    exact .new hd k (hk.tell hS) (by rw [← known_tell hS]; exact hu) hf
end Go.Proofs.YtdajcpcajdhplaaDoor
