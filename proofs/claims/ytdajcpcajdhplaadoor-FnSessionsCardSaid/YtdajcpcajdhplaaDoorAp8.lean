/-
  What apply tells is one thing.
-/
import Derived.Test.YtdajcpcajdhplaaDoorAp7
namespace Go.Proofs.YtdajcpcajdhplaaDoor

theorem ApSays.one {b : Int} {K S : List El} {zs : List Nat} {pl c pl' c' : Int} {KK SS KK' SS' : List (List Int × List Nat)} (h : ApSays b K S zs pl c KK SS) (h' : ApSays b K S zs pl' c' KK' SS') : pl = pl' ∧ c = c' ∧ KK = KK' ∧ SS = SS' := by
  have hnd : decGood zs → zs ≠ [] := fun hd e => by subst e; have := hd.1; simp at this
  have hkn : ∀ (k : Nat) (x : El), S[k]? = some x → x.c = (decCl zs : Int) → knownAt S (decCl zs : Int) k = true := fun k x hx hc => by unfold knownAt; rw [hx]; simp [hc]
  cases h using ApSays.elim with
  | empty h =>
    cases h' using ApSays.elim with
    | empty h' => exact ⟨rfl, rfl, rfl, rfl⟩
    | bad h' hd' => exact absurd h h'
    | again hd' k' x' hk' hx' hc' hq' hs' => exact absurd h (hnd hd')
    | exist hd' k' x' hk' hx' hc' hq' hs' => exact absurd h (hnd hd')
    | full hd' k' hk' hq' hf' => exact absurd h (hnd hd')
    | old hd' k' x' hk' hx' hc' hq' hf' => exact absurd h (hnd hd')
    | new hd' k' hk' hu' hf' => exact absurd h (hnd hd')
  | bad h hd =>
    cases h' using ApSays.elim with
    | empty h' => exact absurd h' h
    | bad h' hd' => exact ⟨rfl, rfl, rfl, rfl⟩
    | again hd' k' x' hk' hx' hc' hq' hs' => exact absurd hd' hd
    | exist hd' k' x' hk' hx' hc' hq' hs' => exact absurd hd' hd
    | full hd' k' hk' hq' hf' => exact absurd hd' hd
    | old hd' k' x' hk' hx' hc' hq' hf' => exact absurd hd' hd
    | new hd' k' hk' hu' hf' => exact absurd hd' hd
  | again hd k x hk hx hc hq hs =>
    cases h' using ApSays.elim with
    | empty h' => exact absurd h' (hnd hd)
    | bad h' hd' => exact absurd hd hd'
    | again hd' k' x' hk' hx' hc' hq' hs' => obtain rfl := hk.one hk'; rw [hx] at hx'; obtain rfl := Option.some.inj hx'; exact ⟨rfl, rfl, rfl, rfl⟩
    | exist hd' k' x' hk' hx' hc' hq' hs' => obtain rfl := hk.one hk'; rw [hx] at hx'; obtain rfl := Option.some.inj hx'; exact absurd hs hs'
    | full hd' k' hk' hq' hf' => obtain rfl := hk.one hk'; have := hq' _ hx hc; omega
    | old hd' k' x' hk' hx' hc' hq' hf' => obtain rfl := hk.one hk'; rw [hx] at hx'; obtain rfl := Option.some.inj hx'; omega
    | new hd' k' hk' hu' hf' => obtain rfl := hk.one hk'; exact absurd (hkn _ _ hx hc) (by rw [hu']; simp)
  | exist hd k x hk hx hc hq hs =>
    cases h' using ApSays.elim with
    | empty h' => exact absurd h' (hnd hd)
    | bad h' hd' => exact absurd hd hd'
    | again hd' k' x' hk' hx' hc' hq' hs' => obtain rfl := hk.one hk'; rw [hx] at hx'; obtain rfl := Option.some.inj hx'; exact absurd hs' hs
    | exist hd' k' x' hk' hx' hc' hq' hs' => obtain rfl := hk.one hk'; rw [hx] at hx'; obtain rfl := Option.some.inj hx'; exact ⟨rfl, rfl, rfl, rfl⟩
    | full hd' k' hk' hq' hf' => obtain rfl := hk.one hk'; have := hq' _ hx hc; omega
    | old hd' k' x' hk' hx' hc' hq' hf' => obtain rfl := hk.one hk'; rw [hx] at hx'; obtain rfl := Option.some.inj hx'; omega
    | new hd' k' hk' hu' hf' => obtain rfl := hk.one hk'; exact absurd (hkn _ _ hx hc) (by rw [hu']; simp)
  | full hd k hk hq hf =>
    cases h' using ApSays.elim with
    | empty h' => exact absurd h' (hnd hd)
    | bad h' hd' => exact absurd hd hd'
    | again hd' k' x' hk' hx' hc' hq' hs' => obtain rfl := hk.one hk'; have := hq _ hx' hc'; omega
    | exist hd' k' x' hk' hx' hc' hq' hs' => obtain rfl := hk.one hk'; have := hq _ hx' hc'; omega
    | full hd' k' hk' hq' hf' => obtain rfl := hk.one hk'; exact ⟨rfl, rfl, rfl, rfl⟩
    | old hd' k' x' hk' hx' hc' hq' hf' => obtain rfl := hk.one hk'; exact absurd hf hf'
    | new hd' k' hk' hu' hf' => obtain rfl := hk.one hk'; exact absurd hf hf'
  | old hd k x hk hx hc hq hf =>
    cases h' using ApSays.elim with
    | empty h' => exact absurd h' (hnd hd)
    | bad h' hd' => exact absurd hd hd'
    | again hd' k' x' hk' hx' hc' hq' hs' => obtain rfl := hk.one hk'; rw [hx] at hx'; obtain rfl := Option.some.inj hx'; omega
    | exist hd' k' x' hk' hx' hc' hq' hs' => obtain rfl := hk.one hk'; rw [hx] at hx'; obtain rfl := Option.some.inj hx'; omega
    | full hd' k' hk' hq' hf' => obtain rfl := hk.one hk'; exact absurd hf' hf
    | old hd' k' x' hk' hx' hc' hq' hf' => obtain rfl := hk.one hk'; rw [hx] at hx'; obtain rfl := Option.some.inj hx'; exact ⟨rfl, rfl, rfl, rfl⟩
    | new hd' k' hk' hu' hf' => obtain rfl := hk.one hk'; exact absurd (hkn _ _ hx hc) (by rw [hu']; simp)
  | new hd k hk hu hf =>
    cases h' using ApSays.elim with
    | empty h' => exact absurd h' (hnd hd)
    | bad h' hd' => exact absurd hd hd'
    | again hd' k' x' hk' hx' hc' hq' hs' => obtain rfl := hk.one hk'; exact absurd (hkn _ _ hx' hc') (by rw [hu]; simp)
    | exist hd' k' x' hk' hx' hc' hq' hs' => obtain rfl := hk.one hk'; exact absurd (hkn _ _ hx' hc') (by rw [hu]; simp)
    | full hd' k' hk' hq' hf' => obtain rfl := hk.one hk'; exact absurd hf' hf
    | old hd' k' x' hk' hx' hc' hq' hf' => obtain rfl := hk.one hk'; exact absurd (hkn _ _ hx' hc') (by rw [hu]; simp)
    | new hd' k' hk' hu' hf' => obtain rfl := hk.one hk'; exact ⟨rfl, rfl, rfl, rfl⟩
end Go.Proofs.YtdajcpcajdhplaaDoor
