/-
  The search for a client's session, walked.
-/
import Derived.Test.YtdajcpcajdhplaaDoorClone2
namespace Go.Proofs.YtdajcpcajdhplaaDoor
open Go.RowKit

set_option maxHeartbeats 400000 in
theorem sesClient_any (c q i : Int) (oa : Option Addr) (n cp : Nat) (w : World) :
    Calls Tryd.prog 60 #[.agg #[.int .i64 c, .int .i64 q, .int .i64 i, .slice oa n cp]] w fun e w' => e = .returned (.int .i64 c) ∧ w.grownBy w' none := by
  go_enter Tryd.func60, Tryd.ntmps60
  go_wp2
  go_ret
  refine ⟨rfl, ?_⟩
  repeat (first | exact grownBy_refl _ _ | apply grownBy_alloc)
theorem risesE_lt (S : List El) : ∀ b, risesE b S → ∀ (i : Nat) (x : El), S[i]? = some x → b < x.c := by
  induction S with
  | nil => intro b _ i x h; simp at h
  | cons y S ih =>
    intro b h i x hx
    obtain ⟨h1, h2⟩ := h
    cases i with
    | zero => simp at hx; subst hx; exact h1
    | succ i =>
      have := ih y.c h2 i x (by simpa using hx)
      omega
theorem risesE_mono (S : List El) : ∀ b, risesE b S → ∀ (i j : Nat) (x y : El), i < j → S[i]? = some x → S[j]? = some y → x.c < y.c := by
  induction S with
  | nil => intro b _ i j x y _ h; simp at h
  | cons z S ih =>
    intro b h i j x y hij hx hy
    obtain ⟨h1, h2⟩ := h
    cases j with
    | zero => omega
    | succ j =>
      cases i with
      | zero =>
        simp at hx; subst hx
        exact risesE_lt S z.c h2 j y (by simpa using hy)
      | succ i => exact ih z.c h2 i j x y (by omega) (by simpa using hx) (by simpa using hy)
/-- where a client's session is, or would be -/
structure Spot (S : List El) (key : Int) (k : Nat) : Prop where
  le : k ≤ S.length
  lo : ∀ (i : Nat) (x : El), i < k → S[i]? = some x → x.c < key
  hi : ∀ (i : Nat) (x : El), k ≤ i → S[i]? = some x → key ≤ x.c
def knownAt (S : List El) (key : Int) (k : Nat) : Bool := match S[k]? with
  | some x => decide (x.c = key)
  | none => false
set_option maxRecDepth 4000 in
set_option maxHeartbeats 2000000 in
theorem search_any (g cap : Nat) (S : List El) (key : Int) (w : World) (h : ElAt w 74 3 g S) (hr : risesE 0 S) (hn : S.length ≤ 1048576) :
    Calls Tryd.prog 59 #[.slice (some ⟨g, 0, none⟩) S.length cap, .int .i64 key, .func (.func 60) #[] #[]] w fun e w' => ∃ k, e = .returned (.tuple #[.int .i64 ((k : Nat) : Int), .bool (knownAt S key k)]) ∧ Spot S key k ∧ w.grownBy w' none := by
  have HA : Hid (ElAt w 74 3 g S ∧ risesE 0 S) := ⟨h, hr⟩
  clear h hr
  obtain ⟨n, hnn⟩ : ∃ n, S.length = n := ⟨_, rfl⟩
  have HN : Hid (S.length = n) := hnn
  rw [hnn] at hn ⊢
  clear hnn
  go_enter Tryd.func59, Tryd.ntmps59
  go_wp2
  go_loopw [8, 9] (fun a b wr => ∃ lo hi : Nat, lo ≤ hi ∧ hi ≤ n ∧ a = .int .i64 (lo : Int) ∧ b = .int .i64 (hi : Int) ∧ (∀ (i : Nat) (x : El), i < lo → S[i]? = some x → x.c < key) ∧ (∀ (i : Nat) (x : El), hi ≤ i → S[i]? = some x → key ≤ x.c) ∧ w.grownBy wr none) (fun a b _ => (intOf b).toNat - (intOf a).toNat)
  case atStart => exact ⟨0, n, Nat.zero_le _, Nat.le_refl _, rfl, rfl, fun i x hi => absurd hi (by omega), fun i x hi hx => by have h1 := (List.getElem?_eq_some_iff.1 hx).1; have h2 := HN.out; omega, grownBy_refl _ _⟩
  case round =>
    obtain ⟨lo, hi, hlh, hhn, rfl, rfl, hlo, hhi, hG⟩ := hrel
    have HI : Hid ((∀ (i : Nat) (x : El), i < lo → S[i]? = some x → x.c < key) ∧ (∀ (i : Nat) (x : El), hi ≤ i → S[i]? = some x → key ≤ x.c) ∧ w.grownBy wr none) := ⟨hlo, hhi, hG⟩
    have hAr : ElAt wr 74 3 g S := HA.out.1.kept (fun j hj _ => hG.block j hj (by simp))
    clear hlo hhi hG
    by_cases hlt : lo < hi
    · obtain ⟨mid, hmid⟩ : ∃ mid, (lo + hi) / 2 = mid := ⟨_, rfl⟩
      have hm1 : lo ≤ mid := by omega
      have hm2 : mid < hi := by omega
      have hmI : ((lo : Int) + (hi : Int)) / 2 = (mid : Int) := by omega
      have hmT : ((lo : Int) + (hi : Int)).tdiv 2 = (mid : Int) := by rw [Int.tdiv_eq_ediv_of_nonneg (by omega)]; exact hmI
      have hloI : (lo : Int) < (hi : Int) := by omega
      obtain ⟨x, hx⟩ : ∃ x, S[mid]? = some x := ⟨_, List.getElem?_eq_getElem (by have := HN.out; omega)⟩
      obtain ⟨n0, n1, n2, hhd, c0, c1, c2, cd⟩ := hAr.get3 hx
      obtain ⟨e0, -, -⟩ := El.hd3 hhd
      have HX : Hid (S[mid]? = some x ∧ x.c = n0) := ⟨hx, e0⟩
      obtain ⟨xh, d, o, cp⟩ := x
      simp only at cd
      generalize oad o = og at *
      clear hx hhd e0 hAr hmid
      have hmn : (mid : Int) < (n : Int) := by omega
      go_wp2_with fail
      refine (sesClient_any n0 n1 n2 og d.length cp _).mono ?_
      rintro e w1 ⟨rfl, hG1⟩
      have HG1 : Hid (w.grownBy w1 none) := grownBy_trans HI.out.2.2 hG1
      clear hG1
      by_cases hc : n0 < key
      · have HL : Hid (∀ (i : Nat) (x : El), i < mid + 1 → S[i]? = some x → x.c < key) := fun i y hi' hy => by
          rcases Nat.lt_or_ge i mid with h1 | h1
          · have := risesE_mono S 0 HA.out.2 i mid y _ h1 hy HX.out.1
            have h2 := HX.out.2
            omega
          · obtain rfl : i = mid := by omega
            have h3 := HX.out.1
            rw [hy] at h3
            obtain rfl := Option.some.inj h3
            have h2 := HX.out.2
            omega
        go_wp2
        go_roundw
        case rel => exact ⟨mid + 1, hi, by omega, by omega, by go_num, rfl, HL.out, HI.out.2.1, HG1.out⟩
        case measure => simp [intOf]; omega
      · have HL : Hid (∀ (i : Nat) (x : El), mid ≤ i → S[i]? = some x → key ≤ x.c) := fun i y hi' hy => by
          rcases Nat.lt_or_ge mid i with h1 | h1
          · have := risesE_mono S 0 HA.out.2 mid i _ y h1 HX.out.1 hy
            have h2 := HX.out.2
            omega
          · obtain rfl : i = mid := by omega
            have h3 := HX.out.1
            rw [hy] at h3
            obtain rfl := Option.some.inj h3
            have h2 := HX.out.2
            omega
        have hc' : key ≤ n0 := by omega
        go_wp2
        go_roundw
        case rel => exact ⟨lo, mid, by omega, by omega, rfl, by go_num, HI.out.1, HL.out, HG1.out⟩
        case measure => simp [intOf]; omega
    · obtain rfl : lo = hi := by omega
      have HSP : Hid (Spot S key lo) := ⟨by rw [HN.out]; exact hhn, HI.out.1, HI.out.2.1⟩
      by_cases hln : lo < n
      · obtain ⟨x, hx⟩ : ∃ x, S[lo]? = some x := ⟨_, List.getElem?_eq_getElem (by have := HN.out; omega)⟩
        obtain ⟨n0, n1, n2, hhd, c0, c1, c2, cd⟩ := hAr.get3 hx
        obtain ⟨e0, -, -⟩ := El.hd3 hhd
        have HX : Hid (knownAt S key lo = decide (n0 = key)) := by show _ = _; unfold knownAt; rw [hx]; simp only [e0]
        obtain ⟨xh, d, o, cp⟩ := x
        simp only at cd
        generalize oad o = og at *
        clear hx hhd e0 hAr
        have hlI : (lo : Int) < (n : Int) := by omega
        go_wp2_with fail
        refine (sesClient_any n0 n1 n2 og d.length cp _).mono ?_
        rintro e w1 ⟨rfl, hG1⟩
        have HG1 : Hid (w.grownBy w1 none) := grownBy_trans HI.out.2.2 hG1
        clear hG1
        go_wp2
        go_ret2
        refine ⟨lo, ?_, HSP.out, HG1.out⟩
        rw [HX.out]
        by_cases hk : n0 = key
        · subst hk; simp
        · have : (n0 == key) = false := by simpa using hk
          simp [hk, this]
      · have HX : Hid (knownAt S key lo = false) := by
          show _ = _
          unfold knownAt
          rw [List.getElem?_eq_none (by have := HN.out; omega)]
        have hlI : (n : Int) ≤ (lo : Int) := by omega
        clear hAr
        go_wp2
        go_ret2
        refine ⟨lo, ?_, HSP.out, HI.out.2.2⟩
        rw [HX.out]
        try rfl
end Go.Proofs.YtdajcpcajdhplaaDoor
