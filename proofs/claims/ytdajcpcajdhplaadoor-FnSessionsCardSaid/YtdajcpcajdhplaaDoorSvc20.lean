/-
  SesMath, Ap5F, Ap6F, CloneN, SmBytes, SmSv, Draw, DrawS, Draw2
-/
import Derived.Test.YtdajcpcajdhplaaDoorSvc16
import Derived.Test.YtdajcpcajdhplaaDoorSvc15
import Derived.Test.YtdajcpcajdhplaaDoorSvc1
import Derived.Test.YtdajcpcajdhplaaDoorSvc10
import Derived.Test.YtdajcpcajdhplaaDoorSvc4
import Derived.Deep.RegionHeld3
import Derived.Deep.DeepCutAuto
import Derived.BigQuiet
import Derived.Test.YtdajcpcajdhplaaDoorChecked
/-
  Items given one after the other, and the sessions that know them.
-/
namespace Go.Proofs.YtdajcpcajdhplaaDoor

theorem risesE_of_mono (S : List El) : ∀ b, (∀ (i : Nat) (x : El), S[i]? = some x → b < x.c) → (∀ (i j : Nat) (x y : El), i < j → S[i]? = some x → S[j]? = some y → x.c < y.c) → risesE b S := by
  induction S with
  | nil => intro b _ _; trivial
  | cons y S ih =>
    intro b h1 h2; refine ⟨h1 0 y rfl, ih y.c (fun i x hx => h2 0 (i + 1) y x (by omega) rfl (by simpa using hx)) (fun i j x z hij hx hz => h2 (i + 1) (j + 1) x z (by omega) (by simpa using hx) (by simpa using hz))⟩
/-- the sessions know the items given -/
structure Kn (G S : List El) : Prop where
  rise : risesE 0 S
  okG : ∀ x ∈ G, okE x
  okS : ∀ y ∈ S, okE y
  at_ : ∀ y ∈ S, ∃ (i : Nat) (x : El), y.i = (i : Int) ∧ G[i]? = some x ∧ x.c = y.c ∧ x.q = y.q ∧ x.d = y.d
  top : ∀ y ∈ S, ∀ (j : Nat) (x : El), G[j]? = some x → x.c = y.c → x.q ≤ y.q ∧ (x.q = y.q → (j : Int) = y.i)
  has : ∀ x ∈ G, ∃ y ∈ S, y.c = x.c
theorem Kn.nil : Kn [] [] := ⟨trivial, by simp, by simp, by simp, by simp, by simp⟩
theorem okE_tell {x y : El} (h : x.tell = y.tell) (hx : okE x) : okE y := by
  obtain ⟨h1, h2, h3, h4⟩ := tell_eq h
  unfold okE at *
  rw [← h1, ← h2, ← h4]; exact hx
theorem Kn.tell {G S S' : List El} (h : Kn G S) (hS : S'.map El.tell = S.map El.tell) : Kn G S' := by
  have hm : ∀ y ∈ S', ∃ x ∈ S, x.tell = y.tell := fun y hy => by
    obtain ⟨i, hi⟩ := List.getElem?_of_mem hy; obtain ⟨x, hx, e⟩ := tell_get hS hi; exact ⟨x, List.mem_of_getElem? hx, e⟩
  refine ⟨risesE_tell S' S 0 hS h.rise, h.okG, fun y hy => ?_, fun y hy => ?_, fun y hy j x hx hc => ?_, fun x hx => ?_⟩
  · obtain ⟨x, hx, e⟩ := hm y hy; exact okE_tell e (h.okS x hx)
  · obtain ⟨x, hx, e⟩ := hm y hy; obtain ⟨e1, e2, e3, e4⟩ := tell_eq e; obtain ⟨i, z, h1, h2, h3, h4, h5⟩ := h.at_ x hx; exact ⟨i, z, by rw [← e3]; exact h1, h2, by rw [h3, e1], by rw [h4, e2], by rw [h5, e4]⟩
  · obtain ⟨z, hz, e⟩ := hm y hy; obtain ⟨e1, e2, e3, e4⟩ := tell_eq e; rw [← e2, ← e3]; exact h.top z hz j x hx (by rw [e1]; exact hc)
  · obtain ⟨y, hy, hc⟩ := h.has x hx; obtain ⟨i, hi⟩ := List.getElem?_of_mem hy; obtain ⟨z, hz, e⟩ := tell_get hS.symm hi; exact ⟨z, List.mem_of_getElem? hz, by rw [(tell_eq e).1]; exact hc⟩
theorem Kn.valid {G S : List El} (h : Kn G S) {K : List El} (hK : K.map El.tell = G.map El.tell) (hn : G.length ≤ 1000000) : ValidV 0 K S := by
  have hl : K.length = G.length := by have := congrArg List.length hK; simpa using this
  refine ⟨by omega, by omega, by omega, fun x hx => ?_, fun y hy => ⟨h.okS y hy, ?_⟩, h.rise⟩
  · obtain ⟨i, hi⟩ := List.getElem?_of_mem hx; obtain ⟨z, hz, e⟩ := tell_get hK hi; exact okE_tell e (h.okG z (List.mem_of_getElem? hz))
  · obtain ⟨i, x, h1, h2, _⟩ := h.at_ y hy; have := (List.getElem?_eq_some_iff.1 h2).1
    omega
/-- an item more, that no older one outdoes -/
theorem Kn.more {G S S' : List El} {x z : El} (h : Kn G S) (hx : okE x) (hz : z.c = x.c ∧ z.q = x.q ∧ z.d = x.d ∧ z.i = (G.length : Int)) (hno : ∀ y ∈ G, y.c = x.c → y.q < x.q)
    (hr : risesE 0 S') (hm : ∀ y ∈ S', y = z ∨ (y ∈ S ∧ y.c ≠ x.c)) (hzm : z ∈ S') (hk : ∀ y ∈ S, y.c ≠ x.c → y ∈ S') : Kn (G ++ [x]) S' := by
  obtain ⟨z1, z2, z3, z4⟩ := hz
  have hget : ∀ (j : Nat) (y : El), (G ++ [x])[j]? = some y → (G[j]? = some y) ∨ (j = G.length ∧ y = x) := fun j y hy => by
    rcases Nat.lt_or_ge j G.length with hj | hj
    · rw [List.getElem?_append_left hj] at hy; exact .inl hy
    · rw [List.getElem?_append_right hj] at hy
      have : j - G.length < 1 := by have := (List.getElem?_eq_some_iff.1 hy).1; simpa using this
      have e : j - G.length = 0 := by omega
      rw [e] at hy; exact .inr ⟨by omega, (by simpa using hy.symm)⟩
  have hok : okE z := by unfold okE at *; rw [z1, z2, z3]; exact hx
  refine ⟨hr, fun y hy => ?_, fun y hy => ?_, fun y hy => ?_, fun y hy j w hw hc => ?_, fun y hy => ?_⟩
  · rcases List.mem_append.1 hy with hy | hy
    · exact h.okG y hy
    · obtain rfl : y = x := by simpa using hy
      exact hx
  · rcases hm y hy with rfl | ⟨hy, _⟩
    · exact hok
    · exact h.okS y hy
  · rcases hm y hy with rfl | ⟨hy, _⟩
    · exact ⟨G.length, x, z4, by simp, z1.symm, z2.symm, z3.symm⟩
    · obtain ⟨i, w, h1, h2, h3⟩ := h.at_ y hy; exact ⟨i, w, h1, by rw [List.getElem?_append_left (List.getElem?_eq_some_iff.1 h2).1]; exact h2, h3⟩
  · rcases hm y hy with rfl | ⟨hy, hne⟩
    · rcases hget j w hw with hw | ⟨rfl, rfl⟩
      · have := hno w (List.mem_of_getElem? hw) (by rw [hc, z1]); rw [z2]; exact ⟨by omega, fun e => by omega⟩
      · rw [z2]; exact ⟨Int.le_refl _, fun _ => z4.symm⟩
    · rcases hget j w hw with hw | ⟨rfl, rfl⟩
      · exact h.top y hy j w hw hc
      · exact absurd hc.symm hne
  · rcases List.mem_append.1 hy with hy | hy
    · by_cases hc : y.c = x.c
      · exact ⟨z, hzm, by rw [z1, hc]⟩
      · obtain ⟨w, hw, he⟩ := h.has y hy; exact ⟨w, hk w hw (by rw [he]; exact hc), he⟩
    · obtain rfl : y = x := by simpa using hy
      exact ⟨z, hzm, z1⟩
/-- what the law tells of a drawn item: stale, and its place -/
def same3 (x y : El) : Prop := x.c = y.c ∧ x.q = y.q ∧ x.d = y.d
theorem judge {G K S : List El} {x : El} {zs : List Nat} {pl c : Int} {KK SS : List (List Int × List Nat)} {st : Bool} {p1 p2 : Nat} (h : Kn G S) (hK : K.map El.tell = G.map El.tell) (hn : G.length < 1000000) (hx : okE x) (hxl : x.hd = [x.c, x.q]) (hd : decGood zs) (h1 : (decCl zs : Int) = x.c) (h2 : (decSq zs : Int) = x.q) (h3 : zs.drop 8 = x.d)
    (ha : ApSays 0 K S zs pl c KK SS) (hst : st = true ↔ ∃ (j : Nat) (y : El), G[j]? = some y ∧ y.c = x.c ∧ x.q ≤ y.q)
    (hp1 : (p1 = G.length ∧ ∀ (j : Nat) (y : El), G[j]? = some y → ¬ same3 x y) ∨ ∃ y, G[p1]? = some y ∧ same3 x y)
    (hp2 : (p2 = G.length ∧ ∃ (j : Nat) (y : El), G[j]? = some y ∧ y.c = x.c ∧ x.q < y.q) ∨ (p2 = p1 ∧ ∀ (j : Nat) (y : El), G[j]? = some y → y.c = x.c → ¬ x.q < y.q)) :
    (c = 4 ∧ pl = 0 ∧ st = true ∧ p2 = G.length ∧ KK = G.map El.tell ∧ SS = S.map El.tell) ∨ (c = 0 ∧ pl = (p2 : Int) ∧ st = true ∧ p2 ≠ G.length ∧ KK = G.map El.tell ∧ SS = S.map El.tell) ∨
      (c = 0 ∧ pl = (G.length : Int) ∧ st = false ∧ p2 = G.length ∧ KK = (G ++ [x]).map El.tell ∧ ∃ S', SS = S'.map El.tell ∧ Kn (G ++ [x]) S') := by
  have hl : K.length = G.length := by have := congrArg List.length hK; simpa using this
  have hxt : x.tell = ([(decCl zs : Int), (decSq zs : Int)], zs.drop 8) := by rw [h1, h2, h3]; simp [El.tell, hxl]
  -- no item outdoes x: it is kept
  have kept : ∀ {SS}, (∀ y ∈ G, y.c = x.c → y.q < x.q) → (∃ S', SS = S'.map El.tell ∧ Kn (G ++ [x]) S') → st = false ∧ p2 = G.length := fun {SS} hno _ => by
    constructor
    · cases hs : st with
      | false => rfl
      | true =>
        obtain ⟨j, y, hy, hc, hq⟩ := hst.1 hs; have := hno y (List.mem_of_getElem? hy) hc
        omega
    · rcases hp2 with ⟨e, _⟩ | ⟨e, _⟩
      · exact e
      · rw [e]
        rcases hp1 with ⟨e1, _⟩ | ⟨y, hy, hs⟩
        · exact e1
        · have := hno y (List.mem_of_getElem? hy) hs.1.symm; have := hs.2.1
          omega
  cases ha using ApSays.elim with
  | empty h0 => have := hd.1; rw [h0] at this; simp at this
  | bad h0 hd' => exact absurd hd hd'
  | again _ k y hk hy hc hq hs =>
    have hym := List.mem_of_getElem? hy; obtain ⟨i, w, e1, e2, e3, e4, e5⟩ := h.at_ y hym
    have hqe : x.q = y.q := by have := hs.1; rw [h2] at this; exact this
    have hde : x.d = y.d := by have := hs.2; rw [h3] at this; exact this
    have hce : y.c = x.c := by rw [hc, h1]
    have hsm : same3 x w := ⟨by rw [e3, hce], by rw [e4, hqe], by rw [e5, hde]⟩; have hil := (List.getElem?_eq_some_iff.1 e2).1; have hst' : st = true := hst.2 ⟨i, w, e2, by rw [e3, hce], by rw [e4, hqe]; exact Int.le_refl _⟩
    have hp2' : p2 = i := by
      rcases hp2 with ⟨_, j, u, hu, huc, huq⟩ | ⟨e, _⟩
      · have := (h.top y hym j u hu (by rw [huc, hce])).1
        omega
      · rw [e]
        rcases hp1 with ⟨_, hno⟩ | ⟨u, hu, hus⟩
        · exact absurd hsm (hno i w e2)
        · have := (h.top y hym p1 u hu (by rw [← hus.1, hce])).2 (by rw [← hus.2.1, hqe])
          omega
    exact .inr (.inl ⟨rfl, by rw [hp2', e1], hst', by omega, hK, rfl⟩)
  | exist _ k y hk hy hc hq hs =>
    have hym := List.mem_of_getElem? hy; obtain ⟨i, w, e1, e2, e3, e4, e5⟩ := h.at_ y hym
    have hce : y.c = x.c := by rw [hc, h1]
    rw [h2] at hq; have hst' : st = true := hst.2 ⟨i, w, e2, by rw [e3, hce], by rw [e4]; exact hq⟩; refine .inl ⟨rfl, rfl, hst', ?_, hK, rfl⟩
    rcases hp2 with ⟨e, _⟩ | ⟨e, hng⟩
    · exact e
    · rw [e]
      rcases hp1 with ⟨e1, _⟩ | ⟨u, hu, hus⟩
      · exact e1
      · exfalso
        have ht := h.top y hym p1 u hu (by rw [← hus.1, hce]); have hnq := hng i w e2 (by rw [e3, hce])
        have hqq : x.q = y.q := by rw [e4] at hnq; omega
        have hpi := ht.2 (by rw [← hus.2.1, hqq])
        have hpe : p1 = i := by omega
        rw [hpe, e2] at hu; obtain rfl := Option.some.inj hu; exact hs ⟨by rw [h2]; exact hqq, by rw [h3, hus.2.2]; exact e5⟩
  | full _ k hk hq hf => omega
  | old _ k y hk hy hc hq hf =>
    have hym := List.mem_of_getElem? hy; have hkl := (List.getElem?_eq_some_iff.1 hy).1
    have hce : y.c = x.c := by rw [hc, h1]
    rw [h2] at hq
    have hno : ∀ u ∈ G, u.c = x.c → u.q < x.q := fun u hu huc => by
      obtain ⟨j, hj⟩ := List.getElem?_of_mem hu; have := (h.top y hym j u hj (by rw [huc, hce])).1
      omega
    obtain ⟨z, hz⟩ : ∃ z : El, z = ⟨[(decCl zs : Int), (decSq zs : Int), 0 + (K.length : Int)], zs.drop 8, none, 0⟩ := ⟨_, rfl⟩
    have hzc : z.c = x.c := by rw [hz, ← h1]; rfl
    have hKn : Kn (G ++ [x]) (S.set k z) := by
      refine h.more hx ⟨hzc, by rw [hz, ← h2]; rfl, by rw [hz, ← h3], by rw [hz]; show 0 + (K.length : Int) = _; omega⟩ hno ?_ ?_ ?_ ?_
      · have hg : ∀ (i : Nat) (u : El), (S.set k z)[i]? = some u → ∃ u', S[i]? = some u' ∧ u'.c = u.c := fun i u hu => by
          by_cases e : i = k
          · subst e; rw [List.getElem?_set_self hkl] at hu; obtain rfl := Option.some.inj hu; exact ⟨y, hy, by rw [hce, hzc]⟩
          · rw [List.getElem?_set_ne (Ne.symm e)] at hu; exact ⟨u, hu, rfl⟩
        refine risesE_of_mono _ 0 (fun i u hu => ?_) (fun i j u v hij hu hv => ?_)
        · obtain ⟨u', hu', e⟩ := hg i u hu; rw [← e]; exact risesE_lt S 0 h.rise i u' hu'
        · obtain ⟨u', hu', e⟩ := hg i u hu; obtain ⟨v', hv', e'⟩ := hg j v hv; rw [← e, ← e']; exact risesE_mono S 0 h.rise i j u' v' hij hu' hv'
      · intro u hu; obtain ⟨i, hi⟩ := List.getElem?_of_mem hu
        by_cases e : i = k
        · subst e; rw [List.getElem?_set_self hkl] at hi; exact .inl (Option.some.inj hi).symm
        · rw [List.getElem?_set_ne (Ne.symm e)] at hi; refine .inr ⟨List.mem_of_getElem? hi, fun hcc => e ?_⟩
          rcases Nat.lt_trichotomy i k with hlt | hlt | hlt
          · have := risesE_mono S 0 h.rise i k u y hlt hi hy; omega
          · exact hlt
          · have := risesE_mono S 0 h.rise k i y u hlt hy hi; omega
      · exact List.mem_iff_getElem?.2 ⟨k, List.getElem?_set_self hkl⟩
      · intro u hu huc; obtain ⟨i, hi⟩ := List.getElem?_of_mem hu
        have e : i ≠ k := fun e => huc (by subst e; rw [hy] at hi; obtain rfl := Option.some.inj hi; exact hce)
        exact List.mem_iff_getElem?.2 ⟨i, by rw [List.getElem?_set_ne (Ne.symm e)]; exact hi⟩
    have hSS : (S.map El.tell).set k ([(decCl zs : Int), (decSq zs : Int), 0 + (K.length : Int)], zs.drop 8) = (S.set k z).map El.tell := by rw [List.map_set, hz]; rfl
    obtain ⟨k1, k2⟩ := kept (SS := (S.set k z).map El.tell) hno ⟨_, rfl, hKn⟩; exact .inr (.inr ⟨rfl, by omega, k1, k2, by rw [hK, List.map_append, List.map_singleton, hxt], _, hSS, hKn⟩)
  | new _ k hk hu hf =>
    have hnone : ∀ y ∈ S, y.c ≠ x.c := fun y hy hc => by
      obtain ⟨i, hi⟩ := List.getElem?_of_mem hy
      rcases Nat.lt_or_ge i k with hik | hik
      · have := hk.lo i y hik hi; omega
      · have hkl : k < S.length := by have := (List.getElem?_eq_some_iff.1 hi).1; omega
        have h0 := List.getElem?_eq_getElem hkl
        have hne : S[k].c ≠ (decCl zs : Int) := by
          unfold knownAt at hu
          rw [h0] at hu
          simpa using hu
        have hge := hk.hi k _ (Nat.le_refl _) h0
        have hle : S[k].c ≤ y.c := by
          rcases Nat.lt_or_eq_of_le hik with hlt | rfl
          · exact Int.le_of_lt (risesE_mono S 0 h.rise k i _ y hlt h0 hi)
          · rw [h0] at hi; rw [Option.some.inj hi]; exact Int.le_refl _
        omega
    have hno : ∀ u ∈ G, u.c = x.c → u.q < x.q := fun u hu' huc => by
      obtain ⟨y, hy, hc⟩ := h.has u hu'; exact absurd (by rw [hc, huc]) (hnone y hy)
    obtain ⟨z, hz⟩ : ∃ z : El, z = ⟨[(decCl zs : Int), (decSq zs : Int), 0 + (K.length : Int)], zs.drop 8, none, 0⟩ := ⟨_, rfl⟩
    have hzc : z.c = x.c := by rw [hz, ← h1]; rfl
    have hKn : Kn (G ++ [x]) (S.take k ++ z :: S.drop k) := by
      refine h.more hx ⟨hzc, by rw [hz, ← h2]; rfl, by rw [hz, ← h3], by rw [hz]; show 0 + (K.length : Int) = _; omega⟩ hno ?_ ?_ ?_ ?_
      · have hlo : ∀ (i : Nat) (u : El), i < k → S[i]? = some u → u.c < z.c := fun i u hi hu => by rw [hzc, ← h1]; exact hk.lo i u hi hu
        have hhi : ∀ (i : Nat) (u : El), k ≤ i → S[i]? = some u → z.c < u.c := fun i u hi hu => by
          have h5 := hk.hi i u hi hu; have h6 := hnone u (List.mem_of_getElem? hu); rw [hzc]; omega
        have hpos : 0 < z.c := by rw [hzc]; unfold okE itemOk at hx; omega
        refine risesE_of_mono _ 0 (fun i u hu => ?_) (fun i j u v hij hu hv => ?_)
        · rcases insE_get hk.le hu with ⟨_, h5⟩ | ⟨_, rfl⟩ | ⟨_, h5⟩
          · exact risesE_lt S 0 h.rise _ u h5
          · exact hpos
          · exact risesE_lt S 0 h.rise _ u h5
        · rcases insE_get hk.le hu with ⟨a1, a2⟩ | ⟨a1, rfl⟩ | ⟨a1, a2⟩
          · rcases insE_get hk.le hv with ⟨b1, b2⟩ | ⟨b1, rfl⟩ | ⟨b1, b2⟩
            · exact risesE_mono S 0 h.rise i j u v hij a2 b2
            · exact hlo i u a1 a2
            · exact risesE_mono S 0 h.rise i (j - 1) u v (by omega) a2 b2
          · rcases insE_get hk.le hv with ⟨b1, b2⟩ | ⟨b1, _⟩ | ⟨b1, b2⟩
            · omega
            · omega
            · exact hhi (j - 1) v (by omega) b2
          · rcases insE_get hk.le hv with ⟨b1, b2⟩ | ⟨b1, _⟩ | ⟨b1, b2⟩
            · omega
            · omega
            · exact risesE_mono S 0 h.rise (i - 1) (j - 1) u v (by omega) a2 b2
      · intro u hu'
        rcases List.mem_append.1 hu' with h5 | h5
        · have := List.mem_of_mem_take h5; exact .inr ⟨this, hnone u this⟩
        · rcases List.mem_cons.1 h5 with h5 | h5
          · exact .inl h5
          · have := List.mem_of_mem_drop h5; exact .inr ⟨this, hnone u this⟩
      · simp
      · intro u hu' _; rw [← List.take_append_drop k S] at hu'
        rcases List.mem_append.1 hu' with h5 | h5
        · exact List.mem_append_left _ h5
        · exact List.mem_append_right _ (List.mem_cons_of_mem _ h5)
    have hSS : (S.map El.tell).take k ++ ([(decCl zs : Int), (decSq zs : Int), 0 + (K.length : Int)], zs.drop 8) :: (S.map El.tell).drop k = (S.take k ++ z :: S.drop k).map El.tell := by rw [hz]; simp [El.tell]
    obtain ⟨k1, k2⟩ := kept (SS := (S.take k ++ z :: S.drop k).map El.tell) hno ⟨_, rfl, hKn⟩; exact .inr (.inr ⟨rfl, by omega, k1, k2, by rw [hK, List.map_append, List.map_singleton, hxt], _, hSS, hKn⟩)
end Go.Proofs.YtdajcpcajdhplaaDoor
/-
  The program's apply, on every road, once more: what it leaves is full where what it met was.
-/
namespace Go.Proofs.YtdajcpcajdhplaaDoor
open Go.RowKit

theorem apply_anyF (p gk gs : Nat) (b : Int) (K S : List El) (oa : Option Addr) (len cap : Nat) (zs : List Nat) (ad : Nat → Addr) (w : World) (hE : ErrsAt w ad) (hsl : SlB w oa len zs) (hcp : len ≤ cap) (hm : len ≤ 1073741824)
    (hp : w.heap[p]? = some (.cells #[.int .i64 b, .slice (some ⟨gk, 0, none⟩) K.length K.length, .slice (some ⟨gs, 0, none⟩) S.length S.length] 28 (0, 0))) (hK : ElAt w 32 2 gk K) (hS : ElAt w 74 3 gs S)
    (hfar : ∀ x ∈ K, ∀ y ∈ S, ∀ j, x.o = some j → y.o ≠ some j) (hr : risesE 0 S) (hn : S.length ≤ 1048576) (hkn : K.length ≤ 1048576) (hb : -1000000000000 ≤ b ∧ b ≤ 1000000000000) :
    Calls Tryd.prog 35 #[.pointer (some ⟨p, 0, none⟩), .slice oa len cap] w fun e w' => ∃ (pl c : Int) (er : Value) (gk' kc' gs' sc' : Nat) (K' S' : List El), e = .returned (.tuple #[.int .i64 pl, er]) ∧ ErrSays ad er c ∧ ApSays b K S zs pl c (K'.map El.tell) (S'.map El.tell) ∧
      w'.heap[p]? = some (.cells #[.int .i64 b, .slice (some ⟨gk', 0, none⟩) K'.length kc', .slice (some ⟨gs', 0, none⟩) S'.length sc'] 28 (0, 0)) ∧ ElAt w' 32 2 gk' K' ∧ ElAt w' 74 3 gs' S' ∧ (∀ x ∈ K', ∀ y ∈ S', ∀ j, x.o = some j → y.o ≠ some j) ∧ (∀ j, (ElB (some ⟨gk', 0, none⟩) K' j ∨ ElB (some ⟨gs', 0, none⟩) S' j) → (ElB (some ⟨gk, 0, none⟩) K j ∨ ElB (some ⟨gs, 0, none⟩) S j) ∨ w.heap.size ≤ j) ∧ Only (fun j => j = p ∨ j = gs) w w' ∧ (elSome K → elSome S → elSome K' ∧ elSome S') := by
  have hl := hsl.1; have hpl := (Array.getElem?_eq_some_iff.1 hp).1; have same : ∀ {w' : World} {pl c : Int} {er : Value}, w.grownBy w' none → ErrSays ad er c → ApSays b K S zs pl c (K.map El.tell) (S.map El.tell) → ∃ (pl' c' : Int) (er' : Value) (gk' kc' gs' sc' : Nat) (K' S' : List El), Ending.returned (.tuple #[.int .i64 pl, er]) = .returned (.tuple #[.int .i64 pl', er']) ∧ ErrSays ad er' c' ∧ ApSays b K S zs pl' c' (K'.map El.tell) (S'.map El.tell) ∧
      w'.heap[p]? = some (.cells #[.int .i64 b, .slice (some ⟨gk', 0, none⟩) K'.length kc', .slice (some ⟨gs', 0, none⟩) S'.length sc'] 28 (0, 0)) ∧ ElAt w' 32 2 gk' K' ∧ ElAt w' 74 3 gs' S' ∧ (∀ x ∈ K', ∀ y ∈ S', ∀ j, x.o = some j → y.o ≠ some j) ∧ (∀ j, (ElB (some ⟨gk', 0, none⟩) K' j ∨ ElB (some ⟨gs', 0, none⟩) S' j) → (ElB (some ⟨gk, 0, none⟩) K j ∨ ElB (some ⟨gs, 0, none⟩) S j) ∨ w.heap.size ≤ j) ∧ Only (fun j => j = p ∨ j = gs) w w' ∧ (elSome K → elSome S → elSome K' ∧ elSome S') := fun {w' pl c er} hg he ha =>
    ⟨pl, c, er, gk, K.length, gs, S.length, K, S, rfl, he, ha, (hg.block p hpl (by simp)).trans hp, hK.kept (fun j hj _ => hg.block j hj (by simp)), hS.kept (fun j hj _ => hg.block j hj (by simp)), hfar, fun j hj => .inl hj, Only.of hg (fun k e => by cases e), fun h1 h2 => ⟨h1, h2⟩⟩
  by_cases h0 : len = 0
  · subst h0; refine (apply_empty _ oa cap w).mono ?_; rintro e w' ⟨rfl, hg⟩; exact same hg (.inl ⟨rfl, rfl⟩) (.empty (List.eq_nil_of_length_eq_zero hl))
  · have hz : zs ≠ [] := fun e => h0 (by rw [← hl, e]; rfl)
    by_cases hd : decGood zs
    · obtain ⟨k, hk⟩ := spot_ex S (decCl zs : Int) 0 hr; have hkeep : ∀ {w' : World} {SN : El → List El} {T : Nat → Prop}, (∀ j, T j → j = gs) → (∀ z, ∀ y ∈ SN z, y = z ∨ y ∈ S) → KeepOut w w' p b K.length K (decCl zs : Int) (decSq zs : Int) (zs.drop 8) SN T → (∀ z : El, z.tell = ([(decCl zs : Int), (decSq zs : Int), b + (K.length : Int)], zs.drop 8) → ApSays b K S zs (b + (K.length : Int)) 0 (K.map El.tell ++ [([(decCl zs : Int), (decSq zs : Int)], zs.drop 8)]) ((SN z).map El.tell)) →
          ∃ (pl' c' : Int) (er' : Value) (gk' kc' gs' sc' : Nat) (K' S' : List El), Ending.returned (.tuple #[.int .i64 (b + (K.length : Int)), .nilIface]) = .returned (.tuple #[.int .i64 pl', er']) ∧ ErrSays ad er' c' ∧ ApSays b K S zs pl' c' (K'.map El.tell) (S'.map El.tell) ∧
          w'.heap[p]? = some (.cells #[.int .i64 b, .slice (some ⟨gk', 0, none⟩) K'.length kc', .slice (some ⟨gs', 0, none⟩) S'.length sc'] 28 (0, 0)) ∧ ElAt w' 32 2 gk' K' ∧ ElAt w' 74 3 gs' S' ∧ (∀ x ∈ K', ∀ y ∈ S', ∀ j, x.o = some j → y.o ≠ some j) ∧ (∀ j, (ElB (some ⟨gk', 0, none⟩) K' j ∨ ElB (some ⟨gs', 0, none⟩) S' j) → (ElB (some ⟨gk, 0, none⟩) K j ∨ ElB (some ⟨gs, 0, none⟩) S j) ∨ w.heap.size ≤ j) ∧ Only (fun j => j = p ∨ j = gs) w w' ∧ (elSome K → elSome S → elSome K' ∧ elSome S') := fun {w' SN T} hT hN hko hsay => by
        obtain ⟨gk', kc', gx, cx, gd, cd, gs', sc', h1, -, h3, h4, h5, h6, h7, h8, h9, h10⟩ := hko; refine ⟨b + (K.length : Int), 0, .nilIface, gk', kc', gs', sc', _, _, rfl, .inl ⟨rfl, rfl⟩, ?_, ?_, h3, h4, fun x hx y hy j hxj hyj => ?_, fun j hj => ?_, h10.mono (fun j hj => hj.imp id (hT j)), fun s1 s2 => ⟨fun x hx => ?_, fun x hx => ?_⟩⟩
        · rw [List.map_append]; exact hsay _ rfl
        · rw [List.length_append]; exact h1
        · have hb1 : ∀ x ∈ K, ∀ j, x.o = some j → j < w.heap.size := fun x hx j hj => by
            obtain ⟨i, hi⟩ := List.getElem?_of_mem hx; exact hK.blt hi hj
          have hb2 : ∀ x ∈ S, ∀ j, x.o = some j → j < w.heap.size := fun x hx j hj => by
            obtain ⟨i, hi⟩ := List.getElem?_of_mem hx; exact hS.blt hi hj
          rcases List.mem_append.1 hx with hx | hx
          · rcases hN _ y hy with rfl | hy
            · have h11 := hb1 x hx j hxj
              have h12 : gd = j := by simpa using hyj
              omega
            · exact hfar x hx y hy j hxj hyj
          · obtain rfl : x = _ := by simpa using hx
            have h12 : gx = j := by simpa using hxj
            rcases hN _ y hy with rfl | hy
            · have h13 : gd = j := by simpa using hyj
              omega
            · have h11 := hb2 y hy j hyj
              omega
        · rcases hj with (h | ⟨x, hx, ho⟩) | (h | ⟨x, hx, ho⟩)
          · have : gk' = j := by simpa using h
            exact .inr (by omega)
          · rcases List.mem_append.1 hx with hx | hx
            · exact .inl (.inl (.inr ⟨x, hx, ho⟩))
            · obtain rfl : x = _ := by simpa using hx
              have : gx = j := by simpa using ho
              exact .inr (by omega)
          · have hgj : gs' = j := by simpa using h
            rcases h9 with h9 | h9
            · have := hT _ h9; subst hgj this; exact .inl (.inr (.inl rfl))
            · exact .inr (by omega)
          · rcases hN _ x hx with rfl | hx
            · have : gd = j := by simpa using ho
              exact .inr (by omega)
            · exact .inl (.inr (.inr ⟨x, hx, ho⟩))
        · rcases List.mem_append.1 hx with hx | hx
          · exact s1 x hx
          · obtain rfl : x = _ := by simpa using hx
            simp
        · rcases hN _ x hx with rfl | hx
          · simp
          · exact s2 x hx
      rcases known_of S (decCl zs : Int) k with hu | ⟨x, hx, hc⟩
      · by_cases hf : b + (K.length : Int) = 1000000
        · refine (apply_full_new p gk K.length K.length gs S.length b S k oa len cap zs ad w hsl hcp hm hd hp hS hr hn hb hkn hk hu hE hf).mono ?_; rintro e w' ⟨rfl, hg⟩; refine same hg (.inr (.inr (.inl ⟨rfl, rfl⟩))) (.full hd k hk (fun x hx hc => ?_) hf)
          unfold knownAt at hu
          rw [hx] at hu
          simp [hc] at hu
        · refine (apply_new p gk K.length K.length gs S.length b S k oa len cap zs K w hsl hcp hm hd hp hS hr hn hb hkn hk hu rfl hK rfl rfl hf).mono ?_; rintro e w' ⟨rfl, hko⟩; refine hkeep (fun j h => h.elim) (fun z y hy => by rcases List.mem_append.1 hy with h | h; exact .inr (List.mem_of_mem_take h); rcases List.mem_cons.1 h with h | h; exact .inl h; exact .inr (List.mem_of_mem_drop h)) hko (fun z hz => ?_); have := ApSays.new (b := b) (K := K) hd k hk hu hf
          simpa [hz] using this
      · by_cases hq : (decSq zs : Int) ≤ x.q
        · refine (apply_again p gk K.length K.length gs S.length b S k x oa len cap zs ad w hE hsl hcp hm hd hp hS hr hn hk hx hc hq).mono ?_; rintro e w' ⟨⟨hs, rfl⟩ | ⟨hs, rfl⟩, hg⟩
          · exact same hg (.inl ⟨rfl, rfl⟩) (.again hd k x hk hx hc hq hs)
          · exact same hg (.inr (.inr (.inr ⟨rfl, rfl⟩))) (.exist hd k x hk hx hc hq hs)
        · by_cases hf : b + (K.length : Int) = 1000000
          · refine (apply_full_old p gk K.length K.length gs S.length b S k x oa len cap zs ad w hsl hcp hm hd hp hS hr hn hb hkn hk hx hc (by omega) hE hf).mono ?_; rintro e w' ⟨rfl, hg⟩; exact same hg (.inr (.inr (.inl ⟨rfl, rfl⟩))) (.full hd k hk (fun x' hx' _ => by rw [hx] at hx'; obtain rfl := Option.some.inj hx'; omega) hf)
          · refine (apply_old p gk K.length K.length gs S.length b S k x oa len cap zs K w hsl hcp hm hd hp hS hr hn hb hkn hk hx hc (by omega) rfl hK rfl hf).mono ?_; rintro e w' ⟨rfl, hko⟩; refine hkeep (fun j h => h) (fun z y hy => (List.mem_or_eq_of_mem_set hy).symm) hko (fun z hz => ?_); have := ApSays.old (b := b) (K := K) hd k x hk hx hc (by omega) hf
            simpa [List.map_set, hz] using this
    · refine (apply_bad _ oa len cap zs ad w hE hsl (by omega) hcp hm hd).mono ?_; rintro e w' ⟨rfl, hg⟩; exact same hg (.inr (.inl ⟨rfl, rfl⟩)) (.bad hz hd)
/-- the copy that Apply works on -/
def CloneAt (s : Sv) (w : World) : Prop := ∀ X : World, w.grownBy X none → Calls Tryd.prog 34 #[.agg #[.int .i64 s.b, .slice s.ko s.K.length s.kc, .slice s.so s.S.length s.sc]] X fun e w' => ∃ (gk gs kn sn : Nat) (K S : List El), e = .returned (.agg #[.int .i64 s.b, .slice (some ⟨gk, 0, none⟩) kn kn, .slice (some ⟨gs, 0, none⟩) sn sn]) ∧ Hid (K.length = kn ∧ S.length = sn ∧ K.map El.tell = s.K.map El.tell ∧ S.map El.tell = s.S.map El.tell ∧ ElAt w' 32 2 gk K ∧ ElAt w' 74 3 gs S ∧ (∀ x ∈ K, ∀ y ∈ S, ∀ j, x.o = some j → y.o ≠ some j) ∧ (∀ j, (ElB (some ⟨gk, 0, none⟩) K j ∨ ElB (some ⟨gs, 0, none⟩) S j) → X.heap.size ≤ j) ∧ elSome K ∧ elSome S) ∧ X.grownBy w' none
theorem cloneAt_full {s : Sv} {w : World} (h : SvFull w s) (hs : SvSmall s) : CloneAt s w := fun X hX => by
  refine (svClone_any s X (h.grown0 hX) hs).mono ?_; rintro e w' ⟨⟨b', ko', kc', K', so', sc', S'⟩, rfl, ht, hF, hk1, hk2, hB, hG⟩; obtain ⟨gk, hgk⟩ := hF.kb; obtain ⟨gs, hgs⟩ := hF.sb; simp only [Sv.tell, Prod.mk.injEq] at ht hgk hgs hk1 hk2; subst hgk hgs; obtain ⟨rfl, htk, hts⟩ := ht; exact ⟨gk, gs, K'.length, S'.length, K', S', by simp [hk1, hk2], ⟨rfl, rfl, htk, hts, hF.at_.kk.here, hF.at_.ss.here, hF.at_.far, fun j hj => hB j hj, hF.ks, hF.ss⟩, hG⟩
set_option maxRecDepth 4000 in
set_option maxHeartbeats 4000000 in
theorem implApply_gen (s : Sv) (oa : Option Addr) (len cap : Nat) (zs : List Nat) (ad : Nat → Addr) (w : World) (hE : ErrsAt w ad) (hsl : SlB w oa len zs) (hcp : len ≤ cap) (hm : len ≤ 1073741824) (h : SvAt w s) (hcl : CloneAt s w) (hs : SvSmall s) (hv : ValidV s.b s.K s.S) :
    Calls Tryd.prog 13 #[.agg #[.int .i64 s.b, .slice s.ko s.K.length s.kc, .slice s.so s.S.length s.sc], .slice oa len cap] w fun e w' => ∃ (q r : Sv) (pl c : Int), e = .returned (.tuple #[r.val, .int .i64 pl, .int .i64 c]) ∧ q.tell = s.tell ∧ r.b = s.b ∧ ApSays s.b q.K q.S zs pl c (r.K.map El.tell) (r.S.map El.tell) ∧ SvFull w' r ∧ (∀ k, SvB r k → w.heap.size ≤ k) ∧ w.grownBy w' none := by
  have HV : Hid (∀ X : World, w.grownBy X none → Calls Tryd.prog 33 #[.agg #[.int .i64 s.b, .slice s.ko s.K.length s.kc, .slice s.so s.S.length s.sc]] X fun e w' => e = .returned (.bool true) ∧ X.grownBy w' none) := fun X hX => by
    refine (svalidE_any s.b s.ko s.kc s.K s.so s.sc s.S X (h.kk.grown0 hX) (h.ss.grown0 hX) hs.1 hs.2.1 hs.2.2.1 hs.2.2.2).mono ?_; rintro e w' ⟨r, rfl, hr, hG⟩
    cases r with
    | true => exact ⟨rfl, hG⟩
    | false => exact absurd (hr.2 hv) (by simp)
  have HC : Hid (∀ X : World, w.grownBy X none → Calls Tryd.prog 34 #[.agg #[.int .i64 s.b, .slice s.ko s.K.length s.kc, .slice s.so s.S.length s.sc]] X fun e w' => ∃ (gk gs kn sn : Nat) (K S : List El), e = .returned (.agg #[.int .i64 s.b, .slice (some ⟨gk, 0, none⟩) kn kn, .slice (some ⟨gs, 0, none⟩) sn sn]) ∧ Hid (K.length = kn ∧ S.length = sn ∧ K.map El.tell = s.K.map El.tell ∧ S.map El.tell = s.S.map El.tell ∧ ElAt w' 32 2 gk K ∧ ElAt w' 74 3 gs S ∧ (∀ x ∈ K, ∀ y ∈ S, ∀ j, x.o = some j → y.o ≠ some j) ∧ (∀ j, (ElB (some ⟨gk, 0, none⟩) K j ∨ ElB (some ⟨gs, 0, none⟩) S j) → X.heap.size ≤ j) ∧ elSome K ∧ elSome S) ∧ X.grownBy w' none) := hcl; have HE : Hid (ErrsAt w ad ∧ SlB w oa len zs) := ⟨hE, hsl⟩; have HS : Hid (SvSmall s ∧ ValidV s.b s.K s.S) := ⟨hs, hv⟩; clear h hs hv hE hsl hcl; obtain ⟨b, ko, kc, K0, so, sc, S0⟩ := s; simp only at HV HC HS ⊢; obtain ⟨kn0, hkn0⟩ : ∃ n, K0.length = n := ⟨_, rfl⟩; obtain ⟨sn0, hsn0⟩ : ∃ n, S0.length = n := ⟨_, rfl⟩; have HN0 : Hid (K0.length = kn0 ∧ S0.length = sn0) := ⟨hkn0, hsn0⟩; rw [hkn0, hsn0] at HV HC ⊢; clear hkn0 hsn0
  go_enter Tryd.func13, Tryd.ntmps13
  go_wp2_with fail; refine (HV.out _ (grownBy_alloc (World.grownBy_alloc _ _ _) _)).mono ?_; rintro e w1 ⟨rfl, hG1⟩; have hb0 := (hG1.block w.heap.size (by simp; omega) (by simp)).trans ((Below.heap_alloc _ _ _ (by simp)).trans (heap_alloc_new w _)); have hb1 := (hG1.block (w.heap.size + 1) (by simp) (by simp)).trans (heap_two w _ _)
  have a0 : w1.cell? ⟨w.heap.size, 0, none⟩ = some (.int .i64 b) := by simp [World.cell?, hb0]
  have a1 : w1.cell? ⟨w.heap.size, 1, none⟩ = some (.slice ko kn0 kc) := by simp [World.cell?, hb0]
  have a2 : w1.cell? ⟨w.heap.size, 2, none⟩ = some (.slice so sn0 sc) := by simp [World.cell?, hb0]
  have HG1 : Hid (w.grownBy w1 none ∧ w1.heap[w.heap.size + 1]? = some (.cells #[.int .i64 0, .slice none 0 0, .slice none 0 0] 28 (0, 0))) := ⟨grownBy_trans (grownBy_alloc (World.grownBy_alloc _ _ _) _) hG1, hb1⟩; clear hb0 hb1 hG1 HV; go_wp2_with fail; refine (HC.out _ HG1.out.1).mono ?_; rintro e w2 ⟨gk, gs, kn, sn, K, S, rfl, HF, hG2⟩; have HG2 : Hid (w1.grownBy w2 none) := hG2; clear hG2 HC a0 a1 a2; go_wp2_with fail
  have HAP : Hid (Calls Tryd.prog 35 #[.pointer (some ⟨w2.heap.size, 0, none⟩), .slice oa len cap] (w2.alloc (.cells #[.int .i64 b, .slice (some ⟨gk, 0, none⟩) kn kn, .slice (some ⟨gs, 0, none⟩) sn sn] 28)) fun e w3 => ∃ (pl c : Int) (er : Value) (gk' kc' gs' sc' kn' sn' : Nat) (K' S' : List El), e = .returned (.tuple #[.int .i64 pl, er]) ∧ (w3.cell? ⟨w2.heap.size, 0, none⟩ = some (.int .i64 b) ∧ w3.cell? ⟨w2.heap.size, 1, none⟩ = some (.slice (some ⟨gk', 0, none⟩) kn' kc') ∧ w3.cell? ⟨w2.heap.size, 2, none⟩ = some (.slice (some ⟨gs', 0, none⟩) sn' sc')) ∧
      Hid (ErrSays ad er c ∧ ErrsAt w3 ad ∧ K'.length = kn' ∧ S'.length = sn' ∧ ApSays b K S zs pl c (K'.map El.tell) (S'.map El.tell) ∧ ElAt w3 32 2 gk' K' ∧ ElAt w3 74 3 gs' S' ∧ (∀ x ∈ K', ∀ y ∈ S', ∀ j, x.o = some j → y.o ≠ some j) ∧ (∀ j, (ElB (some ⟨gk', 0, none⟩) K' j ∨ ElB (some ⟨gs', 0, none⟩) S' j) → w.heap.size + 2 ≤ j) ∧ w.grownBy w3 none ∧ w2.heap.size < w3.heap.size ∧ w3.heap[w.heap.size + 1]? = some (.cells #[.int .i64 0, .slice none 0 0, .slice none 0 0] 28 (0, 0)) ∧ elSome K' ∧ elSome S')) := by
    obtain ⟨hl1, hl2, ht1, ht2, hK, hS, hfar, hB, hsk, hss⟩ := HF.out
    have hz1 : w.heap.size + 2 ≤ w1.heap.size := by have := (Array.getElem?_eq_some_iff.1 HG1.out.2).1; omega
    have GA : w2.grownBy (w2.alloc (.cells #[.int .i64 b, .slice (some ⟨gk, 0, none⟩) kn kn, .slice (some ⟨gs, 0, none⟩) sn sn] 28)) none := World.grownBy_alloc _ _ _; have GW := grownBy_trans (grownBy_trans HG1.out.1 HG2.out) GA
    have hkl : K.length ≤ 1048576 := by have h1 := congrArg List.length ht1; simp at h1; have := HS.out.1.1; simp at this; omega
    have hsl' : S.length ≤ 1048576 := by have h1 := congrArg List.length ht2; simp at h1; have := HS.out.1.2.1; simp at this; omega
    have hrs : risesE 0 S := risesE_tell S S0 0 ht2 HS.out.2.2.2.2.2.2; refine (apply_anyF w2.heap.size gk gs b K S oa len cap zs ad _ (HE.out.1.grown GW) (HE.out.2.grown0 GW) hcp hm (by rw [hl1, hl2]; exact heap_alloc_new w2 _) (hK.kept (fun j hj _ => GA.block j hj (by simp))) (hS.kept (fun j hj _ => GA.block j hj (by simp))) hfar hrs hsl' hkl (by have h1 := HS.out.2.1; have h2 := HS.out.2.2.1; omega)).mono ?_; rintro e w3 ⟨pl, c, er, gk', kc', gs', sc', K', S', rfl, h1, h2, h3, h4, h5, h6, h7, h8, hfull⟩; have hgs : w1.heap.size ≤ gs := hB gs (.inr (.inl rfl)); have hz2 := HG2.out.size; have hg3 : w.grownBy w3 none := h8.grown GW (fun k hk => by rcases hk with rfl | rfl <;> omega); refine ⟨pl, c, er, gk', kc', gs', sc', K'.length, S'.length, K', S', rfl, by simp [World.cell?, h3], h1, HE.out.1.grown hg3, rfl, rfl, h2, h4, h5, h6, fun j hj => ?_, hg3, (Array.getElem?_eq_some_iff.1 h3).1, ?_, (hfull hsk hss).1, (hfull hsk hss).2⟩
    · rcases h7 j hj with h | h
      · have := hB j h; omega
      · simp at h; omega
    · have e1 := h8.block (w.heap.size + 1) (by simp; omega) (by intro h; rcases h with h | h <;> omega); exact e1.trans ((grownBy_trans HG2.out GA).block _ (by omega) (by simp) |>.trans HG1.out.2)
  refine HAP.out.mono ?_; rintro e w3 ⟨pl, c, er, gk', kc', gs', sc', kn', sn', K', S', rfl, hD, HR⟩
  have HB7 : Hid (w.heap.size + 1 < w2.heap.size) := by show _ < _; have h1 := (Array.getElem?_eq_some_iff.1 HG1.out.2).1; have h2 := HG2.out.size; omega
  have hne : w2.heap.size ≠ w.heap.size + 1 := by have := HB7.out; omega
  have HCO : Hid (∀ X : World, Same w3 X → Calls Tryd.prog 36 #[er] X fun e w4 => e = .returned (.int .i64 c) ∧ (w4.cell? ⟨w2.heap.size, 0, none⟩ = some (.int .i64 b) ∧ w4.cell? ⟨w2.heap.size, 1, none⟩ = some (.slice (some ⟨gk', 0, none⟩) kn' kc') ∧ w4.cell? ⟨w2.heap.size, 2, none⟩ = some (.slice (some ⟨gs', 0, none⟩) sn' sc')) ∧ (w4.cell? ⟨w.heap.size + 1, 0, none⟩ = some (.int .i64 0) ∧ w4.cell? ⟨w.heap.size + 1, 1, none⟩ = some (.slice none 0 0) ∧ w4.cell? ⟨w.heap.size + 1, 2, none⟩ = some (.slice none 0 0)) ∧ (w4.frozen? ⟨w.heap.size + 1, 0, none⟩ = false ∧ w4.frozen? ⟨w.heap.size + 1, 1, none⟩ = false ∧ w4.frozen? ⟨w.heap.size + 1, 2, none⟩ = false) ∧ Hid (w3.grownBy w4 none)) := by
    intro X hX; have GX : w3.grownBy X none := grownBy_same (grownBy_refl _ _) hX; refine (codeOf_says ad er c X (HR.out.2.1.grown GX) HR.out.1).mono ?_; rintro e w4 ⟨rfl, hG⟩; have G4 : w3.grownBy w4 none := grownBy_trans GX hG
    have hc : ∀ {a o v}, w3.cell? ⟨a, o, none⟩ = some v → w4.cell? ⟨a, o, none⟩ = some v := fun h => ((bcell G4).1 _ _ (cell_block_lt h)).trans h
    have hb := (G4.block _ (Array.getElem?_eq_some_iff.1 HR.out.2.2.2.2.2.2.2.2.2.2.2.1).1 (by simp)).trans HR.out.2.2.2.2.2.2.2.2.2.2.2.1; exact ⟨rfl, ⟨hc hD.1, hc hD.2.1, hc hD.2.2⟩, by simp [World.cell?, hb], by simp [World.frozen?, hb], G4⟩
  obtain ⟨d0, d1, d2⟩ := hD; clear HAP; go_wp2_with fail
  go_region_held3 (fun W => W.cell? ⟨w2.heap.size, 0, none⟩ = some (.int .i64 b) ∧ W.cell? ⟨w2.heap.size, 1, none⟩ = some (.slice (some ⟨gk', 0, none⟩) kn' kc') ∧ W.cell? ⟨w2.heap.size, 2, none⟩ = some (.slice (some ⟨gs', 0, none⟩) sn' sc')) (first | go_keep | exact ⟨d0, d1, d2⟩ | exact hD4 | (simp only [cell_set_ne _ _ _ _ _ _ hne]; exact hD4) | fail)
    (first
      | (go_at_call 36; refine (HCO.out _ (by exact ⟨rfl, rfl, rfl, rfl⟩)).mono ?_; rintro e w4 ⟨rfl, hD4, ⟨r0, r1, r2⟩, ⟨y0, y1, y2⟩, HG4⟩)
      | fail)
  all_goals
    go_wp2; refine bodyPost_ret (v := .tuple #[.agg #[.int .i64 b, .slice (some ⟨gk', 0, none⟩) kn' kc', .slice (some ⟨gs', 0, none⟩) sn' sc'], .int .i64 pl, .int .i64 c]) (by simp [results, Tryd.results13, go_sem, r0, r1, r2]) rfl ?_; obtain ⟨-, -, hl1', hl2', hsay, hK', hS', hfar', hB', hg3, -, -, hek, hes⟩ := HR.out; have hl1 := HF.out.2.2.1; have hl2 := HF.out.2.2.2.1
    have hk : ∀ {t : TypeId} {m g : Nat} {L : List El} {X : World} (p : Addr) (v : Value), ElAt X t m g L → (∀ k, (k = g ∨ ∃ x ∈ L, x.o = some k) → k ≠ p.block) → ElAt (X.setCell p v) t m g L := fun p v h hk => h.kept (fun k _ hkk => heap_setCell_other _ _ _ _ (hk k hkk))
    have nK : ∀ k, (k = gk' ∨ ∃ x ∈ K', x.o = some k) → k ≠ w.heap.size + 1 := fun k hk => by
      have := hB' k (.inl (by rcases hk with rfl | hk; exact .inl rfl; exact .inr hk))
      omega
    have nS : ∀ k, (k = gs' ∨ ∃ x ∈ S', x.o = some k) → k ≠ w.heap.size + 1 := fun k hk => by
      have := hB' k (.inr (by rcases hk with rfl | hk; exact .inl rfl; exact .inr hk))
      omega
    refine ⟨⟨b, some ⟨gk, 0, none⟩, kn, K, some ⟨gs, 0, none⟩, sn, S⟩, ⟨b, some ⟨gk', 0, none⟩, kc', K', some ⟨gs', 0, none⟩, sc', S'⟩, pl, c, by simp [Sv.val, hl1', hl2'], by simp [Sv.tell, hl1, hl2], rfl, hsay, ⟨⟨.inr ⟨gk', rfl, ?_⟩, .inr ⟨gs', rfl, ?_⟩, hfar'⟩, hek, hes, ⟨gk', rfl⟩, ⟨gs', rfl⟩⟩, fun k hkk => by have := hB' k hkk; omega, ?_⟩
    · exact hk _ _ (hk _ _ (hk _ _ (hK'.kept (fun j hj _ => HG4.out.block j hj (by simp))) nK) nK) nK
    · exact hk _ _ (hk _ _ (hk _ _ (hS'.kept (fun j hj _ => HG4.out.block j hj (by simp))) nS) nS) nS
    · exact grownBy_setNew (grownBy_setNew (grownBy_setNew (grownBy_trans hg3 HG4.out) (by simp)) (by simp)) (by simp)
theorem el_none {w : World} {t : TypeId} {m g n sz cap : Nat} {cs : List Value} (h : w.ownsRow n t sz (.slice (some ⟨g, 0, none⟩) 0 cap) 0 cs) : ElAt w t m g [] := by
  rcases h.2 with ⟨h0, _⟩ | ⟨g', cap', cur, h0, hb, hg, _⟩
  · simp at h0
  · simp only [Value.slice.injEq, Option.some.injEq, Addr.mk.injEq, and_true] at h0; obtain ⟨rfl, -⟩ := h0; exact ⟨⟨cur, hg, fun i x hx => by simp at hx⟩, fun i x hx => by simp at hx, fun i j x y k hx => by simp at hx⟩
set_option maxRecDepth 4000 in
set_option maxHeartbeats 1000000 in
theorem cloneItemS_nil (w : World) : Calls Tryd.prog 56 #[.slice none 0 0, .func (.func 31) #[] #[]] w fun e w' => e = .returned (.slice (some ⟨w.heap.size, 0, none⟩) 0 0) ∧ ElAt w' 32 2 w.heap.size [] ∧ w.grownBy w' none := by
  obtain ⟨i0, hi, hz0, hz1, hz2⟩ := info_parts Tryd.infoItem
  go_enter Tryd.func56, Tryd.ntmps56
  go_wp2_with (at_make; refine wpList_make_full _ rfl (.tmp 9) (.tmp 9) 25 rfl w.heap.size 32 i0 (.agg #[.int .i64 0, .int .i64 0, .slice none 0 0]) 3 Tryd.underlying25 hi hz0 hz1 .i64 .i64 0 0 0 rfl rfl rfl rfl ?cb ?cm (Nat.le_refl _) ?_)
  case cb => omega
  case cm => exact Nat.zero_le _
  intro w1 hown hgrow; have HO : Hid (ElAt w1 32 2 w.heap.size [] ∧ w.grownBy w1 none) := ⟨el_none hown, hgrow⟩; clear hown hgrow; go_wp2
  go_loopw [13] (fun i wr => i = .int .i64 0 ∧ ElAt wr 32 2 w.heap.size [] ∧ w.grownBy wr none) (fun _ _ => 0)
  case atStart => exact ⟨rfl, HO.out.1, HO.out.2⟩
  case round =>
    obtain ⟨rfl, h1, h2⟩ := hrel; have HR : Hid (ElAt wr 32 2 w.heap.size [] ∧ w.grownBy wr none) := ⟨h1, h2⟩; clear h1 h2 HO; go_wp2; go_ret; exact ⟨rfl, HR.out.1, HR.out.2⟩
set_option maxRecDepth 4000 in
set_option maxHeartbeats 1000000 in
theorem cloneSessionS_nil (w : World) : Calls Tryd.prog 57 #[.slice none 0 0, .func (.func 58) #[] #[]] w fun e w' => e = .returned (.slice (some ⟨w.heap.size, 0, none⟩) 0 0) ∧ ElAt w' 74 3 w.heap.size [] ∧ w.grownBy w' none := by
  obtain ⟨i0, hi, hz0, hz1, hz2⟩ := info_parts Tryd.infoSession
  go_enter Tryd.func57, Tryd.ntmps57
  go_wp2_with (at_make; refine wpList_make_full _ rfl (.tmp 9) (.tmp 9) 26 rfl w.heap.size 74 i0 (.agg #[.int .i64 0, .int .i64 0, .int .i64 0, .slice none 0 0]) 4 Tryd.underlying26 hi hz0 hz1 .i64 .i64 0 0 0 rfl rfl rfl rfl ?cb ?cm (Nat.le_refl _) ?_)
  case cb => omega
  case cm => exact Nat.zero_le _
  intro w1 hown hgrow; have HO : Hid (ElAt w1 74 3 w.heap.size [] ∧ w.grownBy w1 none) := ⟨el_none hown, hgrow⟩; clear hown hgrow; go_wp2
  go_loopw [13] (fun i wr => i = .int .i64 0 ∧ ElAt wr 74 3 w.heap.size [] ∧ w.grownBy wr none) (fun _ _ => 0)
  case atStart => exact ⟨rfl, HO.out.1, HO.out.2⟩
  case round =>
    obtain ⟨rfl, h1, h2⟩ := hrel; have HR : Hid (ElAt wr 74 3 w.heap.size [] ∧ w.grownBy wr none) := ⟨h1, h2⟩; clear h1 h2 HO; go_wp2; go_ret; exact ⟨rfl, HR.out.1, HR.out.2⟩
def zeroSv : Sv := ⟨0, none, 0, [], none, 0, []⟩
set_option maxRecDepth 4000 in
set_option maxHeartbeats 2000000 in
theorem cloneAt_nil (w : World) : CloneAt zeroSv w := by
  intro w2 _; generalize w2 = w
  show Calls Tryd.prog 34 #[.agg #[.int .i64 0, .slice none 0 0, .slice none 0 0]] w _
  obtain ⟨W0, hW0⟩ : ∃ W0, W0 = (w.alloc (.cells #[.int .i64 0, .slice none 0 0, .slice none 0 0] 28)).alloc (.cells #[.int .i64 0, .slice none 0 0, .slice none 0 0] 28) := ⟨_, rfl⟩
  have B0 : W0.heap[w.heap.size]? = some (.cells #[.int .i64 0, .slice none 0 0, .slice none 0 0] 28 (0, 0)) := by
    rw [hW0]; exact ((World.grownBy_alloc _ _ none).block _ (by simp) (by simp)).trans (heap_alloc_new w _)
  have B1 : W0.heap[w.heap.size + 1]? = some (.cells #[.int .i64 0, .slice none 0 0, .slice none 0 0] 28 (0, 0)) := by rw [hW0]; exact heap_two w _ _
  have G0 : w.grownBy W0 none := by rw [hW0]; exact grownBy_alloc (World.grownBy_alloc _ _ _) _
  have z0 : W0.heap.size = w.heap.size + 2 := by rw [hW0]; simp
  have HKI : Hid (∀ X : World, Same W0 X → Calls Tryd.prog 56 #[.slice none 0 0, .func (.func 31) #[] #[]] X fun e w1 => ∃ g1, e = .returned (.slice (some ⟨g1, 0, none⟩) 0 0) ∧ (w1.cell? ⟨w.heap.size, 0, none⟩ = some (.int .i64 0) ∧ w1.cell? ⟨w.heap.size, 1, none⟩ = some (.slice none 0 0) ∧ w1.cell? ⟨w.heap.size, 2, none⟩ = some (.slice none 0 0)) ∧
      Hid (∀ Y : World, Same w1 Y → Calls Tryd.prog 57 #[.slice none 0 0, .func (.func 58) #[] #[]] Y fun e w2 => ∃ g2, e = .returned (.slice (some ⟨g2, 0, none⟩) 0 0) ∧ (w2.cell? ⟨w.heap.size, 0, none⟩ = some (.int .i64 0) ∧ w2.cell? ⟨w.heap.size, 1, none⟩ = some (.slice none 0 0) ∧ w2.cell? ⟨w.heap.size, 2, none⟩ = some (.slice none 0 0)) ∧ (w2.cell? ⟨w.heap.size + 1, 0, none⟩ = some (.int .i64 0) ∧ w2.cell? ⟨w.heap.size + 1, 1, none⟩ = some (.slice none 0 0) ∧ w2.cell? ⟨w.heap.size + 1, 2, none⟩ = some (.slice none 0 0)) ∧ (w2.frozen? ⟨w.heap.size + 1, 0, none⟩ = false ∧ w2.frozen? ⟨w.heap.size + 1, 1, none⟩ = false ∧ w2.frozen? ⟨w.heap.size + 1, 2, none⟩ = false) ∧
        Hid (ElAt w2 32 2 g1 [] ∧ ElAt w2 74 3 g2 [] ∧ w.heap.size + 2 ≤ g1 ∧ w.heap.size + 2 ≤ g2 ∧ w.grownBy w2 none))) := by
    intro X hX; have GX : w.grownBy X none := grownBy_same G0 hX; refine (cloneItemS_nil X).mono ?_; rintro e w1 ⟨rfl, hM, hG1⟩; have GG1 : W0.grownBy w1 none := grownBy_trans (grownBy_same (grownBy_refl W0 none) hX) hG1
    have zX : X.heap.size = w.heap.size + 2 := by rw [hX.1, z0]
    have hb1 : w1.heap[w.heap.size]? = _ := (GG1.block _ (by omega) (by simp)).trans B0; refine ⟨X.heap.size, rfl, by simp [World.cell?, hb1], fun Y hY => ?_⟩; have GY : w.grownBy Y none := grownBy_same (grownBy_trans GX hG1) hY; refine (cloneSessionS_nil Y).mono ?_; rintro e w2 ⟨rfl, hM2, hG2⟩; have GG2 : W0.grownBy w2 none := grownBy_trans (grownBy_same GG1 hY) hG2; have hb2 : w2.heap[w.heap.size + 1]? = _ := (GG2.block _ (by omega) (by simp)).trans B1; have hb3 : w2.heap[w.heap.size]? = _ := (GG2.block _ (by omega) (by simp)).trans B0; have hlt1 := hM.lt
    have zY : Y.heap.size = w1.heap.size := by rw [hY.1]
    have hMY : ElAt Y 32 2 X.heap.size [] := hM.kept (fun k _ _ => by rw [hY.1]); exact ⟨Y.heap.size, rfl, by simp [World.cell?, hb3], by simp [World.cell?, hb2], by simp [World.frozen?, hb2], hMY.kept (fun k hk _ => hG2.block k hk (by simp)), hM2, by omega, by omega, grownBy_trans GY hG2⟩
  have a0 : W0.cell? ⟨w.heap.size, 0, none⟩ = some (.int .i64 0) := by simp [World.cell?, B0]
  have a1 : W0.cell? ⟨w.heap.size, 1, none⟩ = some (.slice none 0 0) := by simp [World.cell?, B0]
  have a2 : W0.cell? ⟨w.heap.size, 2, none⟩ = some (.slice none 0 0) := by simp [World.cell?, B0]
  clear B0 B1 z0
  go_enter Tryd.func34, Tryd.ntmps34
  go_wp2_with fail; rw [← hW0]; clear hW0
  go_region_held3 (fun w' => w'.cell? ⟨w.heap.size, 0, none⟩ = some (.int .i64 0) ∧ w'.cell? ⟨w.heap.size, 1, none⟩ = some (.slice none 0 0) ∧ w'.cell? ⟨w.heap.size, 2, none⟩ = some (.slice none 0 0)) (first | (go_keep; done) | exact hD1 | exact hD2 | (simp [hD2.1, hD2.2.1, hD2.2.2]; done) | fail)
    (first
      | (go_at_call 56; refine (HKI.out _ (by exact ⟨rfl, rfl, rfl, rfl⟩)).mono ?_; rintro e w1 ⟨g1, rfl, hD1, HKS⟩)
      | (go_at_call 57; refine (HKS.out _ (by exact ⟨rfl, rfl, rfl, rfl⟩)).mono ?_; rintro e w2 ⟨g2, rfl, hD2, ⟨r0, r1, r2⟩, ⟨y0, y1, y2⟩, HR⟩)
      | fail)
  all_goals
    go_wp2; refine bodyPost_ret (v := .agg #[.int .i64 0, .slice (some ⟨g1, 0, none⟩) 0 0, .slice (some ⟨g2, 0, none⟩) 0 0]) (by simp [results, Tryd.results34, go_sem, r0, r1, r2]) rfl ⟨g1, g2, 0, 0, [], [], rfl, ⟨rfl, rfl, rfl, rfl, ?_, ?_, by simp, fun j hj => ?_, by simp [elSome], by simp [elSome]⟩, ?_⟩
    · obtain ⟨hM, hM2, hg1, hg2, -⟩ := HR.out
      have ho : ∀ {t : TypeId} {m g : Nat} {L : List El} {X : World} (p : Addr) (v : Value), ElAt X t m g L → (∀ k, (k = g ∨ ∃ x ∈ L, x.o = some k) → k ≠ p.block) → ElAt (X.setCell p v) t m g L := fun p v h hk => h.kept (fun k _ hkk => heap_setCell_other _ _ _ _ (hk k hkk))
      have hK : ∀ k, (k = g1 ∨ ∃ x ∈ ([] : List El), x.o = some k) → k ≠ w.heap.size + 1 := by
        rintro k (rfl | ⟨x, hx, _⟩)
        · omega
        · simp at hx
      exact ho _ _ (ho _ _ (ho _ _ hM hK) hK) hK
    · obtain ⟨hM, hM2, hg1, hg2, -⟩ := HR.out
      have ho : ∀ {t : TypeId} {m g : Nat} {L : List El} {X : World} (p : Addr) (v : Value), ElAt X t m g L → (∀ k, (k = g ∨ ∃ x ∈ L, x.o = some k) → k ≠ p.block) → ElAt (X.setCell p v) t m g L := fun p v h hk => h.kept (fun k _ hkk => heap_setCell_other _ _ _ _ (hk k hkk))
      have hK : ∀ k, (k = g2 ∨ ∃ x ∈ ([] : List El), x.o = some k) → k ≠ w.heap.size + 1 := by
        rintro k (rfl | ⟨x, hx, _⟩)
        · omega
        · simp at hx
      exact ho _ _ (ho _ _ (ho _ _ hM2 hK) hK) hK
    · obtain ⟨-, -, hg1, hg2, -⟩ := HR.out
      rcases hj with (h | ⟨x, hx, _⟩) | (h | ⟨x, hx, _⟩)
      · have : g1 = j := by simpa using h
        omega
      · simp at hx
      · have : g2 = j := by simpa using h
        omega
      · simp at hx
    · exact grownBy_setNew (grownBy_setNew (grownBy_setNew HR.out.2.2.2.2 (by simp)) (by simp)) (by simp)
set_option maxHeartbeats 400000 in
theorem smBytes_any (oa ob : Option Addr) (la lb ca cb : Nat) (xs ys : List Nat) (w : World) (ha : SlB w oa la xs) (hb : SlB w ob lb ys) :
    Calls Tryd.prog 32 #[.slice oa la ca, .slice ob lb cb] w fun e w' => e = .returned (.bool (decide (xs = ys))) ∧ w' = w := by
  have hcv1 : (convert 22 9 (.slice oa la ca)).run Tryd.prog w = .ok (.string (strB xs)) w := run_str_b w Tryd.underlying22 Tryd.underlying5 Tryd.underlying9 ha ca; have hcv2 : (convert 22 9 (.slice ob lb cb)).run Tryd.prog w = .ok (.string (strB ys)) w := run_str_b w Tryd.underlying22 Tryd.underlying5 Tryd.underlying9 hb cb; have HE : Hid (((strB xs).toList == (strB ys).toList) = decide (xs = ys)) := strB_eq xs ys ha.2.1 hb.2.1; clear ha hb
  go_enter Tryd.func32, Tryd.ntmps32
  go_wp2; go_ret; exact ⟨ret_bool HE.out, rfl⟩
set_option maxHeartbeats 800000 in
theorem smItem_any (c q : Int) (oa : Option Addr) (la ca : Nat) (xs : List Nat) (c' q' : Int) (ob : Option Addr) (lb cb : Nat) (ys : List Nat) (w : World) (ha : SlB w oa la xs) (hb : SlB w ob lb ys) :
    Calls Tryd.prog 12 #[.agg #[.int .i64 c, .int .i64 q, .slice oa la ca], .agg #[.int .i64 c', .int .i64 q', .slice ob lb cb]] w fun e w' => ∃ r : Bool, e = .returned (.bool r) ∧ (r = true ↔ c = c' ∧ q = q' ∧ xs = ys) ∧ w.grownBy w' none := by
  have HB : Hid (∀ X : World, w.grownBy X none → Calls Tryd.prog 32 #[.slice oa la ca, .slice ob lb cb] X fun e w' => e = .returned (.bool (decide (xs = ys))) ∧ w' = X) := fun X hX => smBytes_any oa ob la lb ca cb xs ys X (ha.grown0 hX) (hb.grown0 hX)
  have HP : Hid (w.grownBy ((w.alloc (.cells #[.int .i64 c, .int .i64 q, .slice oa la ca] 32)).alloc (.cells #[.int .i64 c', .int .i64 q', .slice ob lb cb] 32)) none) := grownBy_alloc (World.grownBy_alloc _ _ _) _; clear ha hb
  by_cases hc : c = c'
  · by_cases hq : q = q'
    · subst hc hq; obtain ⟨b, hbd⟩ : ∃ b, decide (xs = ys) = b := ⟨_, rfl⟩; have HBD : Hid (decide (xs = ys) = b) := hbd; rw [hbd] at HB; clear hbd
      go_enter Tryd.func12, Tryd.ntmps12
      go_wp2_with fail; refine (HB.out _ HP.out).mono ?_; rintro e w1 ⟨rfl, hw1⟩; subst hw1; go_wp2; go_ret; refine ⟨b, rfl, ?_, HP.out⟩; rw [← HBD.out]
      simp
    · have t0 : (c == c') = true := by simp [hc]
      have t1 : (q == q') = false := by simp [hq]
      have HQ : Hid (q ≠ q') := hq; clear hc hq
      go_enter Tryd.func12, Tryd.ntmps12
      go_wp2; go_ret; exact ⟨false, rfl, by simp [HQ.out], HP.out⟩
  · have t0 : (c == c') = false := by simp [hc]
    have HQ : Hid (c ≠ c') := hc; clear hc
    go_enter Tryd.func12, Tryd.ntmps12
    go_wp2; go_ret; exact ⟨false, rfl, by simp [HQ.out], HP.out⟩
set_option maxRecDepth 4000 in
set_option maxHeartbeats 4000000 in
theorem smService_same (s r : Sv) (w : World) (h : SvAt w s) (h' : SvAt w r) (ht : s.tell = r.tell) (hs : SvSmall s) :
    Calls Tryd.prog 14 #[.agg #[.int .i64 s.b, .slice s.ko s.K.length s.kc, .slice s.so s.S.length s.sc], .agg #[.int .i64 r.b, .slice r.ko r.K.length r.kc, .slice r.so r.S.length r.sc]] w fun e w' => e = .returned (.bool true) ∧ w.grownBy w' none := by
  have HA : Hid (SvAt w s ∧ SvAt w r) := ⟨h, h'⟩; have hk1 : s.K.length ≤ 1048576 := hs.1; have hs1 : s.S.length ≤ 1048576 := hs.2.1; obtain ⟨b, ko, kc, K, so, sc, S⟩ := s; obtain ⟨b', ko', kc', K', so', sc', S'⟩ := r; simp only [Sv.tell, Prod.mk.injEq] at ht; obtain ⟨hb, hK, hS⟩ := ht; subst hb; simp only at HA hk1 hs1 ⊢
  have lk : K'.length = K.length := by have := congrArg List.length hK; simpa using this.symm
  have ls : S'.length = S.length := by have := congrArg List.length hS; simpa using this.symm
  have HT : Hid (K.map El.tell = K'.map El.tell ∧ S.map El.tell = S'.map El.tell) := ⟨hK, hS⟩; rw [lk, ls]; obtain ⟨kn, hkn⟩ : ∃ n, K.length = n := ⟨_, rfl⟩; obtain ⟨sn, hsn⟩ : ∃ n, S.length = n := ⟨_, rfl⟩; have HN : Hid (K.length = kn ∧ S.length = sn) := ⟨hkn, hsn⟩; rw [hkn] at hk1 ⊢; rw [hsn] at hs1 ⊢; clear hkn hsn lk ls hK hS h h' hs; obtain ⟨W0, hW0⟩ : ∃ W0, W0 = (w.alloc (.cells #[.int .i64 b, .slice ko kn kc, .slice so sn sc] 28)).alloc (.cells #[.int .i64 b, .slice ko' kn kc', .slice so' sn sc'] 28) := ⟨_, rfl⟩
  have HW : Hid (W0 = (w.alloc (.cells #[.int .i64 b, .slice ko kn kc, .slice so sn sc] 28)).alloc (.cells #[.int .i64 b, .slice ko' kn kc', .slice so' sn sc'] 28) ∧ w.grownBy W0 none ∧ ∀ Y : World, W0.grownBy Y none → (Y.cell? ⟨w.heap.size, 1, none⟩ = some (.slice ko kn kc) ∧ Y.cell? ⟨w.heap.size, 2, none⟩ = some (.slice so sn sc)) ∧ (Y.cell? ⟨w.heap.size + 1, 1, none⟩ = some (.slice ko' kn kc') ∧ Y.cell? ⟨w.heap.size + 1, 2, none⟩ = some (.slice so' sn sc'))) := by
    refine ⟨hW0, by rw [hW0]; exact grownBy_alloc (World.grownBy_alloc _ _ _) _, fun Y hY => ?_⟩
    have z0 : W0.heap.size = w.heap.size + 2 := by rw [hW0]; simp
    have e0 : Y.heap[w.heap.size]? = some (.cells #[.int .i64 b, .slice ko kn kc, .slice so sn sc] 28 (0, 0)) := (hY.block _ (by omega) (by simp)).trans (by rw [hW0]; exact (Below.heap_alloc _ _ _ (by simp)).trans (heap_alloc_new w _)); have e1 : Y.heap[w.heap.size + 1]? = some (.cells #[.int .i64 b, .slice ko' kn kc', .slice so' sn sc'] 28 (0, 0)) := (hY.block _ (by omega) (by simp)).trans (by rw [hW0]; exact heap_two w _ _)
    simp [World.cell?, e0, e1]
  go_enter Tryd.func14, Tryd.ntmps14
  go_wp2; rw [← hW0]; clear hW0
  go_loopw [35] (fun i wr => ∃ k : Nat, k ≤ kn ∧ i = .int .i64 (k : Int) ∧ W0.grownBy wr none) (fun i _ => kn - (intOf i).toNat)
  case atStart => exact ⟨0, Nat.zero_le _, rfl, grownBy_refl _ _⟩
  case round =>
    obtain ⟨k, hk, rfl, hGr⟩ := hrel; obtain ⟨⟨a1, a2⟩, b1, b2⟩ := HW.out.2.2 wr hGr; have HG : Hid (W0.grownBy wr none) := hGr; clear hGr
    by_cases hlt : k < kn
    · obtain ⟨x, hx⟩ : ∃ x, K[k]? = some x := ⟨_, List.getElem?_eq_getElem (by rw [HN.out.1]; exact hlt)⟩
      obtain ⟨y, hy, hxy⟩ : ∃ y, K'[k]? = some y ∧ y.tell = x.tell := by
        have h1 := congrArg (fun l => l[k]?) HT.out.1; simp only [List.getElem?_map, hx, Option.map_some] at h1
        cases h2 : K'[k]? with
        | none => rw [h2] at h1; cases h1
        | some y => rw [h2] at h1; exact ⟨y, rfl, (Option.some.inj h1).symm⟩
      obtain ⟨g, hg, hE⟩ : ∃ g, ko = some ⟨g, 0, none⟩ ∧ ElAt w 32 2 g K := by
        rcases HA.out.1.kk with ⟨_, _, h0⟩ | h
        · simp only at h0; rw [h0] at hx; simp at hx
        · exact h
      obtain ⟨g', hg', hE'⟩ : ∃ g, ko' = some ⟨g, 0, none⟩ ∧ ElAt w 32 2 g K' := by
        rcases HA.out.2.kk with ⟨_, _, h0⟩ | h
        · simp only at h0; rw [h0] at hy; simp at hy
        · exact h
      subst hg hg'; have G := grownBy_trans HW.out.2.1 HG.out; have hAr : ElAt wr 32 2 g K := hE.kept (fun j hj _ => G.block j hj (by simp)); have hAr' : ElAt wr 32 2 g' K' := hE'.kept (fun j hj _ => G.block j hj (by simp)); obtain ⟨n0, n1, hhd, c0, c1, cd⟩ := hAr.get2 hx; obtain ⟨m0, m1, hhd', e0, e1, ed⟩ := hAr'.get2 hy
      have hdd : y.hd = x.hd ∧ y.d = x.d := by simpa [El.tell] using hxy
      rw [hdd.1, hhd] at hhd'; simp only [List.cons.injEq, and_true] at hhd'; obtain ⟨rfl, rfl⟩ := hhd'
      have HC : Hid (∀ Y : World, Same wr Y → Calls Tryd.prog 12 #[.agg #[.int .i64 n0, .int .i64 n1, .slice (oad x.o) x.d.length x.cp], .agg #[.int .i64 n0, .int .i64 n1, .slice (oad y.o) y.d.length y.cp]] Y fun e w' => e = .returned (.bool true) ∧ wr.grownBy w' none) := fun Y hY => by
        have GY : wr.grownBy Y none := grownBy_same (grownBy_refl _ _) hY; refine (smItem_any n0 n1 (oad x.o) x.d.length x.cp x.d n0 n1 (oad y.o) y.d.length y.cp y.d Y ((hAr.own k x hx).2.1.sl.grown0 GY) ((hAr'.own k y hy).2.1.sl.grown0 GY)).mono ?_; rintro e w' ⟨r, rfl, hr, hG⟩; obtain rfl : r = true := hr.2 ⟨rfl, rfl, hdd.2.symm⟩; exact ⟨rfl, grownBy_trans GY hG⟩
      have hkI : (k : Int) < (kn : Int) := by omega
      have hk0 : (0 : Int) ≤ (k : Int) := by omega
      clear hx hy hxy hE hE' hAr hAr' hdd hhd G; go_wp2_with fail
      go_region_held3 (fun W => (W.cell? ⟨w.heap.size, 1, none⟩ = some (.slice (some ⟨g, 0, none⟩) kn kc) ∧ W.cell? ⟨w.heap.size + 1, 1, none⟩ = some (.slice (some ⟨g', 0, none⟩) kn kc')) ∧ (W.cell? ⟨g, k * 3, none⟩ = some (.int .i64 n0) ∧ W.cell? ⟨g, k * 3 + 1, none⟩ = some (.int .i64 n1) ∧ W.cell? ⟨g, k * 3 + 2, none⟩ = some (.slice (oad x.o) x.d.length x.cp)) ∧ W.cell? ⟨g', k * 3, none⟩ = some (.int .i64 n0) ∧ W.cell? ⟨g', k * 3 + 1, none⟩ = some (.int .i64 n1) ∧ W.cell? ⟨g', k * 3 + 2, none⟩ = some (.slice (oad y.o) y.d.length y.cp)) (first | exact ⟨⟨a1, b1⟩, ⟨c0, c1, cd⟩, e0, e1, ed⟩ | exact hS3 | (go_keep; done) | fail)
        (first
          | (go_at_call 12; refine (HC.out _ (by exact ⟨rfl, rfl, rfl, rfl⟩)).mono ?_; rintro e w3 ⟨rfl, hG3⟩; have hS3 := And.intro (And.intro (((bcell hG3).1 _ _ (cell_block_lt a1)).trans a1) (((bcell hG3).1 _ _ (cell_block_lt b1)).trans b1)) (And.intro (And.intro (((bcell hG3).1 _ _ (cell_block_lt c0)).trans c0) (And.intro (((bcell hG3).1 _ _ (cell_block_lt c1)).trans c1) (((bcell hG3).1 _ _ (cell_block_lt cd)).trans cd))) (And.intro (((bcell hG3).1 _ _ (cell_block_lt e0)).trans e0) (And.intro (((bcell hG3).1 _ _ (cell_block_lt e1)).trans e1) (((bcell hG3).1 _ _ (cell_block_lt ed)).trans ed)))))
          | fail)
      have HR : Hid (W0.grownBy w3 none) := grownBy_trans HG.out hG3; clear hG3 hS3; go_wp2; go_roundw
      case rel => exact ⟨k + 1, by omega, by go_num, ⟨HR.out.os, HR.out.tape, HR.out.output, HR.out.size, HR.out.block⟩⟩
      case measure => simp [intOf]; omega
    · obtain rfl : k = kn := by omega
      go_wp2
      go_loopw [54] (fun i wr => ∃ k : Nat, k ≤ sn ∧ i = .int .i64 (k : Int) ∧ W0.grownBy wr none) (fun i _ => sn - (intOf i).toNat)
      case atStart => exact ⟨0, Nat.zero_le _, rfl, HG.out⟩
      case round =>
        clear HG a1 a2 b1 b2; obtain ⟨j, hj, rfl, hGr⟩ := hrel; obtain ⟨⟨a1, a2⟩, b1, b2⟩ := HW.out.2.2 wr hGr; have HG : Hid (W0.grownBy wr none) := hGr; clear hGr
        by_cases hlt : j < sn
        · obtain ⟨x, hx⟩ : ∃ x, S[j]? = some x := ⟨_, List.getElem?_eq_getElem (by rw [HN.out.2]; exact hlt)⟩
          obtain ⟨y, hy, hxy⟩ : ∃ y, S'[j]? = some y ∧ y.tell = x.tell := by
            have h1 := congrArg (fun l => l[j]?) HT.out.2; simp only [List.getElem?_map, hx, Option.map_some] at h1
            cases h2 : S'[j]? with
            | none => rw [h2] at h1; cases h1
            | some y => rw [h2] at h1; exact ⟨y, rfl, (Option.some.inj h1).symm⟩
          obtain ⟨g, hg, hE⟩ : ∃ g, so = some ⟨g, 0, none⟩ ∧ ElAt w 74 3 g S := by
            rcases HA.out.1.ss with ⟨_, _, h0⟩ | h
            · simp only at h0; rw [h0] at hx; simp at hx
            · exact h
          obtain ⟨g', hg', hE'⟩ : ∃ g, so' = some ⟨g, 0, none⟩ ∧ ElAt w 74 3 g S' := by
            rcases HA.out.2.ss with ⟨_, _, h0⟩ | h
            · simp only at h0; rw [h0] at hy; simp at hy
            · exact h
          subst hg hg'; have G := grownBy_trans HW.out.2.1 HG.out; have hAr : ElAt wr 74 3 g S := hE.kept (fun j hj _ => G.block j hj (by simp)); have hAr' : ElAt wr 74 3 g' S' := hE'.kept (fun j hj _ => G.block j hj (by simp)); obtain ⟨n0, n1, n2, hhd, c0, c1, c2, cd⟩ := hAr.get3 hx; obtain ⟨m0, m1, m2, hhd', e0, e1, e2, ed⟩ := hAr'.get3 hy
          have hdd : y.hd = x.hd ∧ y.d = x.d := by simpa [El.tell] using hxy
          rw [hdd.1, hhd] at hhd'; simp only [List.cons.injEq, and_true] at hhd'; obtain ⟨rfl, rfl, rfl⟩ := hhd'
          have HC : Hid (∀ Y : World, wr.grownBy Y none → Calls Tryd.prog 32 #[.slice (oad x.o) x.d.length x.cp, .slice (oad y.o) y.d.length y.cp] Y fun e w' => e = .returned (.bool true) ∧ w' = Y) := fun Y hY => by
            refine (smBytes_any (oad x.o) (oad y.o) x.d.length y.d.length x.cp y.cp x.d y.d Y ((hAr.own j x hx).2.1.sl.grown0 hY) ((hAr'.own j y hy).2.1.sl.grown0 hY)).mono ?_; rintro e w' ⟨rfl, hw⟩; exact ⟨by simp [hdd.2], hw⟩
          have hkI : (j : Int) < (sn : Int) := by omega
          have hl2 := cell_block_lt e0; have hl3 := cell_block_lt b2; clear hx hy hxy hE hE' hAr hAr' hdd hhd G
          go_upto_region 13 with fail
          have G1 := World.grownBy_alloc wr (.cells #[.int .i64 n0, .int .i64 n1, .int .i64 n2, .slice (oad x.o) x.d.length x.cp] 74) none; have e0' := ((bcell G1).1 _ _ (cell_block_lt e0)).trans e0; have e1' := ((bcell G1).1 _ _ (cell_block_lt e1)).trans e1; have e2' := ((bcell G1).1 _ _ (cell_block_lt e2)).trans e2; have ed' := ((bcell G1).1 _ _ (cell_block_lt ed)).trans ed; have b2' := ((bcell G1).1 _ _ (cell_block_lt b2)).trans b2; have HJ : Hid ((wr.alloc (.cells #[.int .i64 n0, .int .i64 n1, .int .i64 n2, .slice (oad x.o) x.d.length x.cp] 74)).heap[wr.heap.size]? = some (.cells #[.int .i64 n0, .int .i64 n1, .int .i64 n2, .slice (oad x.o) x.d.length x.cp] 74 (0, 0)) ∧ wr.grownBy (wr.alloc (.cells #[.int .i64 n0, .int .i64 n1, .int .i64 n2, .slice (oad x.o) x.d.length x.cp] 74)) none) := ⟨heap_alloc_new _ _, G1⟩; clear e0 e1 e2 ed c0 c1 c2 cd a1 a2 b1 b2 G1 hl2 hl3; generalize wr.alloc (.cells #[.int .i64 n0, .int .i64 n1, .int .i64 n2, .slice (oad x.o) x.d.length x.cp] 74) = X at *; generalize wr.heap.size = jx at *
          go_upto_region 14 with fail
          have G2 := World.grownBy_alloc X (.cells #[.int .i64 n0, .int .i64 n1, .int .i64 n2, .slice (oad y.o) y.d.length y.cp] 74) none; have h0 := (G2.block jx (Array.getElem?_eq_some_iff.1 HJ.out.1).1 (by simp)).trans HJ.out.1; have h1 : (X.alloc (.cells #[.int .i64 n0, .int .i64 n1, .int .i64 n2, .slice (oad y.o) y.d.length y.cp] 74)).heap[X.heap.size]? = _ := heap_alloc_new X _; have HK : Hid (wr.grownBy (X.alloc (.cells #[.int .i64 n0, .int .i64 n1, .int .i64 n2, .slice (oad y.o) y.d.length y.cp] 74)) none) := grownBy_trans HJ.out.2 G2; clear e0' e1' e2' ed' b2' G2; generalize X.alloc (.cells #[.int .i64 n0, .int .i64 n1, .int .i64 n2, .slice (oad y.o) y.d.length y.cp] 74) = Z at *; generalize X.heap.size = jy at *
          have u0 : Z.cell? ⟨jx, 0, none⟩ = some (.int .i64 n0) := by simp [World.cell?, h0]
          have u1 : Z.cell? ⟨jx, 1, none⟩ = some (.int .i64 n1) := by simp [World.cell?, h0]
          have u2 : Z.cell? ⟨jx, 2, none⟩ = some (.int .i64 n2) := by simp [World.cell?, h0]
          have u3 : Z.cell? ⟨jx, 3, none⟩ = some (.slice (oad x.o) x.d.length x.cp) := by simp [World.cell?, h0]
          have v0 : Z.cell? ⟨jy, 0, none⟩ = some (.int .i64 n0) := by simp [World.cell?, h1]
          have v1 : Z.cell? ⟨jy, 1, none⟩ = some (.int .i64 n1) := by simp [World.cell?, h1]
          have v2 : Z.cell? ⟨jy, 2, none⟩ = some (.int .i64 n2) := by simp [World.cell?, h1]
          have v3 : Z.cell? ⟨jy, 3, none⟩ = some (.slice (oad y.o) y.d.length y.cp) := by simp [World.cell?, h1]
          clear h0 h1 HJ; go_wp2_with fail; refine (HC.out Z HK.out).mono ?_; rintro e w4 ⟨rfl, hw4⟩; subst hw4; go_wp2; go_roundw
          case rel => exact ⟨j + 1, by omega, by go_num, grownBy_trans HG.out HK.out⟩
          case measure => simp [intOf]; omega
        · obtain rfl : j = sn := by omega
          go_wp2; go_ret; exact ⟨rfl, grownBy_trans HW.out.2.1 HG.out⟩
theorem SlB.grownZ {w w' : World} {row : Option Nat} {oa : Option Addr} {len : Nat} {zs : List Nat} (h : SlB w oa len zs) (hg : w.grownBy w' row) (hne : len ≠ 0 → ∀ b off, oa = some ⟨b, off, none⟩ → some b ≠ row) : SlB w' oa len zs := by
  by_cases hz : len = 0
  · subst hz; exact ⟨h.1, h.2.1, fun h => absurd rfl h⟩
  · exact h.grown hg (hne hz)
/-- block g is a source of draws over the bytes zs -/
def Src (w : World) (g : Nat) (zs : List Nat) : Prop :=
  ∃ (oa : Option Addr) (len cap i x : Nat), w.heap[g]? = some (.cells #[.slice oa len cap, .int .i64 (i : Int), .int .u64 (x : Int)] 58 (0, 0)) ∧ SlB w oa len zs ∧ (len ≠ 0 → ∀ b o, oa = some ⟨b, o, none⟩ → b < g) ∧ i ≤ len ∧ x < 18446744073709551616 ∧ len ≤ 1073741824
theorem Src.lt {w : World} {g : Nat} {zs : List Nat} (h : Src w g zs) : g < w.heap.size := by
  obtain ⟨_, _, _, _, _, hg, _⟩ := h; exact (Array.getElem?_eq_some_iff.1 hg).1
theorem Src.grown0 {w w' : World} {g : Nat} {zs : List Nat} (h : Src w g zs) (hg : w.grownBy w' none) : Src w' g zs := by
  have hlt := h.lt; obtain ⟨oa, len, cap, i, x, hb, hs, hn, h1, h2, h3⟩ := h; exact ⟨oa, len, cap, i, x, (hg.block g hlt (by simp)).trans hb, hs.grown0 hg, hn, h1, h2, h3⟩
theorem Src.grown {w w' : World} {row : Option Nat} {g : Nat} {zs : List Nat} (h : Src w g zs) (hg : w.grownBy w' row) (hr : ∀ r, row = some r → g < r) : Src w' g zs := by
  have hlt := h.lt; obtain ⟨oa, len, cap, i, x, hb, hs, hn, h1, h2, h3⟩ := h; exact ⟨oa, len, cap, i, x, (hg.block g hlt (fun e => by have := hr g e.symm; omega)).trans hb, hs.grownZ hg (fun hz b o e e2 => by have := hr b e2.symm; have := hn hz b o e; omega), hn, h1, h2, h3⟩
set_option maxHeartbeats 400000 in
theorem l1Draw_any (oa : Option Addr) (len cap : Nat) (zs : List Nat) (w : World) (hsl : SlB w oa len zs) (hm : len ≤ 1073741824) :
    Calls Tryd.prog 5 #[.slice oa len cap] w fun e w' => ∃ g, e = .returned (.pointer (some ⟨g, 0, none⟩)) ∧ w.heap.size ≤ g ∧ Src w' g zs ∧ w.grownBy w' none := by
  have HS : Hid (SlB w oa len zs) := hsl
  have HI : Hid (len ≠ 0 → ∀ b o, oa = some ⟨b, o, none⟩ → b < w.heap.size) := by
    intro hz b o e; obtain ⟨b', o', e', hc⟩ := hsl.2.2 hz; rw [e] at e'
    obtain ⟨rfl, rfl⟩ : b = b' ∧ o = o' := by simpa using e'
    exact cell_block_lt (hc 0 (by omega))
  clear hsl
  go_enter Tryd.func5, Tryd.ntmps5
  go_wp2; go_ret; have G := World.grownBy_alloc w (Obj.cells #[Value.slice oa len cap, Value.int IntKind.i64 0, Value.int IntKind.u64 (88172645463325252 + ↑len)] 58) none; exact ⟨w.heap.size, rfl, Nat.le_refl _, ⟨oa, len, cap, 0, 88172645463325252 + len, (by show (w.heap.push _)[w.heap.size]? = _; simp), HS.out.grown0 G, HI.out, by omega, by omega, hm⟩, G⟩
theorem u64_wrap (z : Int) : ∃ y : Nat, IntKind.u64.wrap z = (y : Int) ∧ y < 18446744073709551616 := by
  have h : IntKind.u64.wrap z = z % 18446744073709551616 := by simp [IntKind.wrap, IntKind.signed, IntKind.bits]
  exact ⟨(z % 18446744073709551616).toNat, by rw [h]; omega, by omega⟩
/-- the draw's number -/
theorem draw_num (y : Nat) (k : Int) (hy : y < 18446744073709551616) (hk : 1 < k) (hk2 : k < 9223372036854775808) : ∃ r : Nat, wrap64 (((y : Int) / 8589934592).tmod k) = (r : Int) ∧ (r : Int) < k := by
  have h1 : (((y : Int) / 8589934592).tmod k) = ((y : Int) / 8589934592) % k := Int.tmod_eq_emod_of_nonneg (by omega); have h2 := Int.emod_nonneg ((y : Int) / 8589934592) (show k ≠ 0 by omega); have h3 := Int.emod_lt_of_pos ((y : Int) / 8589934592) (show 0 < k by omega); rw [h1]; generalize ((y : Int) / 8589934592) % k = z at *; refine ⟨z.toNat, ?_, by omega⟩; have : wrap64 z = z := IntWalk.wrap64_in z (by omega); rw [this]
  omega
theorem src_one {w : World} {g : Nat} {zs : List Nat} {oa : Option Addr} {len cap i x : Nat} (hb : w.heap[g]? = some (.cells #[.slice oa len cap, .int .i64 (i : Int), .int .u64 (x : Int)] 58 (0, 0))) (hs : SlB w oa len zs) (hn : len ≠ 0 → ∀ b o, oa = some ⟨b, o, none⟩ → b < g) (hi : i ≤ len) (hm : len ≤ 1073741824) (n y : Nat) (hy : y < 18446744073709551616) :
    Src ((w.drewN n).setCell ⟨g, 2, none⟩ (.int .u64 (y : Int))) g zs ∧ w.grownBy ((w.drewN n).setCell ⟨g, 2, none⟩ (.int .u64 (y : Int))) (some g) := by
  have G : w.grownBy ((w.drewN n).setCell ⟨g, 2, none⟩ (.int .u64 (y : Int))) (some g) := grownBy_setCell ⟨rfl, rfl, rfl, Nat.le_refl _, fun _ _ _ => rfl⟩; refine ⟨⟨oa, len, cap, i, y, ?_, hs.grownZ G (fun hz b o h => by have := hn hz b o h; simp only [ne_eq, Option.some.injEq]; omega), hn, hi, hy, hm⟩, G⟩; rw [heap_setCell_same (w.drewN n) g 2 _ _ _ hb]
  rfl
theorem src_two {w : World} {g : Nat} {zs : List Nat} {oa : Option Addr} {len cap i x : Nat} (hb : w.heap[g]? = some (.cells #[.slice oa len cap, .int .i64 (i : Int), .int .u64 (x : Int)] 58 (0, 0))) (hs : SlB w oa len zs) (hn : len ≠ 0 → ∀ b o, oa = some ⟨b, o, none⟩ → b < g) (hi : i < len) (hm : len ≤ 1073741824) (n y : Nat) (hy : y < 18446744073709551616) :
    Src (((w.drewN n).setCell ⟨g, 1, none⟩ (.int .i64 ((i : Int) + 1))).setCell ⟨g, 2, none⟩ (.int .u64 (y : Int))) g zs ∧ w.grownBy (((w.drewN n).setCell ⟨g, 1, none⟩ (.int .i64 ((i : Int) + 1))).setCell ⟨g, 2, none⟩ (.int .u64 (y : Int))) (some g) := by
  have G : w.grownBy (((w.drewN n).setCell ⟨g, 1, none⟩ (.int .i64 ((i : Int) + 1))).setCell ⟨g, 2, none⟩ (.int .u64 (y : Int))) (some g) := grownBy_setCell (grownBy_setCell ⟨rfl, rfl, rfl, Nat.le_refl _, fun _ _ _ => rfl⟩); refine ⟨⟨oa, len, cap, i + 1, y, ?_, hs.grownZ G (fun hz b o h => by have := hn hz b o h; simp only [ne_eq, Option.some.injEq]; omega), hn, hi, hy, hm⟩, G⟩; have h1 := heap_setCell_same (w.drewN n) g 1 _ _ (.int .i64 ((i : Int) + 1)) hb; rw [heap_setCell_same _ g 2 _ _ _ h1]
  rfl
set_option maxHeartbeats 1000000 in
theorem drawN_any (g : Nat) (k : Int) (zs : List Nat) (w : World) (hs : Src w g zs) (hk : k < 9223372036854775808) (hk0 : -9223372036854775808 ≤ k) :
    Calls Tryd.prog 6 #[.pointer (some ⟨g, 0, none⟩), .int .i64 k] w fun e w' => ∃ r : Nat, e = .returned (.int .i64 (r : Int)) ∧ (k ≤ 1 → r = 0) ∧ (1 < k → (r : Int) < k) ∧ Src w' g zs ∧ w.grownBy w' (some g) := by
  obtain ⟨oa, len, cap, i, x, hb, hs, hn, h1, h2, h3⟩ := hs
  have c0 : w.cell? ⟨g, 0, none⟩ = some (.slice oa len cap) := by simp [World.cell?, hb]
  have c1 : w.cell? ⟨g, 1, none⟩ = some (.int .i64 (i : Int)) := by simp [World.cell?, hb]
  have c2 : w.cell? ⟨g, 2, none⟩ = some (.int .u64 (x : Int)) := by simp [World.cell?, hb]
  have f1 : w.frozen? ⟨g, 1, none⟩ = false := by simp [World.frozen?, hb]
  have f2 : w.frozen? ⟨g, 2, none⟩ = false := by simp [World.frozen?, hb]
  have H1 : Hid (∀ n y : Nat, y < 18446744073709551616 → _ ∧ _) := fun n y hy => src_one hb hs hn h1 h3 n y hy
  have H2 : Hid (i < len → ∀ n y : Nat, y < 18446744073709551616 → _ ∧ _) := fun hi n y hy => src_two hb hs hn hi h3 n y hy
  have HS : Hid (SlB w oa len zs) := hs; have HN : Hid (len ≠ 0 → ∀ b o, oa = some ⟨b, o, none⟩ → b < g) := hn
  have HQ : Hid (∀ y : Nat, y < 18446744073709551616 → 1 < k → _) := fun y hy h => draw_num y k hy h hk
  clear hs hb hn
  by_cases hlt : i < len
  · obtain ⟨b, off, rfl, hc⟩ := HS.out.2.2 (by omega); have hck := hc i hlt; obtain ⟨c, hce⟩ : ∃ c, c = zs.getD i 0 := ⟨_, rfl⟩
    have hc256 : c < 256 := by
      rw [hce, List.getD_eq_getElem?_getD]; have hl := HS.out.1; rw [List.getElem?_eq_getElem (by omega)]; exact HS.out.2.1 _ (List.getElem_mem _)
    rw [← hce] at hck; have hbg : b ≠ g := Nat.ne_of_lt (HN.out (by omega) b off rfl); clear hc hce
    by_cases hk1 : k ≤ 1
    · go_enter Tryd.func6, Tryd.ntmps6
      go_wp2; go_quiet (fail); go_wp2; go_quiet (fail); go_wp2; go_ret; obtain ⟨y, hy, hy2⟩ := u64_wrap (IntKind.u64.wrap (IntKind.u64.wrap (↑x + (↑c + 1)) * 6364136223846793005) + 1442695040888963407); rw [hy]; exact ⟨0, rfl, fun _ => rfl, fun h => by omega, H2.out hlt _ y hy2⟩
    · go_enter Tryd.func6, Tryd.ntmps6
      go_wp2; go_quiet (fail); go_wp2; go_quiet (fail); go_wp2; go_ret; obtain ⟨y, hy, hy2⟩ := u64_wrap (IntKind.u64.wrap (IntKind.u64.wrap (↑x + (↑c + 1)) * 6364136223846793005) + 1442695040888963407); rw [hy]; obtain ⟨r, hr, hr2⟩ := HQ.out y hy2 (by omega); rw [hr]; exact ⟨r, rfl, fun h => by omega, fun _ => hr2, H2.out hlt _ y hy2⟩
  · by_cases hk1 : k ≤ 1
    · go_enter Tryd.func6, Tryd.ntmps6
      go_wp2; go_quiet (fail); go_wp2; go_ret; obtain ⟨y, hy, hy2⟩ := u64_wrap (IntKind.u64.wrap (↑x * 6364136223846793005) + 1442695040888963407); rw [hy]; exact ⟨0, rfl, fun _ => rfl, fun h => by omega, H1.out _ y hy2⟩
    · go_enter Tryd.func6, Tryd.ntmps6
      go_wp2; go_quiet (fail); go_wp2; go_ret; obtain ⟨y, hy, hy2⟩ := u64_wrap (IntKind.u64.wrap (↑x * 6364136223846793005) + 1442695040888963407); rw [hy]; obtain ⟨r, hr, hr2⟩ := HQ.out y hy2 (by omega); rw [hr]; exact ⟨r, rfl, fun h => by omega, fun _ => hr2, H1.out _ y hy2⟩
set_option maxHeartbeats 400000 in
theorem l1Size_any (oa : Option Addr) (len cap m : Nat) (w : World) (hl : len ≤ 1073741824) (hm : m ≤ 1073741824) :
    Calls Tryd.prog 7 #[.slice oa len cap, .int .i64 (m : Int)] w fun e w' => ∃ r : Nat, e = .returned (.int .i64 (r : Int)) ∧ r ≤ m ∧ w' = w := by
  by_cases h : m < 2 + len / 2
  · have h' : (m : Int) < 2 + (len : Int) / 2 := by omega
    go_enter Tryd.func7, Tryd.ntmps7
    go_wp2; go_ret; exact ⟨m, rfl, Nat.le_refl _, rfl⟩
  · have h' : ¬ ((m : Int) < 2 + (len : Int) / 2) := by omega
    go_enter Tryd.func7, Tryd.ntmps7
    go_wp2; go_ret; exact ⟨2 + len / 2, by simp, by omega, rfl⟩
theorem one_sl (w : World) (r : Nat) (hr : r < 256) (e : TypeId) : SlB (w.alloc (.cells #[.int .u8 (r : Int)] e)) (some ⟨w.heap.size, 0, none⟩) 1 [r] := by
  refine ⟨rfl, by simpa using hr, fun _ => ⟨w.heap.size, 0, rfl, fun i hi => ?_⟩⟩
  obtain rfl : i = 0 := by omega
  simp
set_option maxHeartbeats 1000000 in
theorem drawBytes_any (s n : Nat) (zs : List Nat) (w : World) (hs : Src w s zs) (hn : n ≤ 1000000) :
    Calls Tryd.prog 26 #[.pointer (some ⟨s, 0, none⟩), .int .i64 (n : Int)] w fun e w' => ∃ (g cap : Nat) (xs : List Nat), e = .returned (.slice (some ⟨g, 0, none⟩) n cap) ∧ (∀ z ∈ xs, z < 256) ∧ w'.ownsRow w.heap.size 5 1 (.slice (some ⟨g, 0, none⟩) n cap) n (xs.map bv) ∧ Src w' s zs ∧ w.grownBy w' (some s) := by
  obtain ⟨i0, TB⟩ := byteT; have HSw : Hid (s < w.heap.size) := hs.lt; have HS0 : Hid (Src w s zs) := hs; clear hs
  go_enter Tryd.func26, Tryd.ntmps26
  go_wp2
  go_loopw [5, 6] (fun o i wr => ∃ k : Nat, k ≤ n ∧ i = .int .i64 k ∧ (∃ (g cap : Nat) (xs : List Nat), o = .slice (some ⟨g, 0, none⟩) k cap ∧ (∀ z ∈ xs, z < 256) ∧ wr.ownsRow w.heap.size 5 1 (.slice (some ⟨g, 0, none⟩) k cap) k (xs.map bv)) ∧ Src wr s zs ∧ w.grownBy wr (some s)) (fun _ i _ => n - (intOf i).toNat)
  case atStart => exact ⟨0, Nat.zero_le _, rfl, ⟨w.heap.size, 0, [], rfl, by simp, World.ownsRow_made w #[] 0 (Nat.le_refl _) (Nat.zero_le _) rfl⟩, HS0.out.grown0 (World.grownBy_alloc _ _ _), World.grownBy_alloc _ _ _⟩
  case round =>
    obtain ⟨k, hk, rfl, ⟨g, cap, xs, rfl, hxs, hown⟩, hsrc, hG⟩ := hrel
    by_cases hlt : k < n
    · have HX : Hid (∀ z ∈ xs, z < 256) := hxs; have HG : Hid (w.grownBy wr (some s)) := hG; have hsz := hG.size; have HR : Hid (w.heap.size ≤ g ∧ g < wr.heap.size) := hown.lt g rfl; have HO : Hid (wr.ownsRow w.heap.size 5 1 (.slice (some ⟨g, 0, none⟩) k cap) k (xs.map bv)) := hown
      have HN : Hid (∀ k : Int, k < 9223372036854775808 → -9223372036854775808 ≤ k → _) := fun k h h' => drawN_any s k zs wr hsrc h h'
      clear hxs hG hown hsrc; go_wp2_with fail; refine (HN.out 256 (by decide) (by decide)).mono ?_; rintro e w1 ⟨r, rfl, -, hr, hs1, hg1⟩
      have hr' : r < 256 := by have := hr (by decide); omega
      clear hr HN; have hz1 := hg1.size; have HO1 : Hid (w1.ownsRow w.heap.size 5 1 (.slice (some ⟨g, 0, none⟩) k cap) k (xs.map bv)) := World.ownsRow.kept HO.out hg1 (.inr <| by have := HR.out; have := HSw.out; simp only [Value.ownBlock, ne_eq, Option.some.injEq]; omega); have HS1 : Hid (Src w1 s zs) := hs1; have HG1 : Hid (w.grownBy w1 (some s)) := grownBy_trans HG.out hg1; clear hs1 hg1 HO HG
      go_wp2_with (at_builtin; refine wpList_append_b (by rfl) (.tmp 13) (.tmp 17) TB (by rfl) (base := w.heap.size) (g := g) (n := k) (cap := cap) (xs := xs) (by rfl) (by exact World.ownsRow.alloc HO1.out _) (oa := some ⟨w1.heap.size, 0, none⟩) (m := 1) (c := 1) (zs := [r]) (by rfl) (by exact one_sl w1 r hr' _) (by omega) (by simp; omega) ?_; intro g' cap' w2 hown' hgr hat hsz2)
      have R : Hid (w2.ownsRow w.heap.size 5 1 (.slice (some ⟨g', 0, none⟩) (k + 1) cap') (k + 1) ((xs ++ [r]).map bv) ∧ Src w2 s zs ∧ w.grownBy w2 (some s)) := by
        have hB := HR.out; have hS := HSw.out; refine ⟨hown'.out, (HS1.out.grown0 (World.grownBy_alloc _ _ _)).grown hgr.out (fun r' e => by cases e; omega), ?_⟩; refine ⟨hgr.out.os.trans HG1.out.os, hgr.out.tape.trans HG1.out.tape, hgr.out.output.trans HG1.out.output, ?_, fun j hj hne => ?_⟩
        · have := hgr.out.size; have := HG1.out.size; simp at *; omega
        · have h1 := hgr.out.block j (by simp; omega) (by simp only [ne_eq, Option.some.injEq]; omega); rw [h1, (World.grownBy_alloc w1 _ none).block j (by omega) (by simp)]; exact HG1.out.block j hj hne
      have HX2 : Hid (∀ z ∈ xs ++ [r], z < 256) := by
        intro z hz
        rcases List.mem_append.1 hz with h | h
        · exact HX.out z h
        · obtain rfl : z = r := by simpa using h
          exact hr'
      clear hown' hgr hat HO1 HS1 HG1 HX; go_wp2; go_roundw
      case rel => exact ⟨k + 1, by omega, by go_num, ⟨g', cap', xs ++ [r], rfl, HX2.out, R.out.1⟩, R.out.2.1, R.out.2.2⟩
      case measure => simp [intOf]; omega
    · obtain rfl : k = n := by omega
      have R : Hid (_ ∧ _ ∧ _ ∧ _) := ⟨hxs, hown, hsrc, hG⟩; clear hxs hown hsrc hG; go_wp2; go_ret; exact ⟨g, cap, xs, rfl, R.out⟩
set_option maxHeartbeats 1000000 in
/-- the laws' copy of bytes: new memory, never nil -/
theorem cp_any (oa : Option Addr) (len cap : Nat) (zs : List Nat) (w : World) (hsl : SlB w oa len zs) (hm : len ≤ 1073741824) :
    Calls Tryd.prog 10 #[.slice oa len cap] w fun e w' => ∃ g cp, e = .returned (.slice (some ⟨g, 0, none⟩) len cp) ∧ w'.ownsRow w.heap.size 5 1 (.slice (some ⟨g, 0, none⟩) len cp) len (zs.map bv) ∧ w.grownBy w' none := by
  obtain ⟨i0, TB⟩ := byteT; have HS : Hid (SlB w oa len zs) := hsl; clear hsl
  go_enter Tryd.func10, Tryd.ntmps10
  go_wp2_with (at_builtin; refine wpList_append_b (by rfl) (.tmp 3) (.tmp 4) TB (by rfl) (base := w.heap.size) (g := w.heap.size) (n := 0) (cap := 0) (xs := []) (by rfl) (by exact World.ownsRow_made w #[] 0 (Nat.le_refl _) (Nat.zero_le _) rfl) (oa := oa) (m := len) (c := cap) (zs := zs) (by rfl) (by exact HS.out.grown0 (World.grownBy_alloc _ _ _)) (by omega) (by simp) ?_; intro g' cap' w1 hown' hgr hat hsz1)
  go_ret; have C1 : w.grownBy w1 none := grown_next hgr.out (World.grownBy_alloc w _ _) ⟨rfl, rfl, rfl, rfl⟩ (Nat.le_refl _); have h1 := hown'.out; rw [Nat.zero_add, List.nil_append] at h1; exact ⟨g', cap', rfl, h1, C1⟩
end Go.Proofs.YtdajcpcajdhplaaDoor
