/-
  Items given one after the other, and the sessions that know them.
-/
import Derived.Test.YtdajcpcajdhplaaDoorAp8
import Derived.Test.YtdajcpcajdhplaaDoorAp6
import Derived.Test.YtdajcpcajdhplaaDoorElPut3
namespace Go.Proofs.YtdajcpcajdhplaaDoor

theorem risesE_of_mono (S : List El) : ∀ b, (∀ (i : Nat) (x : El), S[i]? = some x → b < x.c) → (∀ (i j : Nat) (x y : El), i < j → S[i]? = some x → S[j]? = some y → x.c < y.c) → risesE b S := by
  induction S with
  | nil => intro b _ _; trivial
  | cons y S ih =>
    intro b h1 h2
    refine ⟨h1 0 y rfl, ih y.c (fun i x hx => h2 0 (i + 1) y x (by omega) rfl (by simpa using hx)) (fun i j x z hij hx hz => h2 (i + 1) (j + 1) x z (by omega) (by simpa using hx) (by simpa using hz))⟩
/-- the sessions know the items given -/
structure Kn (G S : List El) : Prop where
  rise : risesE 0 S
  okG : ∀ x ∈ G, okE x
  okS : ∀ y ∈ S, okE y
  at_ : ∀ y ∈ S, ∃ (i : Nat) (x : El), y.i = (i : Int) ∧ G[i]? = some x ∧ x.c = y.c ∧ x.q = y.q ∧ x.d = y.d
  top : ∀ y ∈ S, ∀ (j : Nat) (x : El), G[j]? = some x → x.c = y.c → x.q ≤ y.q ∧ (x.q = y.q → (j : Int) = y.i)
  has : ∀ x ∈ G, ∃ y ∈ S, y.c = x.c
theorem Kn.nil : Kn [] [] := ⟨trivial, by simp, by simp, by simp, by simp, by simp⟩
theorem okE_tell {x y : El} (h : x.tell = y.tell) (hx : okE x) : okE y := by
  obtain ⟨h1, h2, h3, h4⟩ := tell_eq h
  unfold okE at *
  rw [← h1, ← h2, ← h4]
  exact hx
theorem Kn.tell {G S S' : List El} (h : Kn G S) (hS : S'.map El.tell = S.map El.tell) : Kn G S' := by
  have hm : ∀ y ∈ S', ∃ x ∈ S, x.tell = y.tell := fun y hy => by
    obtain ⟨i, hi⟩ := List.getElem?_of_mem hy
    obtain ⟨x, hx, e⟩ := tell_get hS hi
    exact ⟨x, List.mem_of_getElem? hx, e⟩
  refine ⟨risesE_tell S' S 0 hS h.rise, h.okG, fun y hy => ?_, fun y hy => ?_, fun y hy j x hx hc => ?_, fun x hx => ?_⟩
  · obtain ⟨x, hx, e⟩ := hm y hy
    exact okE_tell e (h.okS x hx)
  · obtain ⟨x, hx, e⟩ := hm y hy
    obtain ⟨e1, e2, e3, e4⟩ := tell_eq e
    obtain ⟨i, z, h1, h2, h3, h4, h5⟩ := h.at_ x hx
    exact ⟨i, z, by rw [← e3]; exact h1, h2, by rw [h3, e1], by rw [h4, e2], by rw [h5, e4]⟩
  · obtain ⟨z, hz, e⟩ := hm y hy
    obtain ⟨e1, e2, e3, e4⟩ := tell_eq e
    rw [← e2, ← e3]
    exact h.top z hz j x hx (by rw [e1]; exact hc)
  · obtain ⟨y, hy, hc⟩ := h.has x hx
    obtain ⟨i, hi⟩ := List.getElem?_of_mem hy
    obtain ⟨z, hz, e⟩ := tell_get hS.symm hi
    exact ⟨z, List.mem_of_getElem? hz, by rw [(tell_eq e).1]; exact hc⟩
theorem Kn.valid {G S : List El} (h : Kn G S) {K : List El} (hK : K.map El.tell = G.map El.tell) (hn : G.length ≤ 1000000) : ValidV 0 K S := by
  have hl : K.length = G.length := by have := congrArg List.length hK; simpa using this
  refine ⟨by omega, by omega, by omega, fun x hx => ?_, fun y hy => ⟨h.okS y hy, ?_⟩, h.rise⟩
  · obtain ⟨i, hi⟩ := List.getElem?_of_mem hx
    obtain ⟨z, hz, e⟩ := tell_get hK hi
    exact okE_tell e (h.okG z (List.mem_of_getElem? hz))
  · obtain ⟨i, x, h1, h2, _⟩ := h.at_ y hy
    have := (List.getElem?_eq_some_iff.1 h2).1
    omega
/-- an item more, that no older one outdoes -/
theorem Kn.more {G S S' : List El} {x z : El} (h : Kn G S) (hx : okE x) (hz : z.c = x.c ∧ z.q = x.q ∧ z.d = x.d ∧ z.i = (G.length : Int)) (hno : ∀ y ∈ G, y.c = x.c → y.q < x.q)
    (hr : risesE 0 S') (hm : ∀ y ∈ S', y = z ∨ (y ∈ S ∧ y.c ≠ x.c)) (hzm : z ∈ S') (hk : ∀ y ∈ S, y.c ≠ x.c → y ∈ S') : Kn (G ++ [x]) S' := by
  obtain ⟨z1, z2, z3, z4⟩ := hz
  have hget : ∀ (j : Nat) (y : El), (G ++ [x])[j]? = some y → (G[j]? = some y) ∨ (j = G.length ∧ y = x) := fun j y hy => by
    rcases Nat.lt_or_ge j G.length with hj | hj
    · rw [List.getElem?_append_left hj] at hy; exact .inl hy
    · rw [List.getElem?_append_right hj] at hy
      have : j - G.length < 1 := by have := (List.getElem?_eq_some_iff.1 hy).1; simpa using this
      have e : j - G.length = 0 := by omega
      rw [e] at hy
      exact .inr ⟨by omega, (by simpa using hy.symm)⟩
  have hok : okE z := by unfold okE at *; rw [z1, z2, z3]; exact hx
  refine ⟨hr, fun y hy => ?_, fun y hy => ?_, fun y hy => ?_, fun y hy j w hw hc => ?_, fun y hy => ?_⟩
  · rcases List.mem_append.1 hy with hy | hy
    · exact h.okG y hy
    · obtain rfl : y = x := by simpa using hy
      exact hx
  · rcases hm y hy with rfl | ⟨hy, _⟩
    · exact hok
    · exact h.okS y hy
  · rcases hm y hy with rfl | ⟨hy, _⟩
    · exact ⟨G.length, x, z4, by simp, z1.symm, z2.symm, z3.symm⟩
    · obtain ⟨i, w, h1, h2, h3⟩ := h.at_ y hy
      exact ⟨i, w, h1, by rw [List.getElem?_append_left (List.getElem?_eq_some_iff.1 h2).1]; exact h2, h3⟩
  · rcases hm y hy with rfl | ⟨hy, hne⟩
    · rcases hget j w hw with hw | ⟨rfl, rfl⟩
      · have := hno w (List.mem_of_getElem? hw) (by rw [hc, z1])
        rw [z2]
        exact ⟨by omega, fun e => by omega⟩
      · rw [z2]
        exact ⟨Int.le_refl _, fun _ => z4.symm⟩
    · rcases hget j w hw with hw | ⟨rfl, rfl⟩
      · exact h.top y hy j w hw hc
      · exact absurd hc.symm hne
  · rcases List.mem_append.1 hy with hy | hy
    · by_cases hc : y.c = x.c
      · exact ⟨z, hzm, by rw [z1, hc]⟩
      · obtain ⟨w, hw, he⟩ := h.has y hy
        exact ⟨w, hk w hw (by rw [he]; exact hc), he⟩
    · obtain rfl : y = x := by simpa using hy
      exact ⟨z, hzm, z1⟩
/-- what the law tells of a drawn item: stale, and its place -/
def same3 (x y : El) : Prop := x.c = y.c ∧ x.q = y.q ∧ x.d = y.d
theorem judge {G K S : List El} {x : El} {zs : List Nat} {pl c : Int} {KK SS : List (List Int × List Nat)} {st : Bool} {p1 p2 : Nat} (h : Kn G S) (hK : K.map El.tell = G.map El.tell) (hn : G.length < 1000000) (hx : okE x) (hxl : x.hd = [x.c, x.q]) (hd : decGood zs) (h1 : (decCl zs : Int) = x.c) (h2 : (decSq zs : Int) = x.q) (h3 : zs.drop 8 = x.d)
    (ha : ApSays 0 K S zs pl c KK SS) (hst : st = true ↔ ∃ (j : Nat) (y : El), G[j]? = some y ∧ y.c = x.c ∧ x.q ≤ y.q)
    (hp1 : (p1 = G.length ∧ ∀ (j : Nat) (y : El), G[j]? = some y → ¬ same3 x y) ∨ ∃ y, G[p1]? = some y ∧ same3 x y)
    (hp2 : (p2 = G.length ∧ ∃ (j : Nat) (y : El), G[j]? = some y ∧ y.c = x.c ∧ x.q < y.q) ∨ (p2 = p1 ∧ ∀ (j : Nat) (y : El), G[j]? = some y → y.c = x.c → ¬ x.q < y.q)) :
    (c = 4 ∧ pl = 0 ∧ st = true ∧ p2 = G.length ∧ KK = G.map El.tell ∧ SS = S.map El.tell) ∨ (c = 0 ∧ pl = (p2 : Int) ∧ st = true ∧ p2 ≠ G.length ∧ KK = G.map El.tell ∧ SS = S.map El.tell) ∨
      (c = 0 ∧ pl = (G.length : Int) ∧ st = false ∧ p2 = G.length ∧ KK = (G ++ [x]).map El.tell ∧ ∃ S', SS = S'.map El.tell ∧ Kn (G ++ [x]) S') := by
  have hl : K.length = G.length := by have := congrArg List.length hK; simpa using this
  have hxt : x.tell = ([(decCl zs : Int), (decSq zs : Int)], zs.drop 8) := by rw [h1, h2, h3]; simp [El.tell, hxl]
  -- no item outdoes x: it is kept
  have kept : ∀ {SS}, (∀ y ∈ G, y.c = x.c → y.q < x.q) → (∃ S', SS = S'.map El.tell ∧ Kn (G ++ [x]) S') → st = false ∧ p2 = G.length := fun {SS} hno _ => by
    constructor
    · cases hs : st with
      | false => rfl
      | true =>
        obtain ⟨j, y, hy, hc, hq⟩ := hst.1 hs
        have := hno y (List.mem_of_getElem? hy) hc
        omega
    · rcases hp2 with ⟨e, _⟩ | ⟨e, _⟩
      · exact e
      · rw [e]
        rcases hp1 with ⟨e1, _⟩ | ⟨y, hy, hs⟩
        · exact e1
        · have := hno y (List.mem_of_getElem? hy) hs.1.symm
          have := hs.2.1
          omega
  cases ha using ApSays.elim with
  | empty h0 => have := hd.1; rw [h0] at this; simp at this
  | bad h0 hd' => exact absurd hd hd'
  | again _ k y hk hy hc hq hs =>
    have hym := List.mem_of_getElem? hy
    obtain ⟨i, w, e1, e2, e3, e4, e5⟩ := h.at_ y hym
    have hqe : x.q = y.q := by have := hs.1; rw [h2] at this; exact this
    have hde : x.d = y.d := by have := hs.2; rw [h3] at this; exact this
    have hce : y.c = x.c := by rw [hc, h1]
    have hsm : same3 x w := ⟨by rw [e3, hce], by rw [e4, hqe], by rw [e5, hde]⟩
    have hil := (List.getElem?_eq_some_iff.1 e2).1
    have hst' : st = true := hst.2 ⟨i, w, e2, by rw [e3, hce], by rw [e4, hqe]; exact Int.le_refl _⟩
    have hp2' : p2 = i := by
      rcases hp2 with ⟨_, j, u, hu, huc, huq⟩ | ⟨e, _⟩
      · have := (h.top y hym j u hu (by rw [huc, hce])).1
        omega
      · rw [e]
        rcases hp1 with ⟨_, hno⟩ | ⟨u, hu, hus⟩
        · exact absurd hsm (hno i w e2)
        · have := (h.top y hym p1 u hu (by rw [← hus.1, hce])).2 (by rw [← hus.2.1, hqe])
          omega
    exact .inr (.inl ⟨rfl, by rw [hp2', e1], hst', by omega, hK, rfl⟩)
  | exist _ k y hk hy hc hq hs =>
    have hym := List.mem_of_getElem? hy
    obtain ⟨i, w, e1, e2, e3, e4, e5⟩ := h.at_ y hym
    have hce : y.c = x.c := by rw [hc, h1]
    rw [h2] at hq
    have hst' : st = true := hst.2 ⟨i, w, e2, by rw [e3, hce], by rw [e4]; exact hq⟩
    refine .inl ⟨rfl, rfl, hst', ?_, hK, rfl⟩
    rcases hp2 with ⟨e, _⟩ | ⟨e, hng⟩
    · exact e
    · rw [e]
      rcases hp1 with ⟨e1, _⟩ | ⟨u, hu, hus⟩
      · exact e1
      · exfalso
        have ht := h.top y hym p1 u hu (by rw [← hus.1, hce])
        have hnq := hng i w e2 (by rw [e3, hce])
        have hqq : x.q = y.q := by rw [e4] at hnq; omega
        have hpi := ht.2 (by rw [← hus.2.1, hqq])
        have hpe : p1 = i := by omega
        rw [hpe, e2] at hu
        obtain rfl := Option.some.inj hu
        exact hs ⟨by rw [h2]; exact hqq, by rw [h3, hus.2.2]; exact e5⟩
  | full _ k hk hq hf => omega
  | old _ k y hk hy hc hq hf =>
    have hym := List.mem_of_getElem? hy
    have hkl := (List.getElem?_eq_some_iff.1 hy).1
    have hce : y.c = x.c := by rw [hc, h1]
    rw [h2] at hq
    have hno : ∀ u ∈ G, u.c = x.c → u.q < x.q := fun u hu huc => by
      obtain ⟨j, hj⟩ := List.getElem?_of_mem hu
      have := (h.top y hym j u hj (by rw [huc, hce])).1
      omega
    obtain ⟨z, hz⟩ : ∃ z : El, z = ⟨[(decCl zs : Int), (decSq zs : Int), 0 + (K.length : Int)], zs.drop 8, none, 0⟩ := ⟨_, rfl⟩
    have hzc : z.c = x.c := by rw [hz, ← h1]; rfl
    have hKn : Kn (G ++ [x]) (S.set k z) := by
      refine h.more hx ⟨hzc, by rw [hz, ← h2]; rfl, by rw [hz, ← h3], by rw [hz]; show 0 + (K.length : Int) = _; omega⟩ hno ?_ ?_ ?_ ?_
      · have hg : ∀ (i : Nat) (u : El), (S.set k z)[i]? = some u → ∃ u', S[i]? = some u' ∧ u'.c = u.c := fun i u hu => by
          by_cases e : i = k
          · subst e; rw [List.getElem?_set_self hkl] at hu; obtain rfl := Option.some.inj hu; exact ⟨y, hy, by rw [hce, hzc]⟩
          · rw [List.getElem?_set_ne (Ne.symm e)] at hu; exact ⟨u, hu, rfl⟩
        refine risesE_of_mono _ 0 (fun i u hu => ?_) (fun i j u v hij hu hv => ?_)
        · obtain ⟨u', hu', e⟩ := hg i u hu
          rw [← e]; exact risesE_lt S 0 h.rise i u' hu'
        · obtain ⟨u', hu', e⟩ := hg i u hu
          obtain ⟨v', hv', e'⟩ := hg j v hv
          rw [← e, ← e']; exact risesE_mono S 0 h.rise i j u' v' hij hu' hv'
      · intro u hu
        obtain ⟨i, hi⟩ := List.getElem?_of_mem hu
        by_cases e : i = k
        · subst e; rw [List.getElem?_set_self hkl] at hi; exact .inl (Option.some.inj hi).symm
        · rw [List.getElem?_set_ne (Ne.symm e)] at hi
          refine .inr ⟨List.mem_of_getElem? hi, fun hcc => e ?_⟩
          rcases Nat.lt_trichotomy i k with hlt | hlt | hlt
          · have := risesE_mono S 0 h.rise i k u y hlt hi hy; omega
          · exact hlt
          · have := risesE_mono S 0 h.rise k i y u hlt hy hi; omega
      · exact List.mem_iff_getElem?.2 ⟨k, List.getElem?_set_self hkl⟩
      · intro u hu huc
        obtain ⟨i, hi⟩ := List.getElem?_of_mem hu
        have e : i ≠ k := fun e => huc (by subst e; rw [hy] at hi; obtain rfl := Option.some.inj hi; exact hce)
        exact List.mem_iff_getElem?.2 ⟨i, by rw [List.getElem?_set_ne (Ne.symm e)]; exact hi⟩
    have hSS : (S.map El.tell).set k ([(decCl zs : Int), (decSq zs : Int), 0 + (K.length : Int)], zs.drop 8) = (S.set k z).map El.tell := by rw [List.map_set, hz]; rfl
    obtain ⟨k1, k2⟩ := kept (SS := (S.set k z).map El.tell) hno ⟨_, rfl, hKn⟩
    exact .inr (.inr ⟨rfl, by omega, k1, k2, by rw [hK, List.map_append, List.map_singleton, hxt], _, hSS, hKn⟩)
  | new _ k hk hu hf =>
    have hnone : ∀ y ∈ S, y.c ≠ x.c := fun y hy hc => by
      obtain ⟨i, hi⟩ := List.getElem?_of_mem hy
      rcases Nat.lt_or_ge i k with hik | hik
      · have := hk.lo i y hik hi; omega
      · have hkl : k < S.length := by have := (List.getElem?_eq_some_iff.1 hi).1; omega
        have h0 := List.getElem?_eq_getElem hkl
        have hne : S[k].c ≠ (decCl zs : Int) := by
          unfold knownAt at hu
          rw [h0] at hu
          simpa using hu
        have hge := hk.hi k _ (Nat.le_refl _) h0
        have hle : S[k].c ≤ y.c := by
          rcases Nat.lt_or_eq_of_le hik with hlt | rfl
          · exact Int.le_of_lt (risesE_mono S 0 h.rise k i _ y hlt h0 hi)
          · rw [h0] at hi; rw [Option.some.inj hi]; exact Int.le_refl _
        omega
    have hno : ∀ u ∈ G, u.c = x.c → u.q < x.q := fun u hu' huc => by
      obtain ⟨y, hy, hc⟩ := h.has u hu'
      exact absurd (by rw [hc, huc]) (hnone y hy)
    obtain ⟨z, hz⟩ : ∃ z : El, z = ⟨[(decCl zs : Int), (decSq zs : Int), 0 + (K.length : Int)], zs.drop 8, none, 0⟩ := ⟨_, rfl⟩
    have hzc : z.c = x.c := by rw [hz, ← h1]; rfl
    have hKn : Kn (G ++ [x]) (S.take k ++ z :: S.drop k) := by
      refine h.more hx ⟨hzc, by rw [hz, ← h2]; rfl, by rw [hz, ← h3], by rw [hz]; show 0 + (K.length : Int) = _; omega⟩ hno ?_ ?_ ?_ ?_
      · have hlo : ∀ (i : Nat) (u : El), i < k → S[i]? = some u → u.c < z.c := fun i u hi hu => by rw [hzc, ← h1]; exact hk.lo i u hi hu
        have hhi : ∀ (i : Nat) (u : El), k ≤ i → S[i]? = some u → z.c < u.c := fun i u hi hu => by
          have h5 := hk.hi i u hi hu
          have h6 := hnone u (List.mem_of_getElem? hu)
          rw [hzc]; omega
        have hpos : 0 < z.c := by rw [hzc]; unfold okE itemOk at hx; omega
        refine risesE_of_mono _ 0 (fun i u hu => ?_) (fun i j u v hij hu hv => ?_)
        · rcases insE_get hk.le hu with ⟨_, h5⟩ | ⟨_, rfl⟩ | ⟨_, h5⟩
          · exact risesE_lt S 0 h.rise _ u h5
          · exact hpos
          · exact risesE_lt S 0 h.rise _ u h5
        · rcases insE_get hk.le hu with ⟨a1, a2⟩ | ⟨a1, rfl⟩ | ⟨a1, a2⟩
          · rcases insE_get hk.le hv with ⟨b1, b2⟩ | ⟨b1, rfl⟩ | ⟨b1, b2⟩
            · exact risesE_mono S 0 h.rise i j u v hij a2 b2
            · exact hlo i u a1 a2
            · exact risesE_mono S 0 h.rise i (j - 1) u v (by omega) a2 b2
          · rcases insE_get hk.le hv with ⟨b1, b2⟩ | ⟨b1, _⟩ | ⟨b1, b2⟩
            · omega
            · omega
            · exact hhi (j - 1) v (by omega) b2
          · rcases insE_get hk.le hv with ⟨b1, b2⟩ | ⟨b1, _⟩ | ⟨b1, b2⟩
            · omega
            · omega
            · exact risesE_mono S 0 h.rise (i - 1) (j - 1) u v (by omega) a2 b2
      · intro u hu'
        rcases List.mem_append.1 hu' with h5 | h5
        · have := List.mem_of_mem_take h5; exact .inr ⟨this, hnone u this⟩
        · rcases List.mem_cons.1 h5 with h5 | h5
          · exact .inl h5
          · have := List.mem_of_mem_drop h5; exact .inr ⟨this, hnone u this⟩
      · simp
      · intro u hu' _
        rw [← List.take_append_drop k S] at hu'
        rcases List.mem_append.1 hu' with h5 | h5
        · exact List.mem_append_left _ h5
        · exact List.mem_append_right _ (List.mem_cons_of_mem _ h5)
    have hSS : (S.map El.tell).take k ++ ([(decCl zs : Int), (decSq zs : Int), 0 + (K.length : Int)], zs.drop 8) :: (S.map El.tell).drop k = (S.take k ++ z :: S.drop k).map El.tell := by rw [hz]; simp [El.tell]
    obtain ⟨k1, k2⟩ := kept (SS := (S.take k ++ z :: S.drop k).map El.tell) hno ⟨_, rfl, hKn⟩
    exact .inr (.inr ⟨rfl, by omega, k1, k2, by rw [hK, List.map_append, List.map_singleton, hxt], _, hSS, hKn⟩)
end Go.Proofs.YtdajcpcajdhplaaDoor
