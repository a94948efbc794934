/-
  The sessions as the model lays them anew, client by client.
-/
import Derived.Test.YtdajcpcajdhplaaDoorAp1
namespace Go.Proofs.YtdajcpcajdhplaaDoor

theorem risesE_gt (S : List El) (b : Int) (h : risesE b S) : ∀ x ∈ S, b < x.c := fun x hx => by
  obtain ⟨i, hi⟩ := List.getElem?_of_mem hx
  exact risesE_lt S b h i x hi
/-- those of one client more -/
theorem filt_split (p : El → Bool) (c : Int) (hp : ∀ x : El, x.c = c + 1 → p x = true) (S : List El) : ∀ b, risesE b S → S.filter (fun x => p x && decide (x.c ≤ c + 1)) = S.filter (fun x => p x && decide (x.c ≤ c)) ++ S.filter (fun x => decide (x.c = c + 1)) := by
  induction S with
  | nil => intro b _; rfl
  | cons y S ih =>
    intro b h
    obtain ⟨h1, h2⟩ := h
    have hgt := risesE_gt S y.c h2
    have hi := ih y.c h2
    rcases Int.lt_or_le y.c (c + 1) with hy | hy
    · have e1 : decide (y.c ≤ c + 1) = true := by simp; omega
      have e2 : decide (y.c ≤ c) = true := by simp; omega
      have e3 : decide (y.c = c + 1) = false := by simp; omega
      cases hpy : p y <;> simp [e1, e2, e3, hpy, hi]
    · have f1 : S.filter (fun x => p x && decide (x.c ≤ c + 1)) = [] := List.filter_eq_nil_iff.2 (fun x hx => by have := hgt x hx; simp; intro _; omega)
      have f2 : S.filter (fun x => p x && decide (x.c ≤ c)) = [] := List.filter_eq_nil_iff.2 (fun x hx => by have := hgt x hx; simp; intro _; omega)
      have f3 : S.filter (fun x => decide (x.c = c + 1)) = [] := List.filter_eq_nil_iff.2 (fun x hx => by have := hgt x hx; simp; omega)
      have e2 : decide (y.c ≤ c) = false := by simp; omega
      by_cases he : y.c = c + 1
      · have e1 : decide (y.c ≤ c + 1) = true := by simp; omega
        have e3 : decide (y.c = c + 1) = true := by simp [he]
        simp only [List.filter_cons, e1, e2, e3, hp y he, f1, f2, f3]
        simp
      · have e1 : decide (y.c ≤ c + 1) = false := by simp; omega
        have e3 : decide (y.c = c + 1) = false := by simp [he]
        simp [e1, e2, e3, f1, f2, f3]
/-- the sessions up to a client, with a new one in its place -/
def upTo (S : List El) (key : Int) (z : El) (c : Int) : List El := S.filter (fun x => decide (x.c < key) && decide (x.c ≤ c)) ++ ((if key ≤ c then [z] else []) ++ S.filter (fun x => decide (key < x.c) && decide (x.c ≤ c)))
theorem upTo_zero (S : List El) (key : Int) (z : El) (h : risesE 0 S) (hk : 0 < key) : upTo S key z 0 = [] := by
  have hgt := risesE_gt S 0 h
  have f1 : ∀ p : El → Bool, S.filter (fun x => p x && decide (x.c ≤ 0)) = [] := fun p => List.filter_eq_nil_iff.2 (fun x hx => by have := hgt x hx; simp; intro _; omega)
  unfold upTo
  rw [f1, f1, if_neg (by omega)]
  rfl
theorem upTo_key (S : List El) (key : Int) (z : El) (c : Int) (hc : c + 1 = key) : upTo S key z (c + 1) = upTo S key z c ++ [z] := by
  subst hc
  have f3 : ∀ d : Int, d ≤ c + 1 → S.filter (fun x => decide (c + 1 < x.c) && decide (x.c ≤ d)) = [] := fun d hd => List.filter_eq_nil_iff.2 (fun x _ => by simp; intro _; omega)
  have f1 : S.filter (fun x => decide (x.c < c + 1) && decide (x.c ≤ c + 1)) = S.filter (fun x => decide (x.c < c + 1) && decide (x.c ≤ c)) := by
    congr 1
    funext x
    rw [Bool.eq_iff_iff]
    simp
    omega
  unfold upTo
  rw [f3 _ (Int.le_refl _), f3 c (by omega), f1, if_pos (Int.le_refl _), if_neg (by omega)]
  simp
theorem upTo_other (S : List El) (key : Int) (z : El) (c : Int) (h : risesE 0 S) (hc : c + 1 ≠ key) : upTo S key z (c + 1) = upTo S key z c ++ S.filter (fun x => decide (x.c = c + 1)) := by
  unfold upTo
  by_cases hlt : c + 1 < key
  · have f3 : ∀ d : Int, d ≤ c + 1 → S.filter (fun x => decide (key < x.c) && decide (x.c ≤ d)) = [] := fun d hd => List.filter_eq_nil_iff.2 (fun x _ => by simp; intro _; omega)
    rw [filt_split (fun x => decide (x.c < key)) c (fun x hx => by simp; omega) S 0 h, f3 _ (Int.le_refl _), f3 c (by omega), if_neg (by omega), if_neg (by omega)]
    simp
  · have f1 : S.filter (fun x => decide (x.c < key) && decide (x.c ≤ c + 1)) = S.filter (fun x => decide (x.c < key) && decide (x.c ≤ c)) := by
      congr 1
      funext x
      rw [Bool.eq_iff_iff]
      simp
      omega
    rw [f1, filt_split (fun x => decide (key < x.c)) c (fun x hx => by simp; omega) S 0 h, if_pos (by omega), if_pos (by omega)]
    simp [List.append_assoc]
theorem spot_at {S : List El} {k : Nat} {x : El} (h : risesE 0 S) (hx : S[k]? = some x) : Spot S x.c k := by
  refine ⟨by have := (List.getElem?_eq_some_iff.1 hx).1; omega, fun i y hi hy => risesE_mono S 0 h i k y x hi hy hx, fun i y hi hy => ?_⟩
  rcases Nat.lt_or_eq_of_le hi with hlt | rfl
  · have := risesE_mono S 0 h k i x y hlt hx hy; omega
  · rw [hx] at hy; obtain rfl := Option.some.inj hy; exact Int.le_refl _
theorem take_lo {S : List El} {key : Int} {k : Nat} (hk : Spot S key k) : ∀ x ∈ S.take k, x.c < key := fun x hx => by
  obtain ⟨i, hi⟩ := List.getElem?_of_mem hx
  rw [List.getElem?_take] at hi
  by_cases hik : i < k
  · rw [if_pos hik] at hi; exact hk.lo i x hik hi
  · rw [if_neg hik] at hi; cases hi
theorem drop_hi {S : List El} {key : Int} {k : Nat} (hk : Spot S key k) : ∀ x ∈ S.drop k, key ≤ x.c := fun x hx => by
  obtain ⟨i, hi⟩ := List.getElem?_of_mem hx
  rw [List.getElem?_drop] at hi
  exact hk.hi (k + i) x (by omega) hi
theorem upTo_lo {S : List El} {key : Int} {k : Nat} (hk : Spot S key k) (h50 : ∀ x ∈ S, x.c ≤ 50) : S.filter (fun x => decide (x.c < key) && decide (x.c ≤ 50)) = S.take k := by
  have e : S = S.take k ++ S.drop k := (List.take_append_drop k S).symm
  have f1 : (S.take k).filter (fun x => decide (x.c < key) && decide (x.c ≤ 50)) = S.take k := List.filter_eq_self.2 (fun x hx => by have := take_lo hk x hx; have := h50 x (List.mem_of_mem_take hx); simp; omega)
  have f2 : (S.drop k).filter (fun x => decide (x.c < key) && decide (x.c ≤ 50)) = [] := List.filter_eq_nil_iff.2 (fun x hx => by have := drop_hi hk x hx; simp; intro _; omega)
  calc S.filter (fun x => decide (x.c < key) && decide (x.c ≤ 50)) = (S.take k ++ S.drop k).filter (fun x => decide (x.c < key) && decide (x.c ≤ 50)) := by rw [← e]
    _ = S.take k := by rw [List.filter_append, f1, f2, List.append_nil]
theorem upTo_hi {S : List El} {key : Int} {k : Nat} (hk : Spot S key k) (h50 : ∀ x ∈ S, x.c ≤ 50) {T : List El} (hT : (S.drop k).filter (fun x => decide (key < x.c)) = T) : S.filter (fun x => decide (key < x.c) && decide (x.c ≤ 50)) = T := by
  have e : S = S.take k ++ S.drop k := (List.take_append_drop k S).symm
  have f1 : (S.take k).filter (fun x => decide (key < x.c) && decide (x.c ≤ 50)) = [] := List.filter_eq_nil_iff.2 (fun x hx => by have := take_lo hk x hx; simp; intro _; omega)
  have f2 : (S.drop k).filter (fun x => decide (key < x.c) && decide (x.c ≤ 50)) = (S.drop k).filter (fun x => decide (key < x.c)) := by
    refine List.filter_congr (fun x hx => ?_)
    have := h50 x (List.mem_of_mem_drop hx)
    simp [this]
  calc S.filter (fun x => decide (key < x.c) && decide (x.c ≤ 50)) = (S.take k ++ S.drop k).filter (fun x => decide (key < x.c) && decide (x.c ≤ 50)) := by rw [← e]
    _ = T := by rw [List.filter_append, f1, f2, hT, List.nil_append]
theorem upTo_known {S : List El} {key : Int} {k : Nat} {x z : El} (h : risesE 0 S) (hk : Spot S key k) (hx : S[k]? = some x) (hc : x.c = key) (h50 : ∀ x ∈ S, x.c ≤ 50) (hkey : key ≤ 50) : upTo S key z 50 = S.set k z := by
  obtain ⟨hkl, hxe⟩ := List.getElem?_eq_some_iff.1 hx
  have hT : (S.drop k).filter (fun x => decide (key < x.c)) = S.drop (k + 1) := by
    rw [List.drop_eq_getElem_cons hkl, hxe, List.filter_cons, if_neg (by simp [hc])]
    refine List.filter_eq_self.2 (fun y hy => ?_)
    obtain ⟨i, hi⟩ := List.getElem?_of_mem hy
    rw [List.getElem?_drop] at hi
    have := risesE_mono S 0 h k (k + 1 + i) x y (by omega) hx hi
    simp
    omega
  unfold upTo
  rw [upTo_lo hk h50, upTo_hi hk h50 hT, if_pos hkey, List.set_eq_take_append_cons_drop, if_pos hkl]
  rfl
theorem upTo_new {S : List El} {key : Int} {k : Nat} {z : El} (h : risesE 0 S) (hk : Spot S key k) (hu : knownAt S key k = false) (h50 : ∀ x ∈ S, x.c ≤ 50) (hkey : key ≤ 50) : upTo S key z 50 = S.take k ++ z :: S.drop k := by
  have hT : (S.drop k).filter (fun x => decide (key < x.c)) = S.drop k := by
    refine List.filter_eq_self.2 (fun y hy => ?_)
    obtain ⟨i, hi⟩ := List.getElem?_of_mem hy
    rw [List.getElem?_drop] at hi
    have hkl : k < S.length := by have := (List.getElem?_eq_some_iff.1 hi).1; omega
    have h0 := List.getElem?_eq_getElem hkl
    have hne : S[k].c ≠ key := by
      unfold knownAt at hu
      rw [h0] at hu
      simpa using hu
    have hge := hk.hi k _ (Nat.le_refl _) h0
    have : S[k].c ≤ y.c := by
      cases i with
      | zero => rw [Nat.add_zero, h0] at hi; rw [Option.some.inj hi]; exact Int.le_refl _
      | succ i => exact Int.le_of_lt (risesE_mono S 0 h k (k + (i + 1)) _ y (by omega) h0 hi)
    simp
    omega
  unfold upTo
  rw [upTo_lo hk h50, upTo_hi hk h50 hT, if_pos hkey]
  rfl
/-- one session more is looked at -/
theorem filt_take {S : List El} {k : Nat} {x : El} (p : El → Bool) (hx : S[k]? = some x) : (S.take (k + 1)).filter p = (S.take k).filter p ++ (if p x then [x] else []) := by
  rw [List.take_add_one, hx, List.filter_append]
  cases hp : p x <;> simp [hp]
/-- whatever is laid is a session or the new one -/
theorem upTo_mem {S : List El} {key : Int} {z : El} {c : Int} : ∀ x ∈ upTo S key z c, x = z ∨ x ∈ S := fun x hx => by
  unfold upTo at hx
  rcases List.mem_append.1 hx with h | h
  · exact .inr (List.mem_filter.1 h).1
  · rcases List.mem_append.1 h with h | h
    · split at h
      · exact .inl (by simpa using h)
      · cases h
    · exact .inr (List.mem_filter.1 h).1
theorem upTo_len (S : List El) (key : Int) (z : El) (c : Int) : (upTo S key z c).length ≤ 2 * S.length + 1 := by
  unfold upTo
  have h1 := List.length_filter_le (fun x : El => decide (x.c < key) && decide (x.c ≤ c)) S
  have h2 := List.length_filter_le (fun x : El => decide (key < x.c) && decide (x.c ≤ c)) S
  have h3 : (if key ≤ c then [z] else ([] : List El)).length ≤ 1 := by split <;> simp
  simp only [List.length_append]
  omega
end Go.Proofs.YtdajcpcajdhplaaDoor
