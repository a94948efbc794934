/-
  A snapshot's state: the plain mathematics. No Go in it.
-/
import Derived.Test.YtionggfecikedaaTakeN
import Derived.Test.YtionggfecikedaaLeN
namespace Go.Proofs.Ytionggfecikedaa

theorem leVal_leN (n v : Nat) (h : v < 256 ^ n) : leVal (leN v n) = v := by
  induction n generalizing v with
  | zero => simp [leN, leVal] at *; omega
  | succ n ih =>
    rw [leN, leVal_snoc, leN_len]
    have hp : 0 < 256 ^ n := Nat.pow_pos (by decide)
    have h1 : leN v n = leN (v % 256 ^ n) n := by
      have : ∀ m, m ≤ n → leN v m = leN (v % 256 ^ n) m := by
        intro m
        induction m with
        | zero => intro _; rfl
        | succ m ihm =>
          intro hm
          rw [leN, leN, ihm (by omega)]
          have e : v % 256 ^ n / 256 ^ m % 256 = v / 256 ^ m % 256 := by
            obtain ⟨k, hk⟩ : ∃ k, n = m + 1 + k := ⟨n - m - 1, by omega⟩
            have e2 : 256 ^ n = 256 ^ m * (256 * 256 ^ k) := by rw [hk, Nat.pow_add, Nat.pow_succ, Nat.mul_assoc]
            rw [e2, Nat.mod_mul_right_div_self, Nat.mod_mul_right_mod]
          rw [e]
      exact this n (Nat.le_refl _)
    rw [h1, ih _ (Nat.mod_lt _ hp)]
    have h2 : v / 256 ^ n % 256 = v / 256 ^ n := Nat.mod_eq_of_lt (by rw [Nat.div_lt_iff_lt_mul hp]; rw [Nat.pow_succ, Nat.mul_comm] at h; exact h)
    rw [h2]
    exact Nat.mod_add_div v (256 ^ n)
theorem leVal_inj (a b : List Nat) (ha : ∀ z ∈ a, z < 256) (hb : ∀ z ∈ b, z < 256) (hl : a.length = b.length) (h : leVal a = leVal b) : a = b := by
  induction a generalizing b with
  | nil => cases b with
    | nil => rfl
    | cons y b => simp at hl
  | cons x a ih =>
    cases b with
    | nil => simp at hl
    | cons y b =>
      simp only [leVal] at h
      have h1 := ha x (by simp)
      have h2 := hb y (by simp)
      have h3 : x = y := by omega
      have h4 : leVal a = leVal b := by omega
      rw [h3, ih b (fun z hz => ha z (by simp [hz])) (fun z hz => hb z (by simp [hz])) (by simpa using hl) h4]
theorem leN_leVal (l : List Nat) (h : ∀ z ∈ l, z < 256) (n : Nat) (hn : l.length = n) : leN (leVal l) n = l := by
  refine leVal_inj _ _ (leN_lt _ _) h (by rw [leN_len, hn]) ?_
  rw [leVal_leN]
  rw [← hn]
  exact leVal_lt l h
def P64 : Nat := 256 ^ 8
theorem num_inj {v v' : Nat} {s s' : List Nat} (hv : v < P64) (hv' : v' < P64) (h : leN v 8 ++ s = leN v' 8 ++ s') : v = v' ∧ s = s' := by
  obtain ⟨h1, h2⟩ := List.append_inj h (by rw [leN_len, leN_len])
  exact ⟨by rw [← leVal_leN 8 v hv, ← leVal_leN 8 v' hv', h1], h2⟩

/-- a session as it is told -/
structure Sn where
  c : Nat
  q : Nat
  i : Nat
  d : List Nat
def encS (x : Sn) : List Nat := leN x.c 8 ++ (leN x.q 8 ++ (leN x.i 8 ++ (leN x.d.length 8 ++ x.d)))
def encL (l : List Sn) : List Nat := l.flatMap encS
def encSt (b : Nat) (l : List Sn) : List Nat := leN b 8 ++ (leN l.length 8 ++ encL l)
def smallS (x : Sn) : Prop := x.c < P64 ∧ x.q < P64 ∧ x.i < P64 ∧ x.d.length < P64
def okS (x : Sn) : Prop := 1 ≤ x.c ∧ x.c ≤ 50 ∧ 1 ≤ x.q ∧ x.q ≤ 1000000000 ∧ x.d.length ≤ 64
/-- rising by the client, behind a number -/
def rises : Nat → List Sn → Prop
  | _, [] => True
  | b, x :: l => b < x.c ∧ rises x.c l
def ValidS (b : Nat) (l : List Sn) : Prop := b ≤ 1000000 ∧ (∀ x ∈ l, okS x ∧ x.i < b) ∧ rises 0 l
theorem encS_len (x : Sn) : (encS x).length = 32 + x.d.length := by simp [encS, leN_len]; omega
theorem encL_cons (x : Sn) (l : List Sn) : encL (x :: l) = encS x ++ encL l := by simp [encL]
theorem encL_nil : encL [] = [] := rfl
theorem encL_append (a b : List Sn) : encL (a ++ b) = encL a ++ encL b := by simp [encL]
theorem encL_snoc (a : List Sn) (x : Sn) : encL (a ++ [x]) = encL a ++ encS x := by rw [encL_append, encL_cons, encL_nil, List.append_nil]
theorem okS_small {x : Sn} {b : Nat} (h : okS x ∧ x.i < b) (hb : b ≤ 1000000) : smallS x := by
  obtain ⟨⟨h1, h2, h3, h4, h5⟩, h6⟩ := h
  unfold smallS P64
  refine ⟨?_, ?_, ?_, ?_⟩ <;> omega
theorem encS_inj {x y : Sn} {s t : List Nat} (hx : smallS x) (hy : smallS y) (h : encS x ++ s = encS y ++ t) : x = y ∧ s = t := by
  unfold encS at h
  simp only [List.append_assoc] at h
  obtain ⟨h1, h⟩ := num_inj hx.1 hy.1 h
  obtain ⟨h2, h⟩ := num_inj hx.2.1 hy.2.1 h
  obtain ⟨h3, h⟩ := num_inj hx.2.2.1 hy.2.2.1 h
  obtain ⟨h4, h⟩ := num_inj hx.2.2.2 hy.2.2.2 h
  obtain ⟨h5, h6⟩ := List.append_inj h h4
  refine ⟨?_, h6⟩
  cases x; cases y
  simp only at *
  subst h1 h2 h3 h5
  rfl
/-- the first few sessions and what is left -/
theorem encL_pre (l l' : List Sn) (s : List Nat) (hl : ∀ x ∈ l, smallS x) (hl' : ∀ x ∈ l', smallS x) (hn : l.length ≤ l'.length) (h : encL l ++ s = encL l') : l'.take l.length = l ∧ s = encL (l'.drop l.length) := by
  induction l generalizing l' with
  | nil => simpa [encL] using h
  | cons x l ih =>
    cases l' with
    | nil => simp at hn
    | cons y l' =>
      rw [encL_cons, encL_cons, List.append_assoc] at h
      obtain ⟨rfl, h2⟩ := encS_inj (hl x (by simp)) (hl' y (by simp)) h
      obtain ⟨h3, h4⟩ := ih l' (fun z hz => hl z (by simp [hz])) (fun z hz => hl' z (by simp [hz])) (by simpa using hn) h2
      simp [h3, h4]
theorem ValidS.small {b : Nat} {l : List Sn} (h : ValidS b l) : ∀ x ∈ l, smallS x := fun x hx => okS_small (h.2.1 x hx) h.1
theorem rises_len (l : List Sn) : ∀ b, rises b l → (∀ x ∈ l, x.c ≤ 50) → b ≤ 50 → b + l.length ≤ 50 := by
  induction l with
  | nil => intro b _ _ hb; simpa using hb
  | cons x l ih =>
    intro b h hc hb
    obtain ⟨h1, h2⟩ := h
    have h3 := ih x.c h2 (fun y hy => hc y (by simp [hy])) (hc x (by simp))
    simp only [List.length_cons]
    omega
theorem ValidS.len {b : Nat} {l : List Sn} (h : ValidS b l) : l.length ≤ 50 := by
  have := rises_len l 0 h.2.2 (fun x hx => (h.2.1 x hx).1.2.1) (by decide)
  omega
theorem rises_snoc (l : List Sn) (x : Sn) : ∀ b, rises b (l ++ [x]) ↔ rises b l ∧ (l.getLast?.map Sn.c).getD b < x.c := by
  induction l with
  | nil => intro b; simp [rises]
  | cons y l ih =>
    intro b
    cases l with
    | nil => simp [rises]
    | cons z l =>
      have h1 := ih y.c
      obtain ⟨t, ht⟩ : ∃ t, (z :: l).getLast? = some t := ⟨_, List.getLast?_eq_some_getLast (by simp)⟩
      have h2 : (y :: z :: l).getLast? = some t := by rw [List.getLast?_cons_cons]; exact ht
      rw [ht] at h1
      rw [h2, List.cons_append]
      have e1 : rises b (y :: (z :: l ++ [x])) ↔ b < y.c ∧ rises y.c (z :: l ++ [x]) := Iff.rfl
      have e2 : rises b (y :: z :: l) ↔ b < y.c ∧ rises y.c (z :: l) := Iff.rfl
      rw [e1, e2, h1]
      simp [and_assoc]
/-- what the whole bytes say, where they are a state, once some of it has been read -/
theorem encSt_read {b b' n : Nat} {l l' : List Sn} {s : List Nat} (hb : b < P64) (hn : n < P64) (hl : ∀ x ∈ l, smallS x) (hle : l.length ≤ n) (hV : ValidS b' l') (h : encSt b' l' = leN b 8 ++ (leN n 8 ++ (encL l ++ s))) :
    b' = b ∧ l'.length = n ∧ l'.take l.length = l ∧ s = encL (l'.drop l.length) := by
  unfold encSt at h
  have h50 := hV.len
  obtain ⟨h1, h⟩ := num_inj (by have := hV.1; unfold P64; omega) hb h
  obtain ⟨h2, h⟩ := num_inj (by unfold P64; omega) hn h
  obtain ⟨h3, h4⟩ := encL_pre l l' s hl hV.small (by omega) h.symm
  exact ⟨h1, h2, h3, h4⟩
theorem encSt_inj {b b' : Nat} {l l' : List Sn} (hV : ValidS b l) (hV' : ValidS b' l') (h : encSt b l = encSt b' l') : b = b' ∧ l = l' := by
  have h50 := hV'.len
  have h51 := hV.len
  obtain ⟨h1, h2, h3, h4⟩ := encSt_read (b := b') (n := l'.length) (l := l') (s := []) (by have := hV'.1; unfold P64; omega) (by unfold P64; omega) hV'.small (Nat.le_refl _) hV (by rw [List.append_nil]; exact h)
  refine ⟨h1, ?_⟩
  rw [← h2, List.take_length] at h3
  exact h3
end Go.Proofs.Ytionggfecikedaa
