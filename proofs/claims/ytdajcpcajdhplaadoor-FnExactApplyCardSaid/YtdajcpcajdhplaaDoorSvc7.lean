/-
  SvVal
-/
import Derived.Test.YtdajcpcajdhplaaDoorSvc4
import Derived.Test.YtdajcpcajdhplaaDoorSvc6
/-
  A service held against the bounds, whatever its numbers, with its kept items: the program's valid.
-/
namespace Go.Proofs.YtdajcpcajdhplaaDoor
open Go.RowKit

def El.c (x : El) : Int := x.hd.getD 0 0
def El.q (x : El) : Int := x.hd.getD 1 0
def El.i (x : El) : Int := x.hd.getD 2 0
def okE (x : El) : Prop := itemOk x.c x.q x.d.length
def risesE : Int → List El → Prop
  | _, [] => True
  | b, x :: l => b < x.c ∧ risesE x.c l
def ValidV (b : Int) (K S : List El) : Prop := 0 ≤ b ∧ b ≤ 1000000 ∧ K.length ≤ 1000000 ∧ (∀ x ∈ K, okE x) ∧ (∀ x ∈ S, okE x ∧ 0 ≤ x.i ∧ x.i < b + K.length) ∧ risesE 0 S
theorem risesE_snoc (l : List El) (x : El) : ∀ b, risesE b (l ++ [x]) ↔ risesE b l ∧ (l.getLast?.map El.c).getD b < x.c := by
  induction l with
  | nil => intro b; simp [risesE]
  | cons y l ih =>
    intro b
    cases l with
    | nil => simp [risesE]
    | cons z l =>
      have h1 := ih y.c; obtain ⟨t, ht⟩ : ∃ t, (z :: l).getLast? = some t := ⟨_, List.getLast?_eq_some_getLast (by simp)⟩
      have h2 : (y :: z :: l).getLast? = some t := by rw [List.getLast?_cons_cons]; exact ht
      rw [ht] at h1; rw [h2, List.cons_append]; have e1 : risesE b (y :: (z :: l ++ [x])) ↔ b < y.c ∧ risesE y.c (z :: l ++ [x]) := Iff.rfl; have e2 : risesE b (y :: z :: l) ↔ b < y.c ∧ risesE y.c (z :: l) := Iff.rfl; rw [e1, e2, h1]
      simp [and_assoc]
theorem risesE_pre (a c : List El) : ∀ b, risesE b (a ++ c) → risesE b a := by
  induction a with
  | nil => intro b _; trivial
  | cons x a ih => intro b h; exact ⟨h.1, ih x.c h.2⟩
/-- the first k are as they should be -/
def okUp (B : Int) (L : List El) (k : Nat) : Prop := (∀ x ∈ L.take k, okE x ∧ 0 ≤ x.i ∧ x.i < B) ∧ risesE 0 (L.take k)
def lastE (L : List El) (k : Nat) : Int := ((L.take k).getLast?.map El.c).getD 0
theorem take_snoc {α : Type} {L : List α} {k : Nat} {x : α} (hx : L[k]? = some x) : L.take (k + 1) = L.take k ++ [x] := by
  have hk : k < L.length := (List.getElem?_eq_some_iff.1 hx).1; rw [List.getElem?_eq_getElem hk] at hx; rw [List.take_succ_eq_append_getElem hk, Option.some.inj hx]
theorem okUp_succ (B : Int) (L : List El) (k : Nat) (x : El) (hx : L[k]? = some x) : okUp B L (k + 1) ↔ okUp B L k ∧ (okE x ∧ 0 ≤ x.i ∧ x.i < B) ∧ lastE L k < x.c := by
  unfold okUp lastE
  rw [take_snoc hx, risesE_snoc]
  constructor
  · rintro ⟨h1, h2, h3⟩; exact ⟨⟨fun y hy => h1 y (by simp only [List.mem_append]; exact .inl hy), h2⟩, h1 x (by simp), h3⟩
  · rintro ⟨⟨h1, h2⟩, h3, h4⟩; refine ⟨fun y hy => ?_, h2, h4⟩
    rcases List.mem_append.1 hy with h | h
    · exact h1 y h
    · obtain rfl : y = x := by simpa using h
      exact h3
theorem lastE_succ (L : List El) (k : Nat) (x : El) (hx : L[k]? = some x) : lastE L (k + 1) = x.c := by
  unfold lastE
  rw [take_snoc hx]
  simp
theorem okUp_of {b : Int} {K S : List El} (h : ValidV b K S) (k : Nat) : okUp (b + K.length) S k := by
  obtain ⟨_, _, _, _, h2, h3⟩ := h; refine ⟨fun x hx => h2 x (List.mem_of_mem_take hx), ?_⟩; rw [← List.take_append_drop k S] at h3; exact risesE_pre _ _ _ h3
def okK (K : List El) (k : Nat) : Prop := ∀ x ∈ K.take k, okE x
theorem okK_succ (K : List El) (k : Nat) (x : El) (hx : K[k]? = some x) (h : okK K k) (hx' : okE x) : okK K (k + 1) := by
  intro y hy; rw [take_snoc hx] at hy
  rcases List.mem_append.1 hy with h' | h'
  · exact h y h'
  · obtain rfl : y = x := by simpa using h'
    exact hx'
theorem valid_all {b : Int} {K S : List El} (h0 : 0 ≤ b) (h1 : b ≤ 1000000) (h2 : K.length ≤ 1000000) (h3 : okK K K.length) (h4 : okUp (b + K.length) S S.length) : ValidV b K S := by
  unfold okK at h3
  unfold okUp at h4
  rw [List.take_length] at h3 h4; exact ⟨h0, h1, h2, h3, h4.1, h4.2⟩
theorem El.hd2 {x : El} {a b : Int} (h : x.hd = [a, b]) : x.c = a ∧ x.q = b := by simp [El.c, El.q, h]
theorem El.hd3 {x : El} {a b c : Int} (h : x.hd = [a, b, c]) : x.c = a ∧ x.q = b ∧ x.i = c := by simp [El.c, El.q, El.i, h]
set_option maxHeartbeats 400000 in
theorem countE_any (b : Int) (ko : Option Addr) (kn kc : Nat) (v : Value) (w : World) (hb : -1000000000000 ≤ b ∧ b ≤ 1000000000000) (hk : kn ≤ 1048576) :
    Calls Tryd.prog 38 #[.agg #[.int .i64 b, .slice ko kn kc, v]] w fun e w' => e = .returned (.int .i64 (b + (kn : Int))) ∧ w.grownBy w' none := by
  go_enter Tryd.func38, Tryd.ntmps38
  go_wp2; go_ret; refine ⟨by go_num, ?_⟩
  repeat (first | exact grownBy_refl _ _ | apply grownBy_alloc)
/-- the service in its box and the session in its variable, where more has come -/
def BoxE (w : World) (p x : Nat) (b : Int) (kv v : Value) (n0 n1 n2 : Int) (d : Value) : Prop := w.cell? ⟨p, 0, none⟩ = some (.int .i64 b) ∧ w.cell? ⟨p, 1, none⟩ = some kv ∧ w.cell? ⟨p, 2, none⟩ = some v ∧
  w.cell? ⟨x, 0, none⟩ = some (.int .i64 n0) ∧ w.cell? ⟨x, 1, none⟩ = some (.int .i64 n1) ∧ w.cell? ⟨x, 2, none⟩ = some (.int .i64 n2) ∧ w.cell? ⟨x, 3, none⟩ = some d
theorem BoxE.grown {w w' : World} {p x : Nat} {b : Int} {kv v : Value} {n0 n1 n2 : Int} {d : Value} (h : BoxE w p x b kv v n0 n1 n2 d) (hg : w.grownBy w' none) (hp : p < w.heap.size) (hx : x < w.heap.size) : BoxE w' p x b kv v n0 n1 n2 d := by
  obtain ⟨hc, -⟩ := bcell hg; obtain ⟨h1, h2, h3, h4, h5, h6, h7⟩ := h; exact ⟨(hc _ _ hp).trans h1, (hc _ _ hp).trans h2, (hc _ _ hp).trans h3, (hc _ _ hx).trans h4, (hc _ _ hx).trans h5, (hc _ _ hx).trans h6, (hc _ _ hx).trans h7⟩
set_option maxRecDepth 4000 in
set_option maxHeartbeats 4000000 in
theorem svalidE_any (b : Int) (ko : Option Addr) (kc : Nat) (K : List El) (so : Option Addr) (sc : Nat) (S : List El) (w : World) (hK : ElO w 32 2 ko kc K) (hS : ElO w 74 3 so sc S) (hkl : K.length ≤ 1048576) (hsl : S.length ≤ 1048576) (hkd : ∀ x ∈ K, x.d.length ≤ 1048576) (hsd : ∀ x ∈ S, x.d.length ≤ 1048576) :
    Calls Tryd.prog 33 #[.agg #[.int .i64 b, .slice ko K.length kc, .slice so S.length sc]] w fun e w' => ∃ r : Bool, e = .returned (.bool r) ∧ (r = true ↔ ValidV b K S) ∧ w.grownBy w' none := by
  have HS : Hid (ElO w 32 2 ko kc K ∧ ElO w 74 3 so sc S ∧ (∀ x ∈ K, x.d.length ≤ 1048576) ∧ (∀ x ∈ S, x.d.length ≤ 1048576)) := ⟨hK, hS, hkd, hsd⟩; clear hK hS hkd hsd
  rcases (show (b < 0 ∨ (0 ≤ b ∧ 1000000 < b)) ∨ (0 ≤ b ∧ b ≤ 1000000 ∧ (1000000 : Int) < (K.length : Int)) ∨ (0 ≤ b ∧ b ≤ 1000000 ∧ (K.length : Int) ≤ 1000000) by omega) with h0 | ⟨h0, h1, h2⟩ | ⟨hb0, hb1, hb2⟩
  · rcases h0 with h0 | ⟨h0, h1⟩
    all_goals
      go_enter Tryd.func33, Tryd.ntmps33
      go_wp2; go_ret; refine ⟨false, rfl, ⟨fun h => (by cases h), fun h => absurd h.1 (by have := h.2.1; omega)⟩, ?_⟩
      repeat (first | exact grownBy_refl _ _ | apply grownBy_alloc)
  · go_enter Tryd.func33, Tryd.ntmps33
    go_wp2; go_ret; refine ⟨false, rfl, ⟨fun h => (by cases h), fun h => absurd h.2.2.1 (by omega)⟩, ?_⟩
    repeat (first | exact grownBy_refl _ _ | apply grownBy_alloc)
  obtain ⟨P0, hP0⟩ : ∃ P0, P0 = w.alloc (.cells #[.int .i64 b, .slice ko K.length kc, .slice so S.length sc] 28) := ⟨_, rfl⟩
  have HP0 : Hid (w.grownBy P0 none ∧ P0.heap.size = w.heap.size + 1 ∧ P0.cell? ⟨w.heap.size, 0, none⟩ = some (.int .i64 b) ∧ P0.cell? ⟨w.heap.size, 1, none⟩ = some (.slice ko K.length kc) ∧ P0.cell? ⟨w.heap.size, 2, none⟩ = some (.slice so S.length sc)) := by
    rw [hP0]; exact ⟨World.grownBy_alloc _ _ _, by simp, by simp, by simp, by simp⟩
  go_enter Tryd.func33, Tryd.ntmps33
  go_wp2; rw [← hP0]
  go_loopw [25] (fun i wl => ∃ k : Nat, k ≤ K.length ∧ i = .int .i64 (k : Int) ∧ okK K k ∧ P0.grownBy wl none) (fun i _ => K.length - (intOf i).toNat)
  case atStart => exact ⟨0, Nat.zero_le _, rfl, by simp [okK], grownBy_refl _ _⟩
  case round =>
    clear hP0; obtain ⟨k, hk, rfl, hok, hG⟩ := hrel; have HG : Hid (P0.grownBy wr none ∧ w.grownBy wr none ∧ okK K k) := ⟨hG, grownBy_trans HP0.out.1 hG, hok⟩
    have hp : w.heap.size < wr.heap.size := by have := hG.size; have := HP0.out.2.1; omega
    obtain ⟨hc, -⟩ := bcell hG; have s0 : wr.cell? ⟨w.heap.size, 0, none⟩ = some (.int .i64 b) := (hc _ _ (by have := HP0.out.2.1; omega)).trans HP0.out.2.2.1; have s1 : wr.cell? ⟨w.heap.size, 1, none⟩ = some (.slice ko K.length kc) := (hc _ _ (by have := HP0.out.2.1; omega)).trans HP0.out.2.2.2.1; have s2 : wr.cell? ⟨w.heap.size, 2, none⟩ = some (.slice so S.length sc) := (hc _ _ (by have := HP0.out.2.1; omega)).trans HP0.out.2.2.2.2; clear hG hc hok
    by_cases hlt : k < K.length
    · obtain ⟨x, hx⟩ : ∃ x, K[k]? = some x := ⟨K[k], List.getElem?_eq_getElem hlt⟩
      rcases HS.out.1.grown0 HG.out.2.1 with ⟨_, _, h0⟩ | ⟨g, rfl, hA⟩
      · rw [h0] at hx; simp at hx
      obtain ⟨n0, n1, hhd, c0, c1, cd⟩ := hA.get2 hx; have hdl := HS.out.2.2.1 x (List.mem_of_getElem? hx); obtain ⟨e0, e1⟩ := El.hd2 hhd; have HX : Hid (K[k]? = some x ∧ (itemOk n0 n1 x.d.length ↔ okE x)) := ⟨hx, by unfold okE; rw [e0, e1]⟩; clear hx hA e0 e1 hhd; obtain ⟨xh, d, o, cp⟩ := x; simp only at hdl cd HX
      have hkL : (k : Int) < (K.length : Int) := by omega
      have HW : Hid (P0.grownBy (wr.alloc (.cells #[.int .i64 n0, .int .i64 n1, .slice (oad o) d.length cp] 32)) none) := grownBy_alloc HG.out.1 _; generalize oad o = og at *; go_wp2_with fail; refine (valid_any n0 n1 og d.length cp _ (by unfold maxLen; omega)).mono ?_; rintro e w1 ⟨rfl, hG1⟩; have HW1 : Hid (P0.grownBy w1 none ∧ w.grownBy w1 none) := ⟨grownBy_trans HW.out hG1, grownBy_trans HP0.out.1 (grownBy_trans HW.out hG1)⟩; clear hG1
      by_cases h1 : itemOk n0 n1 d.length
      · rw [decide_eq_true h1]; have HOK : Hid (okK K (k + 1)) := okK_succ K k _ HX.out.1 HG.out.2.2 (HX.out.2.1 h1); clear h1; go_wp2; go_roundw
        case rel => exact ⟨k + 1, by omega, by go_num, HOK.out, HW1.out.1⟩
        case measure => simp [intOf]; omega
      · rw [decide_eq_false h1]; go_wp2; go_ret; refine ⟨false, rfl, ⟨fun h => (by cases h), fun h => ?_⟩, HW1.out.2⟩; exact absurd (HX.out.2.2 (h.2.2.2.1 _ (List.mem_of_getElem? HX.out.1))) h1
    · obtain rfl : k = K.length := by omega
      have HKK : Hid (okK K K.length) := HG.out.2.2; obtain ⟨W1, hW1⟩ : ∃ W1, W1 = wr := ⟨_, rfl⟩
      have HW1 : Hid (w.grownBy W1 none ∧ w.heap.size < W1.heap.size ∧ W1.cell? ⟨w.heap.size, 0, none⟩ = some (.int .i64 b) ∧ W1.cell? ⟨w.heap.size, 1, none⟩ = some (.slice ko K.length kc) ∧ W1.cell? ⟨w.heap.size, 2, none⟩ = some (.slice so S.length sc)) := by
        rw [hW1]; exact ⟨HG.out.2.1, hp, s0, s1, s2⟩
      go_wp2
      go_loopw [5, 36] (fun bf i wl => ∃ k : Nat, k ≤ S.length ∧ i = .int .i64 (k : Int) ∧ bf = .int .i64 (lastE S k) ∧ okUp (b + K.length) S k ∧ W1.grownBy wl none) (fun _ i _ => S.length - (intOf i).toNat)
      case atStart => exact ⟨0, Nat.zero_le _, rfl, rfl, ⟨by simp, by simp [risesE]⟩, by rw [hW1]; exact grownBy_refl _ _⟩
      case round =>
        clear s0 s1 s2 hp hW1 HG; obtain ⟨k, hk, rfl, rfl, hok, hG⟩ := hrel
        have hp : w.heap.size < wr.heap.size := by have := hG.size; have := HW1.out.2.1; omega
        obtain ⟨hc, -⟩ := bcell hG; have s0 : wr.cell? ⟨w.heap.size, 0, none⟩ = some (.int .i64 b) := (hc _ _ HW1.out.2.1).trans HW1.out.2.2.1; have s1 : wr.cell? ⟨w.heap.size, 1, none⟩ = some (.slice ko K.length kc) := (hc _ _ HW1.out.2.1).trans HW1.out.2.2.2.1; have s2 : wr.cell? ⟨w.heap.size, 2, none⟩ = some (.slice so S.length sc) := (hc _ _ HW1.out.2.1).trans HW1.out.2.2.2.2; have HG : Hid (w.grownBy wr none ∧ W1.grownBy wr none ∧ okUp (b + K.length) S k) := ⟨grownBy_trans HW1.out.1 hG, hG, hok⟩; clear hG hc hok
        by_cases hlt : k < S.length
        · obtain ⟨x, hx⟩ : ∃ x, S[k]? = some x := ⟨S[k], List.getElem?_eq_getElem hlt⟩
          rcases HS.out.2.1.grown0 HG.out.1 with ⟨_, _, h0⟩ | ⟨g, rfl, hA⟩
          · rw [h0] at hx; simp at hx
          obtain ⟨n0, n1, n2, hhd, x0, x1, x2, x3⟩ := hA.get3 hx; have hdl := HS.out.2.2.2 x (List.mem_of_getElem? hx); obtain ⟨e0, e1, e2⟩ := El.hd3 hhd; obtain ⟨lc, hlc⟩ : ∃ lc, lastE S k = lc := ⟨_, rfl⟩
          have HX : Hid (S[k]? = some x ∧ (okUp (b + K.length) S (k + 1) ↔ okUp (b + K.length) S k ∧ (itemOk n0 n1 x.d.length ∧ 0 ≤ n2 ∧ n2 < b + K.length) ∧ lc < n0) ∧ lastE S (k + 1) = n0) :=
            ⟨hx, by have := okUp_succ (b + K.length) S k x hx; unfold okE at this; rw [e0, e1, e2, hlc] at this; exact this, by rw [lastE_succ S k x hx, e0]⟩
          rw [hlc]; clear hx hA e0 e1 e2 hhd hlc; obtain ⟨xh, d, o, cp⟩ := x; simp only at hdl x3 HX; generalize oad o = og at *
          have HB0 : Hid (BoxE (wr.alloc (.cells #[.int .i64 n0, .int .i64 n1, .int .i64 n2, .slice og d.length cp] 74)) w.heap.size wr.heap.size b (.slice ko K.length kc) (.slice (some ⟨g, 0, none⟩) S.length sc) n0 n1 n2 (.slice og d.length cp)) := by
            obtain ⟨hc, -⟩ := bcell (World.grownBy_alloc wr (.cells #[.int .i64 n0, .int .i64 n1, .int .i64 n2, .slice og d.length cp] 74) none); exact ⟨(hc _ _ hp).trans s0, (hc _ _ hp).trans s1, (hc _ _ hp).trans s2, by simp, by simp, by simp, by simp⟩
          have HI : Hid (∀ w', (wr.alloc (.cells #[.int .i64 n0, .int .i64 n1, .int .i64 n2, .slice og d.length cp] 74)).grownBy w' none → Calls Tryd.prog 55 #[.agg #[.int .i64 n0, .int .i64 n1, .int .i64 n2, .slice og d.length cp]] w' fun e w'' => e = .returned (.agg #[.int .i64 n0, .int .i64 n1, .slice og d.length cp]) ∧ BoxE w'' w.heap.size wr.heap.size b (.slice ko K.length kc) (.slice (some ⟨g, 0, none⟩) S.length sc) n0 n1 n2 (.slice og d.length cp) ∧ Hid ((wr.alloc (.cells #[.int .i64 n0, .int .i64 n1, .int .i64 n2, .slice og d.length cp] 74)).grownBy w'' none)) := by
            intro w' hw'; refine (sesItem_any _ _ _ _ _ _ w').mono ?_; rintro e w'' ⟨rfl, hG⟩; exact ⟨rfl, HB0.out.grown (grownBy_trans hw' hG) (by simp; omega) (by simp), grownBy_trans hw' hG⟩
          have HV0 : ∀ w', (wr.alloc (.cells #[.int .i64 n0, .int .i64 n1, .int .i64 n2, .slice og d.length cp] 74)).grownBy w' none → Calls Tryd.prog 28 #[.agg #[.int .i64 n0, .int .i64 n1, .slice og d.length cp]] w' fun e w'' => e = .returned (.bool (decide (itemOk n0 n1 d.length))) ∧ BoxE w'' w.heap.size wr.heap.size b (.slice ko K.length kc) (.slice (some ⟨g, 0, none⟩) S.length sc) n0 n1 n2 (.slice og d.length cp) ∧ Hid ((wr.alloc (.cells #[.int .i64 n0, .int .i64 n1, .int .i64 n2, .slice og d.length cp] 74)).grownBy w'' none) := by
            intro w' hw'; refine (valid_any _ _ _ _ _ w' (by unfold maxLen; omega)).mono ?_; rintro e w'' ⟨rfl, hG⟩; exact ⟨rfl, HB0.out.grown (grownBy_trans hw' hG) (by simp; omega) (by simp), grownBy_trans hw' hG⟩
          obtain ⟨B, hB⟩ : ∃ B, b + (K.length : Int) = B := ⟨_, rfl⟩
          have HC : Hid (∀ w', (wr.alloc (.cells #[.int .i64 n0, .int .i64 n1, .int .i64 n2, .slice og d.length cp] 74)).grownBy w' none → Calls Tryd.prog 38 #[.agg #[.int .i64 b, .slice ko K.length kc, .slice (some ⟨g, 0, none⟩) S.length sc]] w' fun e w'' => e = .returned (.int .i64 B) ∧ BoxE w'' w.heap.size wr.heap.size b (.slice ko K.length kc) (.slice (some ⟨g, 0, none⟩) S.length sc) n0 n1 n2 (.slice og d.length cp) ∧ Hid ((wr.alloc (.cells #[.int .i64 n0, .int .i64 n1, .int .i64 n2, .slice og d.length cp] 74)).grownBy w'' none)) := by
            intro w' hw'; rw [← hB]; refine (countE_any b _ K.length kc _ w' (by omega) hkl).mono ?_; rintro e w'' ⟨rfl, hG⟩; exact ⟨rfl, HB0.out.grown (grownBy_trans hw' hG) (by simp; omega) (by simp), grownBy_trans hw' hG⟩
          rw [hB] at HX HG; have HBB : Hid (b + (K.length : Int) = B) := hB; clear hB
          have hkL : (k : Int) < (S.length : Int) := by omega
          go_upto_region 13 with fail
          have z0 : (wr.alloc (.cells #[.int .i64 n0, .int .i64 n1, .int .i64 n2, .slice og d.length cp] 74)).cell? ⟨wr.heap.size, 0, none⟩ = some (.int .i64 n0) := HB0.out.2.2.2.1
          go_cut [61] from 37 to 64 (fun v wx => ∃ bad : Bool, v = .bool bad ∧ (bad = false ↔ (itemOk n0 n1 d.length ∧ 0 ≤ n2 ∧ n2 < B) ∧ lc < n0) ∧ (wr.alloc (.cells #[.int .i64 n0, .int .i64 n1, .int .i64 n2, .slice og d.length cp] 74)).grownBy wx none)
          case first =>
            by_cases h1 : itemOk n0 n1 d.length
            · have HV : Hid _ := HV0; rw [decide_eq_true h1] at HV; clear HV0
              by_cases h2 : lc < n0
              · have j2 : decide (n0 ≤ lc) = false := by simp; omega
                by_cases h4 : 0 ≤ n2
                · have j4 : decide (n2 < 0) = false := by simp; omega
                  by_cases h3 : n2 < B
                  · have j3 : decide (B ≤ n2) = false := by simp; omega
                    first | go_region_with (first | (go_at_call 55; refine (HI.out _ (by repeat (first | exact grownBy_refl _ _ | apply grownBy_drew | apply grownBy_alloc))).mono ?_; rintro e w5 ⟨rfl, ⟨y0, y1, y2, y3, y4, y5, y6⟩, HG5⟩) | (go_at_call 28; refine (HV.out _ HG5.out).mono ?_; rintro e w6 ⟨rfl, ⟨u0, u1, u2, u3, u4, u5, u6⟩, HG6⟩) | (go_at_call 38; refine (HC.out _ HG6.out).mono ?_; rintro e w7 ⟨rfl, ⟨v0, v1, v2, v3, v4, v5, v6⟩, HG7⟩) | fail) | fail
                    all_goals
                      go_wp2_with fail; go_meet
                      case rel => exact ⟨false, by simp, ⟨fun _ => ⟨⟨h1, h4, h3⟩, h2⟩, fun _ => rfl⟩, HG7.out⟩
                  · have j3 : decide (B ≤ n2) = true := by simp; omega
                    first | go_region_with (first | (go_at_call 55; refine (HI.out _ (by repeat (first | exact grownBy_refl _ _ | apply grownBy_drew | apply grownBy_alloc))).mono ?_; rintro e w5 ⟨rfl, ⟨y0, y1, y2, y3, y4, y5, y6⟩, HG5⟩) | (go_at_call 28; refine (HV.out _ HG5.out).mono ?_; rintro e w6 ⟨rfl, ⟨u0, u1, u2, u3, u4, u5, u6⟩, HG6⟩) | (go_at_call 38; refine (HC.out _ HG6.out).mono ?_; rintro e w7 ⟨rfl, ⟨v0, v1, v2, v3, v4, v5, v6⟩, HG7⟩) | fail) | fail
                    all_goals
                      go_wp2_with fail; go_meet
                      case rel => exact ⟨true, by simp, ⟨fun h => (by cases h), fun h => absurd h.1.2.2 (by omega)⟩, HG7.out⟩
                · have j4 : decide (n2 < 0) = true := by simp; omega
                  first | go_region_with (first | (go_at_call 55; refine (HI.out _ (by repeat (first | exact grownBy_refl _ _ | apply grownBy_drew | apply grownBy_alloc))).mono ?_; rintro e w5 ⟨rfl, ⟨y0, y1, y2, y3, y4, y5, y6⟩, HG5⟩) | (go_at_call 28; refine (HV.out _ HG5.out).mono ?_; rintro e w6 ⟨rfl, ⟨u0, u1, u2, u3, u4, u5, u6⟩, HG6⟩) | fail) | fail
                  all_goals
                    go_wp2_with fail; go_meet
                    case rel => exact ⟨true, by simp, ⟨fun h => (by cases h), fun h => absurd h.1.2.1 (by omega)⟩, HG6.out⟩
              · have j2 : decide (n0 ≤ lc) = true := by simp; omega
                first | go_region_with (first | (go_at_call 55; refine (HI.out _ (by repeat (first | exact grownBy_refl _ _ | apply grownBy_drew | apply grownBy_alloc))).mono ?_; rintro e w5 ⟨rfl, ⟨y0, y1, y2, y3, y4, y5, y6⟩, HG5⟩) | (go_at_call 28; refine (HV.out _ HG5.out).mono ?_; rintro e w6 ⟨rfl, ⟨u0, u1, u2, u3, u4, u5, u6⟩, HG6⟩) | fail) | fail
                all_goals
                  go_wp2_with fail; go_meet
                  case rel => exact ⟨true, by simp, ⟨fun h => (by cases h), fun h => absurd h.2 (by omega)⟩, HG6.out⟩
            · have HV : Hid _ := HV0; rw [decide_eq_false h1] at HV; clear HV0
              first | go_region_with (first | (go_at_call 55; refine (HI.out _ (by repeat (first | exact grownBy_refl _ _ | apply grownBy_drew | apply grownBy_alloc))).mono ?_; rintro e w5 ⟨rfl, ⟨y0, y1, y2, y3, y4, y5, y6⟩, HG5⟩) | (go_at_call 28; refine (HV.out _ HG5.out).mono ?_; rintro e w6 ⟨rfl, ⟨u0, u1, u2, u3, u4, u5, u6⟩, HG6⟩) | fail) | fail
              all_goals
                go_wp2_with fail; go_meet
                case rel => exact ⟨true, by simp, ⟨fun h => (by cases h), fun h => absurd h.1.1 h1⟩, HG6.out⟩
          case rest =>
            obtain ⟨bad, rfl, hbad, hGc⟩ := hcut; have HB1 : Hid (W1.grownBy wc none ∧ w.grownBy wc none) := ⟨grownBy_trans (grownBy_alloc HG.out.2.1 _) hGc, grownBy_trans (grownBy_alloc HG.out.1 _) hGc⟩; have t0 := (HB0.out.grown hGc (by simp; omega) (by simp)).2.2.2.1; have HBAD : Hid (bad = false ↔ (itemOk n0 n1 d.length ∧ 0 ≤ n2 ∧ n2 < B) ∧ lc < n0) := hbad; clear hbad hGc HB0 HI HV0 HC x0 x1 x2 x3 s0 s1 s2 z0
            cases bad
            · go_wp2; go_roundw
              case rel => exact ⟨k + 1, by omega, by go_num, by rw [HX.out.2.2], by rw [HBB.out]; exact HX.out.2.1.2 ⟨HG.out.2.2, HBAD.out.1 rfl⟩, HB1.out.1⟩
              case measure => simp [intOf]; omega
            · go_wp2; go_ret; refine ⟨false, rfl, ⟨fun h => (by cases h), fun h => ?_⟩, HB1.out.2⟩; have h7 := okUp_of h (k + 1); rw [HBB.out] at h7; have h9 := HX.out.2.1.1 h7; have h8 := HBAD.out.2 h9.2
              cases h8
        · obtain rfl : k = S.length := by omega
          go_wp2; go_ret; exact ⟨true, rfl, ⟨fun _ => valid_all hb0 hb1 (by omega) HKK.out HG.out.2.2, fun _ => rfl⟩, HG.out.1⟩
end Go.Proofs.YtdajcpcajdhplaaDoor
