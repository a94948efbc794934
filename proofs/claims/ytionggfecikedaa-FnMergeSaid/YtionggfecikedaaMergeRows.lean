/-
  The rows of FnMerge: terms and news, in the law's own memory.
-/
import Derived.Test.YtionggfecikedaaMDraw3
import Derived.Test.YtionggfecikedaaMerge
import Derived.Test.YtionggfecikedaaMergeMath2
namespace Go.Proofs.Ytionggfecikedaa
open Go.RowKit

theorem two_slI (w : World) (e : TypeId) : SlI (w.alloc (.cells #[.int .i64 7, .int .i64 7] e)) (some ⟨w.heap.size, 0, none⟩) 2 [7, 7] := by
  refine ⟨rfl, by intro z hz; simp at hz; subst hz; exact ⟨by decide, by decide⟩, fun _ => ⟨w.heap.size, 0, rfl, fun i hi => ?_⟩⟩
  rcases (show i = 0 ∨ i = 1 by omega) with rfl | rfl <;> simp
theorem keepRow {w w' : World} {row : Option Nat} {base e n : Nat} {v : Value} {xs : List Value} (h : w.ownsRow base e 1 v n xs) (hg : w.grownBy w' row) (hne : ∀ g, v.ownBlock = some g → row ≠ some g) : w'.ownsRow base e 1 v n xs :=
  h.kept hg (by
    cases hob : v.ownBlock with
    | none => exact .inl rfl
    | some g => exact .inr (fun e => hne g hob e.symm))
/-- terms T and news N in their rows -/
structure ML (w0 w : World) (B : Nat) (oT : Option Addr) (nT cT : Nat) (oN : Option Addr) (nN cN : Nat) (T N : List Int) : Prop where
  grown : w0.grownBy w none
  low : w0.heap.size ≤ B
  up : B ≤ w.heap.size
  rT : w.ownsRow B 3 1 (.slice oT nT cT) nT (T.map iv)
  rN : w.ownsRow B 3 1 (.slice oN nN cN) nN (N.map iv)
  sT : ∀ z ∈ T, i64Ok z
  sN : ∀ z ∈ N, i64Ok z
theorem ML.more {w0 w w' : World} {B : Nat} {oT : Option Addr} {nT cT : Nat} {oN : Option Addr} {nN cN : Nat} {T N : List Int} (h : ML w0 w B oT nT cT oN nN cN T N) (hg : w.grownBy w' none) : ML w0 w' B oT nT cT oN nN cN T N :=
  ⟨grownBy_trans h.grown hg, h.low, Nat.le_trans h.up hg.size, keepRow h.rT hg (by simp), keepRow h.rN hg (by simp), h.sT, h.sN⟩
theorem ML.slT {w0 w : World} {B : Nat} {oT : Option Addr} {nT cT : Nat} {oN : Option Addr} {nN cN : Nat} {T N : List Int} (h : ML w0 w B oT nT cT oN nN cN T N) : SlI w oT nT T := rowSl h.rT h.sT
theorem ML.slN {w0 w : World} {B : Nat} {oT : Option Addr} {nT cT : Nat} {oN : Option Addr} {nN cN : Nat} {T N : List Int} (h : ML w0 w B oT nT cT oN nN cN T N) : SlI w oN nN N := rowSl h.rN h.sN
/-- two sevens behind the terms -/
theorem MS.sevens {w0 w w2 : World} {s n1 c1 n2 c2 cT : Nat} {zs : List Nat} {o1 o2 oT : Option Addr} {ts ns : List Int} (h : MS w0 w s zs (.slice o1 n1 c1) (.slice o2 n2 c2) ts ns) (h2 : ns.length = n2)
    (hown : w2.ownsRow (s + 1) 3 1 (.slice oT (n1 + 2) cT) (n1 + 2) ((ts ++ [7, 7]).map iv)) (hgr : (w.alloc (.cells #[.int .i64 7, .int .i64 7] 3)).grownBy w2 (Value.slice o1 n1 c1).ownBlock) :
    ML w0 w2 (s + 1) oT (n1 + 2) cT o2 n2 c2 (ts ++ [7, 7]) ns := by
  have hA := World.grownBy_alloc w (.cells #[.int .i64 7, .int .i64 7] 3) none
  have hm := h.more hA
  have hsz := hm.src.lt
  refine ⟨?_, by have := h.low; omega, by have := hgr.size; omega, hown, ?_, ?_, fun z hz => (h.s2 z hz).ok⟩
  · have h5 := hm.grown
    refine ⟨hgr.os.trans h5.os, hgr.tape.trans h5.tape, hgr.output.trans h5.output, Nat.le_trans h5.size hgr.size, fun j hj hne => ?_⟩
    refine (hgr.block j (Nat.lt_of_lt_of_le hj h5.size) (fun e => ?_)).trans (h5.block j hj hne)
    have := (hm.r1.lt j e.symm).1
    have := h.low
    omega
  · have := hm.r2
    rw [h2] at this
    exact keepRow this hgr (fun g hg e => h.apart g e hg)
  · intro z hz
    rcases List.mem_append.1 hz with h9 | h9
    · exact (h.s1 z h9).ok
    · simp at h9; subst h9; exact ⟨by decide, by decide⟩
/-- a copy into new memory -/
theorem copied {w w' : World} {n : Nat} {v : Value} {xs : List Int} (hown : w'.ownsRow w.heap.size 3 1 v n (xs.map iv)) (hgr : (w.alloc (.cells #[] 3)).grownBy w' (Value.slice (some ⟨w.heap.size, 0, none⟩) 0 0).ownBlock) :
    ∃ o c, v = .slice o n c ∧ w'.ownsRow w.heap.size 3 1 (.slice o n c) n (xs.map iv) ∧ w.grownBy w' none := by
  obtain ⟨o, c, rfl, -⟩ := rowForm hown
  exact ⟨o, c, rfl, hown, grownBy_new (World.grownBy_alloc w _ none) hgr (Nat.le_refl _)⟩
theorem emptyRow (w : World) : (w.alloc (.cells #[] 3)).ownsRow w.heap.size 3 1 (.slice (some ⟨w.heap.size, 0, none⟩) 0 0) 0 (([] : List Int).map iv) := World.ownsRow_made w #[] 0 (Nat.le_refl _) (Nat.zero_le _) rfl
/-- the first few of a row -/
theorem row_take {w : World} {base e n m c : Nat} {o : Option Addr} {xs : List Int} (h : w.ownsRow base e 1 (.slice o n c) n (xs.map iv)) (hm : m ≤ n) (hn : 0 < n) : w.ownsRow base e 1 (.slice o m c) m ((xs.take m).map iv) := by
  have hl : xs.length = n := by simpa using h.1
  refine ⟨by simp; omega, ?_⟩
  rcases h.2 with ⟨_, h0⟩ | ⟨g, cap, cur, h0, h1, h2, h3, h4, h5, h6⟩
  · omega
  · simp only [Value.slice.injEq, true_and] at h0
    obtain ⟨rfl, rfl⟩ := h0
    refine .inr ⟨g, c, cur, rfl, h1, h2, by omega, h4, h5, ?_⟩
    rw [Nat.mul_one] at h6 ⊢
    rw [List.map_take, ← h6, List.take_take, Nat.min_eq_left hm]
/-- the merged log in its row, beside terms and news -/
def LogIn (w wx : World) (B D : Nat) (oT : Option Addr) (nT cT : Nat) (oN : Option Addr) (nN cN : Nat) (T N M : List Int) (v : Value) : Prop :=
  ∃ o m c, v = .slice o m c ∧ M.length = m ∧ wx.ownsRow D 3 1 (.slice o m c) m (M.map iv) ∧ ML w wx B oT nT cT oN nN cN T N
theorem LogIn.of {w w6 w7 : World} {B D : Nat} {oT : Option Addr} {nT cT : Nat} {oN : Option Addr} {nN cN : Nat} {T N M xs : List Int} {v v' : Value} {n k : Nat} (h : ML w w6 B oT nT cT oN nN cN T N) (hD : w.heap.size ≤ D) (hr : w6.ownsRow D 3 1 v n (xs.map iv))
    (hT : ∀ g, (Value.slice oT nT cT).ownBlock = some g → g < D) (hN : ∀ g, (Value.slice oN nN cN).ownBlock = some g → g < D) (hM : M.length = k) (hown : w7.ownsRow D 3 1 v' k (M.map iv)) (hgr : w6.grownBy w7 v.ownBlock) : LogIn w w7 B D oT nT cT oN nN cN T N M v' := by
  obtain ⟨o, c, rfl, -⟩ := rowForm hown
  have hb : ∀ g, v.ownBlock = some g → D ≤ g := fun g hg => (hr.lt g hg).1
  refine ⟨o, k, c, rfl, hM, hown, ⟨?_, h.low, Nat.le_trans h.up hgr.size, keepRow h.rT hgr (fun g hg e => by have := hT g hg; have := hb g e; omega), keepRow h.rN hgr (fun g hg e => by have := hN g hg; have := hb g e; omega), h.sT, h.sN⟩⟩
  refine ⟨hgr.os.trans h.grown.os, hgr.tape.trans h.grown.tape, hgr.output.trans h.grown.output, Nat.le_trans h.grown.size hgr.size, fun j hj hne => ?_⟩
  refine (hgr.block j (Nat.lt_of_lt_of_le hj h.grown.size) (fun e => ?_)).trans (h.grown.block j hj hne)
  have := hb j e.symm
  omega
/-- a piece of ints, as the machine points at it -/
theorem sli_cut {w : World} {b off len : Nat} {zs : List Int} (h : SlI w (some ⟨b, off, none⟩) len zs) (i : Nat) (hi : i ≤ len) : SlI w (some ⟨b, off + i, none⟩) (len - i) (zs.drop i) := by
  obtain ⟨h1, h2, h3⟩ := h
  refine ⟨by simp; omega, fun z hz => h2 z (List.mem_of_mem_drop hz), fun hn => ?_⟩
  obtain ⟨b', off', he, hc⟩ := h3 (by omega)
  obtain ⟨rfl, rfl⟩ : b = b' ∧ off = off' := by simpa using he
  refine ⟨b, off + i, rfl, fun j hj => ?_⟩
  rw [Nat.add_assoc, hc (i + j) (by omega)]
  simp [List.getD]
theorem sli_none (w : World) (o : Option Addr) {zs : List Int} (h : zs = []) : SlI w o 0 zs := by
  subst h
  exact ⟨rfl, by simp, fun h => absurd rfl h⟩
theorem sli_zero (w : World) (o : Option Addr) {len : Nat} {zs : List Int} (h : zs.length = len) (hz : len = 0) : SlI w o len zs := by
  subst hz
  exact sli_none w o (List.eq_nil_of_length_eq_zero h)
theorem rowCases {w : World} {B e n c : Nat} {o : Option Addr} {xs : List Value} (h : w.ownsRow B e 1 (.slice o n c) n xs) : (o = none ∧ n = 0 ∧ c = 0) ∨ ∃ g, o = some ⟨g, 0, none⟩ ∧ n ≤ c ∧ c ≤ maxLen := by
  rcases h.2 with ⟨h0, rfl⟩ | ⟨g, cap, cur, h0, h1, h2, h3, h4, h5, h6⟩
  · simp only [Value.slice.injEq] at h0
    exact .inl ⟨h0.1, rfl, h0.2.2⟩
  · simp only [Value.slice.injEq, true_and] at h0
    obtain ⟨rfl, rfl⟩ := h0
    exact .inr ⟨g, rfl, h3, h4⟩
end Go.Proofs.Ytionggfecikedaa
