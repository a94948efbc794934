/-
  append of ints onto a row of the call's own (or nil), from whatever source (nil, empty, cut). Nothing here reaches the dump.
-/
import Derived.Test.YtionggfecikedaaBaseI
import Derived.Deep.AppendLies
namespace Go.Proofs.Ytionggfecikedaa
open Go.RowKit

theorem SlI.src {w : World} {oa : Option Addr} {m : Nat} {zs : List Int} (h : SlI w oa m zs) (hm : 0 < m) : ∃ ad, oa = some ad ∧ ∀ j u, (zs.map iv)[j]? = some u → w.cell? (ad.add j) = some u := by
  obtain ⟨h1, h2, h3⟩ := h
  obtain ⟨b, off, rfl, hc⟩ := h3 (by omega)
  refine ⟨_, rfl, fun j v hj => ?_⟩
  have hjl : j < zs.length := by
    have := (List.getElem?_eq_some_iff.1 hj).1
    simpa using this
  have e1 : (⟨b, off, none⟩ : Addr).add j = ⟨b, off + j, none⟩ := by
    by_cases h0' : j = 0 <;> simp [Addr.add, h0']
  rw [e1, hc j (by omega), ← hj]
  simp [List.getD, hjl, iv]
theorem iv_one (zs : List Int) : ∀ v ∈ zs.map iv, v.oneCell' = true := by
  intro v hv; obtain ⟨z, _, rfl⟩ := List.mem_map.1 hv; rfl

structure IntT (P : Program) (t e : TypeId) (i : TypeInfo) : Prop where
  und : P.underlying t = some (.slice e)
  info : P.info? e = some i
  zero : i.zero = some (.int .i64 0)
  size : i.size = 1
  bytes : i.bytes = 8

theorem run_append_i {P : Program} {w : World} {t ty e : TypeId} {i : TypeInfo} (T : IntT P t e i) {base n : Nat} {v : Value} {xs : List Int} (hown : w.ownsRow base e 1 v n (xs.map iv))
    {oa : Option Addr} {m c : Nat} {zs : List Int} (hsrc : SlI w oa m zs) (hb : n + m ≤ 1099511627776) (hbase : base ≤ w.heap.size) :
    ∃ v' w', (Builtin.append_ #[t, t] ty #[v, .slice oa m c]).run P w = .ok v' w' ∧
      w'.ownsRow base e 1 v' (n + m) ((xs ++ zs).map iv) ∧ w.grownBy w' v.ownBlock ∧ (∀ g', v'.ownBlock = some g' → v.ownBlock = some g' ∨ g' = w.heap.size) ∧ w.heap.size ≤ w'.heap.size := by
  by_cases hm : m = 0
  · subst hm
    obtain rfl : zs = [] := List.eq_nil_of_length_eq_zero hsrc.1
    refine ⟨v, w, ?_, by simpa using hown, grownBy_refl _ _, fun g' h => .inl h, Nat.le_refl _⟩
    rcases hown.2 with ⟨rfl, rfl⟩ | ⟨g', cap', cur, rfl, _, hg, hnc, _⟩
    · cases oa with
      | none => simp [Builtin.append_, run_underlying T.und, sizeOf, typeInfo, T.info, Builtin.lenOf, Builtin.firstCells]
      | some a =>
        have hf := run_firstCells_some (P := P) w i.size 0 a 0 c [] (by simp) (by simp)
        simp [Builtin.append_, run_underlying T.und, sizeOf, typeInfo, T.info, Builtin.lenOf, hf]
    · cases oa with
      | none => simp [Builtin.append_, run_underlying T.und, sizeOf, typeInfo, T.info, Builtin.lenOf, Builtin.firstCells, hnc, storeCells]
      | some a =>
        have hf := run_firstCells_some (P := P) w i.size 0 a 0 c [] (by simp) (by simp)
        simp [Builtin.append_, run_underlying T.und, sizeOf, typeInfo, T.info, Builtin.lenOf, hf, hnc, storeCells]
  · obtain ⟨ad, rfl, hnews⟩ := hsrc.src (by omega)
    obtain ⟨g', cap', w', hr, ho, hg, hat, hlt⟩ := run_append_lies (P := P) w t ty base e i (.int .i64 0) 1 8 T.und T.info T.zero T.size T.bytes rfl (by decide) v n (xs.map iv) hown ad m c (zs.map iv) (by simpa using hsrc.1) hnews (iv_one zs) (by omega) (by unfold maxLen; omega) (by omega) hbase w.heap.size rfl
    refine ⟨.slice (some ⟨g', 0, none⟩) (n + m) cap', w', hr, by simpa using ho, hg, fun g'' h => ?_, hg.size⟩
    obtain rfl : g' = g'' := by simpa [Value.ownBlock] using h
    exact hat

theorem wpList_append_i {P : Program} {w : World} {ops : Array Oper} {rest : List Oper} {o : Oper} {a : Act} {Q : Exit → Act → World → Prop} (hgd : o.guard = none) (s x : Operand) {t e : TypeId} {i : TypeInfo} (T : IntT P t e i)
    (ho : o.op = .call { callee := .builtin .append, args := #[s, x], argTypes := #[t, t] }) {base n : Nat} {v : Value} {xs : List Int} (hs : a.eval s = v) (hown : w.ownsRow base e 1 v n (xs.map iv))
    {oa : Option Addr} {m c : Nat} {zs : List Int} (hx : a.eval x = .slice oa m c) (hsrc : SlI w oa m zs) (hb : n + m ≤ 1099511627776) (hbase : base ≤ w.heap.size)
    (h : ∀ v' w', Hid (w'.ownsRow base e 1 v' (n + m) ((xs ++ zs).map iv)) → Hid (w.grownBy w' v.ownBlock) → Hid (∀ g', v'.ownBlock = some g' → v.ownBlock = some g' ∨ g' = w.heap.size) → Hid (w.heap.size ≤ w'.heap.size) → wpList P ops Q rest (a.put o.dst v') w') :
    wpList P ops Q (o :: rest) a w := by
  refine wpList_plain hgd fun K hK => ?_
  obtain ⟨v', w', hrun, h1, h2, h3, h4⟩ := run_append_i (ty := o.type) (c := c) T hown hsrc hb hbase
  unfold Oper.wp
  simp [execOp, ho, resolve, invoke, builtin, hs, hx, hrun, Result.andThen]
  exact hK _ _ (h v' w' h1 h2 h3 h4)
/-- a row's value is a slice of its length -/
theorem rowForm {w : World} {base e n : Nat} {v : Value} {xs : List Value} (h : w.ownsRow base e 1 v n xs) : ∃ oa cp, v = .slice oa n cp ∧ n ≤ cp ∧ cp ≤ maxLen ∧ (∀ g, v.ownBlock = some g → oa = some ⟨g, 0, none⟩) := by
  rcases h.2 with ⟨rfl, rfl⟩ | ⟨g, cap, cur, rfl, _, _, h1, h2, _⟩
  · exact ⟨none, 0, rfl, Nat.le_refl _, Nat.zero_le _, fun g hg => by cases hg⟩
  · exact ⟨_, cap, rfl, h1, h2, fun g' hg' => by simp [Value.ownBlock] at hg'; rw [hg']⟩
theorem rowSl {w : World} {base e n : Nat} {oa : Option Addr} {cp : Nat} {xs : List Int} (h : w.ownsRow base e 1 (.slice oa n cp) n (xs.map iv)) (hz : ∀ z ∈ xs, i64Ok z) : SlI w oa n xs := by
  have hl : xs.length = n := by simpa using h.1
  rcases h.2 with ⟨h0, rfl⟩ | ⟨g, cap, cur, h0, _⟩
  · obtain rfl : xs = [] := List.eq_nil_of_length_eq_zero hl
    exact ⟨rfl, by simp, fun h => absurd rfl h⟩
  · simp only [Value.slice.injEq, true_and] at h0
    obtain ⟨rfl, rfl⟩ := h0
    exact (ownI_made h hz).sl n hl
end Go.Proofs.Ytionggfecikedaa
