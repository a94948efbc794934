/-
  DecodeState, the model's: what it needs.
-/
import Derived.Test.YtionggfecikedaaStDec2
import Derived.Test.YtionggfecikedaaSpEnc2
import Derived.Test.YtionggfecikedaaItemDec2
import Derived.Test.YtionggfecikedaaStrB
namespace Go.Proofs.Ytionggfecikedaa
open Go.RowKit

/-- one session more, in a region that draws -/
theorem step_append_s {w : World} {ops : Array Oper} {o : Oper} {a : Act} {K : Act → World → Prop} {Q : Exit → Act → World → Prop} {E : Prop} (hgd : o.guard = none) (s x : Operand)
    (ho : o.op = .call { callee := .builtin .append, args := #[s, x], argTypes := #[55, 55] }) {base k Y : Nat} {v : Value} {xs : List Value} (hs : a.eval s = v) (hown : w.ownsRow base 79 4 v k xs)
    (hx : a.eval x = .slice (some ⟨Y, 0, none⟩) 1 1) {c q i : Int} {og : Option Addr} {n cp : Nat} (hY : w.heap[Y]? = some (.cells #[.int .i64 c, .int .i64 q, .int .i64 i, .slice og n cp] 79 (0, 0))) (hk : k ≤ 1000000000) (hbase : base ≤ w.heap.size)
    (h : ∀ g' cap' w', Hid (w'.ownsRow base 79 4 (.slice (some ⟨g', 0, none⟩) (k + 1) cap') (k + 1) (xs ++ [.int .i64 c, .int .i64 q, .int .i64 i, .slice og n cp])) → Hid (w.grownBy w' v.ownBlock) → K (a.put o.dst (.slice (some ⟨g', 0, none⟩) (k + 1) cap')) w') :
    if Region.wanted o (yielded ops a.tmps) = true then Oper.wp Try.prog o a w K Q else E := by
  have hw : Region.wanted o (yielded ops a.tmps) = true := by simp [Region.wanted, hgd]
  rw [if_pos hw]
  obtain ⟨ir, hri, hr0, hr1, hr2⟩ := info_parts Try.infoSes
  obtain ⟨v', w', hrun, r1, r2, -⟩ := run_append_own (P := Try.prog) w base 55 o.type 79 ir (.agg #[.int .i64 0, .int .i64 0, .int .i64 0, .slice none 0 0]) 4 48 Try.underlying55 hri hr0 hr1 hr2 rfl (by decide) v k xs hown ⟨Y, 0, none⟩ 1 1 [.int .i64 c, .int .i64 q, .int .i64 i, .slice og n cp] rfl (by
    intro j u hj
    match j, hj with
    | 0, hj => simp at hj; subst hj; simp [Addr.add, World.cell?, hY]
    | 1, hj => simp at hj; subst hj; simp [Addr.add, World.cell?, hY]
    | 2, hj => simp at hj; subst hj; simp [Addr.add, World.cell?, hY]
    | 3, hj => simp at hj; subst hj; simp [Addr.add, World.cell?, hY]) (by intro u hu; simp at hu; rcases hu with rfl | rfl | rfl | rfl <;> rfl) (by unfold maxLen; omega) (by omega) hbase
  obtain ⟨g', cap', rfl⟩ : ∃ g' c', v' = .slice (some ⟨g', 0, none⟩) (k + 1) c' := by
    rcases r1.2 with ⟨_, h'⟩ | ⟨g', cap', cur, h', _⟩
    · omega
    · exact ⟨g', cap', h'⟩
  unfold Oper.wp
  simp [execOp, ho, resolve, invoke, builtin, hs, hx, hrun, Result.andThen]
  exact h g' cap' w' r1 r2
/-- eight bytes of the whole, as the model takes them -/
def at8 (zs : List Nat) (A : Nat) : Nat := satVal ((zs.drop A).take 8)
theorem at8_le (zs : List Nat) (hz : ∀ z ∈ zs, z < 256) (A : Nat) : at8 zs A ≤ 4611686018427387904 := by
  unfold at8 satVal
  split
  · exact Nat.le_refl _
  · rename_i h
    have hb : ∀ z ∈ (zs.drop A).take 8, z < 256 := fun z hz' => hz z (List.mem_of_mem_drop (List.mem_of_mem_take hz'))
    cases hl : (zs.drop A).take 8 with
    | nil => simp [leVal]
    | cons c l =>
      rw [hl] at h hb
      simp only [List.drop_succ_cons, List.drop_zero] at h
      have := hb c (by simp)
      simp only [leVal]
      omega
theorem at8_of (zs t : List Nat) (A v : Nat) (h : zs.drop A = leN v 8 ++ t) (hv : v ≤ 1000000000) : at8 zs A = v := by
  unfold at8 satVal
  have e : (zs.drop A).take 8 = leN v 8 := by rw [h, List.take_append_of_le_length (by rw [leN_len]; exact Nat.le_refl _), List.take_of_length_le (by rw [leN_len]; exact Nat.le_refl _)]
  rw [e]
  have hv8 : leVal (leN v 8) = v := leVal_leN 8 v (by omega)
  have hd : leVal ((leN v 8).drop 1) ≤ v := by
    cases hl : leN v 8 with
    | nil => simp [leVal]
    | cons c l =>
      rw [hl] at hv8
      simp only [List.drop_succ_cons, List.drop_zero]
      simp only [leVal] at hv8
      omega
  rw [if_neg (by omega), hv8]
/-- one more session of the bytes -/
theorem next_is {b' A : Nat} {l' l : List Sn} {zs : List Nat} (hV : ValidS b' l') (he : encSt b' l' = zs) (hl : l'.take l.length = l) (hle : l.length < l'.length) (hA : A = 16 + (encL l).length) :
    ∃ y t, okS y ∧ y.i < b' ∧ zs.drop A = encS y ++ t ∧ l'.take (l.length + 1) = l ++ [y] := by
  refine ⟨l'[l.length], encL (l'.drop (l.length + 1)), (hV.2.1 _ (List.getElem_mem hle)).1, (hV.2.1 _ (List.getElem_mem hle)).2, ?_, ?_⟩
  · have e1 : l' = l ++ l'[l.length] :: l'.drop (l.length + 1) := by
      rw [← List.drop_eq_getElem_cons hle]
      conv => rhs; lhs; rw [← hl]
      exact (List.take_append_drop _ _).symm
    have e2 : zs = (leN b' 8 ++ (leN l'.length 8 ++ encL l)) ++ (encS l'[l.length] ++ encL (l'.drop (l.length + 1))) := by
      rw [← he, encSt]
      conv => lhs; rw [show encL l' = encL (l ++ l'[l.length] :: l'.drop (l.length + 1)) from congrArg encL e1]
      rw [encL_append, encL_cons]
      simp only [List.append_assoc]
    rw [e2, List.drop_append_of_le_length (by simp [leN_len]; omega), List.drop_of_length_le (by simp [leN_len]; omega), List.nil_append]
  · rw [List.take_succ_eq_append_getElem hle, hl]
theorem encS_at (y : Sn) (t zs : List Nat) (A : Nat) (h : zs.drop A = encS y ++ t) (hy : okS y) (hi : y.i ≤ 1000000) : at8 zs A = y.c ∧ at8 zs (A + 8) = y.q ∧ at8 zs (A + 16) = y.i ∧ at8 zs (A + 24) = y.d.length ∧ (zs.drop (A + 32)).take y.d.length = y.d ∧ A + 32 + y.d.length ≤ zs.length := by
  obtain ⟨h1, h2, h3, h4, h5⟩ := hy
  unfold encS at h
  simp only [List.append_assoc] at h
  have d8 : zs.drop (A + 8) = leN y.q 8 ++ (leN y.i 8 ++ (leN y.d.length 8 ++ (y.d ++ t))) := by
    rw [← List.drop_drop, h, List.drop_append_of_le_length (by rw [leN_len]; exact Nat.le_refl _), List.drop_of_length_le (by rw [leN_len]; exact Nat.le_refl _), List.nil_append]
  have d16 : zs.drop (A + 16) = leN y.i 8 ++ (leN y.d.length 8 ++ (y.d ++ t)) := by
    rw [show A + 16 = A + 8 + 8 by omega, ← List.drop_drop, d8, List.drop_append_of_le_length (by rw [leN_len]; exact Nat.le_refl _), List.drop_of_length_le (by rw [leN_len]; exact Nat.le_refl _), List.nil_append]
  have d24 : zs.drop (A + 24) = leN y.d.length 8 ++ (y.d ++ t) := by
    rw [show A + 24 = A + 16 + 8 by omega, ← List.drop_drop, d16, List.drop_append_of_le_length (by rw [leN_len]; exact Nat.le_refl _), List.drop_of_length_le (by rw [leN_len]; exact Nat.le_refl _), List.nil_append]
  have d32 : zs.drop (A + 32) = y.d ++ t := by
    rw [show A + 32 = A + 24 + 8 by omega, ← List.drop_drop, d24, List.drop_append_of_le_length (by rw [leN_len]; exact Nat.le_refl _), List.drop_of_length_le (by rw [leN_len]; exact Nat.le_refl _), List.nil_append]
  refine ⟨at8_of _ _ _ _ h (by omega), at8_of _ _ _ _ d8 (by omega), at8_of _ _ _ _ d16 (by omega), at8_of _ _ _ _ d24 (by omega), ?_, ?_⟩
  · rw [d32, List.take_append_of_le_length (Nat.le_refl _), List.take_of_length_le (Nat.le_refl _)]
  · have hA := congrArg List.length h
    simp [leN_len] at hA
    omega
end Go.Proofs.Ytionggfecikedaa
