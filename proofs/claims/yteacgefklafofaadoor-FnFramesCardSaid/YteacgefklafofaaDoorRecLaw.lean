/-
  The laws' helpers over slices of records, walked: eqRecordS, markRecordS, heldRecordS.
-/
import Derived.Test.YteacgefklafofaaDoorRecRow
import Derived.Test.YteacgefklafofaaDoorOwnS
import Derived.Test.YteacgefklafofaaDoorRec
import Derived.Deep.RegionWith
namespace Go.Proofs.YteacgefklafofaaDoor
open Go.RowKit

theorem flat_get (R : List Rc) : ∀ (i : Nat) (r : Rc), R[i]? = some r → (R.flatMap Rc.cells)[2 * i]? = some (.int .i64 (r.ty : Int)) ∧ (R.flatMap Rc.cells)[2 * i + 1]? = some (.slice (some ⟨r.g, 0, none⟩) r.data.length r.cp) := by
  induction R with
  | nil => intro i r h; simp at h
  | cons x R ih =>
    intro i r h
    cases i with
    | zero => simp at h; subst h; simp [Rc.cells]
    | succ i =>
      have h1 := ih i r (by simpa using h)
      rw [show 2 * (i + 1) = 2 * i + 2 by omega, show 2 * i + 2 + 1 = 2 * i + 1 + 2 by omega]
      simpa [Rc.cells] using h1
theorem flat_len (R : List Rc) : (R.flatMap Rc.cells).length = R.length * 2 := by
  induction R with
  | nil => rfl
  | cons x R ih => simp [Rc.cells, ih]; omega
/-- a row of records, with its address -/
theorem RecRow.form {w : World} {base : Nat} {v : Value} {R : List Rc} (h : RecRow w base v R) : (v = .slice none 0 0 ∧ R = []) ∨ ∃ g cap cur, v = .slice (some ⟨g, 0, none⟩) R.length cap ∧ base ≤ g ∧ R.length ≤ cap ∧ cap ≤ maxLen ∧ w.heap[g]? = some (.cells cur 33 (0, 0)) ∧
      ∀ i r, R[i]? = some r → cur[2 * i]? = some (.int .i64 (r.ty : Int)) ∧ cur[2 * i + 1]? = some (.slice (some ⟨r.g, 0, none⟩) r.data.length r.cp) := by
  rcases h.1.2 with ⟨rfl, h0⟩ | ⟨g, cap, cur, rfl, hb, hg, hc, hm, hs, htake⟩
  · exact .inl ⟨rfl, List.eq_nil_of_length_eq_zero h0⟩
  · refine .inr ⟨g, cap, cur, rfl, hb, hc, hm, hg, fun i r hr => ?_⟩
    have hi : i < R.length := (List.getElem?_eq_some_iff.1 hr).1
    obtain ⟨h1, h2⟩ := flat_get R i r hr
    rw [← htake] at h1 h2
    rw [List.getElem?_take, if_pos (by omega), Array.getElem?_toList] at h1
    rw [List.getElem?_take, if_pos (by omega), Array.getElem?_toList] at h2
    exact ⟨h1, h2⟩
theorem rec_own {w : World} {base : Nat} {v : Value} {R : List Rc} (h : RecRow w base v R) {i : Nat} {r : Rc} (hr : R[i]? = some r) : Own w 5 r.g r.data := (h.2.1 r (List.mem_of_getElem? hr)).2

/-- a slice of records as it is read -/
def RecSl (w : World) (oa : Option Addr) (R : List Rc) : Prop :=
  ∀ i r, R[i]? = some r → ∃ g, oa = some ⟨g, 0, none⟩ ∧ w.cell? ⟨g, 2 * i, none⟩ = some (.int .i64 (r.ty : Int)) ∧ w.cell? ⟨g, 2 * i + 1, none⟩ = some (.slice (some ⟨r.g, 0, none⟩) r.data.length r.cp) ∧ Own w 5 r.g r.data
theorem RecRow.sl {w : World} {base : Nat} {v : Value} {R : List Rc} (h : RecRow w base v R) : ∃ oa cap, v = .slice oa R.length cap ∧ RecSl w oa R := by
  rcases h.form with ⟨rfl, rfl⟩ | ⟨g, cap, cur, rfl, hb, hc, hm, hg, hcur⟩
  · exact ⟨none, 0, rfl, fun i r hr => by simp at hr⟩
  · refine ⟨some ⟨g, 0, none⟩, cap, rfl, fun i r hr => ⟨g, rfl, ?_, ?_, rec_own h hr⟩⟩
    · simp [World.cell?, hg, (hcur i r hr).1]
    · simp [World.cell?, hg, (hcur i r hr).2]
theorem RecSl.grown {w w' : World} {oa : Option Addr} {R : List Rc} (h : RecSl w oa R) (hg : w.grownBy w' none) : RecSl w' oa R := fun i r hr => by
  obtain ⟨g, h1, h2, h3, h4⟩ := h i r hr
  exact ⟨g, h1, ((bcell hg).1 _ _ (cell_block_lt h2)).trans h2, ((bcell hg).1 _ _ (cell_block_lt h3)).trans h3, h4.grown hg (by simp)⟩

set_option maxRecDepth 100000 in
set_option maxHeartbeats 2000000 in
theorem eqRecordS_same (oa ob : Option Addr) (ca cb : Nat) (R R' : List Rc) (w : World) (h : RecSl w oa R) (h' : RecSl w ob R') (htell : R.map Rc.tell = R'.map Rc.tell) (hlen : R.length ≤ 1048576) (hd : ∀ r ∈ R, r.data.length ≤ 1048576) :
    Calls Tryd.prog 22 #[.slice oa R.length ca, .slice ob R'.length cb] w fun e w' => e = .returned (.bool true) ∧ w.grownBy w' none := by
  have hll : R'.length = R.length := by have := congrArg List.length htell; simpa using this.symm
  rw [hll]
  have HR : Hid (RecSl w oa R ∧ RecSl w ob R') := ⟨h, h'⟩
  have HT : Hid (R.map Rc.tell = R'.map Rc.tell) := htell
  have HD : Hid (∀ r ∈ R, r.data.length ≤ 1048576) := hd
  clear h h' htell hd
  obtain ⟨n, hn⟩ : ∃ n, R.length = n := ⟨_, rfl⟩
  have HN : Hid (R.length = n ∧ R'.length = n) := ⟨hn, by omega⟩
  rw [hn] at hlen ⊢
  clear hll hn
  go_enter Tryd.func22, Tryd.ntmps22
  go_wp2
  go_loopw [5] (fun i wr => ∃ k : Nat, k ≤ n ∧ i = .int .i64 (k : Int) ∧ w.grownBy wr none) (fun i _ => n - (intOf i).toNat)
  case atStart => exact ⟨0, Nat.zero_le _, rfl, grownBy_refl _ _⟩
  case round =>
    obtain ⟨k, hk, rfl, hG⟩ := hrel
    have HG : Hid (w.grownBy wr none) := hG
    clear hG
    by_cases hlt : k < n
    · obtain ⟨r, hr⟩ : ∃ r, R[k]? = some r := ⟨_, List.getElem?_eq_getElem (by rw [HN.out.1]; exact hlt)⟩
      obtain ⟨r', hr'⟩ : ∃ r, R'[k]? = some r := ⟨_, List.getElem?_eq_getElem (by rw [HN.out.2]; exact hlt)⟩
      have het : r.tell = r'.tell := by
        have h1 : (R.map Rc.tell)[k]? = some r.tell := by simp [hr]
        have h2 : (R'.map Rc.tell)[k]? = some r'.tell := by simp [hr']
        rw [HT.out, h2] at h1
        exact (Option.some.inj h1).symm
      obtain ⟨g, rfl, c0, c1, hO⟩ := (HR.out.1.grown HG.out) k r hr
      obtain ⟨g', rfl, c0', c1', hO'⟩ := (HR.out.2.grown HG.out) k r' hr'
      obtain ⟨ty, data, gd, cp⟩ := r
      obtain ⟨ty', data', gd', cp'⟩ := r'
      simp only [Rc.tell, Prod.mk.injEq] at het
      obtain ⟨rfl, rfl⟩ := het
      have hdl := HD.out _ (List.mem_of_getElem? hr)
      simp only at c0 c1 c0' c1' hO hO' hdl
      have HE : Hid (∀ w' : World, w'.heap = wr.heap → Calls _ _ _ w' _) := fun w' hh => eqRecord_same (ty : Int) (some ⟨gd, 0, none⟩) (some ⟨gd', 0, none⟩) data.length cp cp' data w' ((hO.sl _ rfl).heap hh) ((hO'.sl _ rfl).heap hh) (by omega)
      clear hO hO' hr hr'
      have hkI : (k : Int) < (n : Int) := by omega
      rw [Nat.mul_comm 2 k] at c0 c1 c0' c1'
      go_wp2
      go_region_with (first | (go_at_call 16; refine (HE.out wr.drew rfl).mono ?_; rintro e w1 ⟨rfl, hG1⟩) | fail)
      all_goals
        have HG2 : Hid (w.grownBy w1 none) := grownBy_trans HG.out (grownBy_trans (grownBy_drew (grownBy_refl wr none)) hG1)
        clear hG1
        go_wp2
        go_roundw
        case rel => exact ⟨k + 1, by omega, by go_num, HG2.out⟩
        case measure => simp [intOf]; omega
    · obtain rfl : k = n := by omega
      go_wp2
      go_ret
      exact ⟨rfl, HG.out⟩
end Go.Proofs.YteacgefklafofaaDoor
