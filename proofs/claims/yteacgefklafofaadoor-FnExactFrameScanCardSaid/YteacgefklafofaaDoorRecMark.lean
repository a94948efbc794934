/-
  Marks on a slice of records: markRecordS, heldRecordS, walked.
-/
import Derived.Test.YteacgefklafofaaDoorRecLaw
namespace Go.Proofs.YteacgefklafofaaDoor
open Go.RowKit

/-- records in a row of their own, each with bytes of its own -/
def RecAt (w : World) (g : Nat) (R : List Rc) : Prop :=
  (∃ cur : Array Value, w.heap[g]? = some (.cells cur 33 (0, 0)) ∧ ∀ (i : Nat) (r : Rc), R[i]? = some r → cur[i * 2]? = some (.int .i64 (r.ty : Int)) ∧ cur[i * 2 + 1]? = some (.slice (some ⟨r.g, 0, none⟩) r.data.length r.cp)) ∧
  (∀ (i : Nat) (r : Rc), R[i]? = some r → Own w 5 r.g r.data) ∧ (∀ (i j : Nat) (r s : Rc), R[i]? = some r → R[j]? = some s → i ≠ j → r.g ≠ s.g)
theorem RecRow.at {w : World} {base g n cap : Nat} {R : List Rc} (h : RecRow w base (.slice (some ⟨g, 0, none⟩) n cap) R) : RecAt w g R := by
  rcases h.form with ⟨h', _⟩ | ⟨g', cap', cur, h', hb, hc, hm, hg, hcur⟩
  · simp at h'
  · obtain ⟨rfl, -, rfl⟩ : g = g' ∧ n = R.length ∧ cap = cap' := by simpa using h'
    refine ⟨⟨cur, hg, fun i r hr => by rw [Nat.mul_comm i 2]; exact hcur i r hr⟩, fun i r hr => rec_own h hr, fun i j r s hi hj hne => ?_⟩
    have hn := h.2.2
    obtain ⟨hil, rfl⟩ := List.getElem?_eq_some_iff.1 hi
    obtain ⟨hjl, rfl⟩ := List.getElem?_eq_some_iff.1 hj
    have hp := List.pairwise_iff_getElem.1 hn
    rcases Nat.lt_or_gt_of_ne hne with h1 | h1
    · have := hp i j (by simpa using hil) (by simpa using hjl) h1
      simpa using this
    · have := hp j i (by simpa using hjl) (by simpa using hil) h1
      simpa using fun e => this (by simpa using e.symm)
theorem RecAt.lt {w : World} {g : Nat} {R : List Rc} (h : RecAt w g R) : g < w.heap.size := by
  obtain ⟨⟨cur, hg, _⟩, _⟩ := h
  exact (Array.getElem?_eq_some_iff.1 hg).1
theorem RecAt.ne {w : World} {g : Nat} {R : List Rc} (h : RecAt w g R) {i : Nat} {r : Rc} (hr : R[i]? = some r) : r.g ≠ g := by
  obtain ⟨⟨cur, hg, _⟩, hO, _⟩ := h
  intro e
  exact absurd ((hO i r hr).type (e ▸ hg)) (by decide)
theorem RecAt.cells {w : World} {g : Nat} {R : List Rc} (h : RecAt w g R) {i : Nat} {r : Rc} (hr : R[i]? = some r) :
    w.cell? ⟨g, i * 2, none⟩ = some (.int .i64 (r.ty : Int)) ∧ w.cell? ⟨g, i * 2 + 1, none⟩ = some (.slice (some ⟨r.g, 0, none⟩) r.data.length r.cp) ∧ w.frozen? ⟨g, i * 2, none⟩ = false := by
  obtain ⟨⟨cur, hg, hc⟩, _⟩ := h
  exact ⟨by simp [World.cell?, hg, (hc i r hr).1], by simp [World.cell?, hg, (hc i r hr).2], by simp [World.frozen?, hg]⟩
theorem set_get (R : List Rc) (k i : Nat) (x r : Rc) (hk : k < R.length) (h : (R.set k x)[i]? = some r) : (i = k ∧ r = x) ∨ (i ≠ k ∧ R[i]? = some r) := by
  by_cases e : i = k
  · subst e
    rw [List.getElem?_set_self hk] at h
    exact .inl ⟨rfl, (Option.some.inj h).symm⟩
  · rw [List.getElem?_set_ne (Ne.symm e)] at h
    exact .inr ⟨e, h⟩
/-- a record's type is written -/
theorem RecAt.setTy {w : World} {g : Nat} {R : List Rc} (h : RecAt w g R) {k : Nat} {r : Rc} (hr : R[k]? = some r) (m : Nat) : RecAt (w.setCell ⟨g, k * 2, none⟩ (.int .i64 (m : Int))) g (R.set k { r with ty := m }) := by
  have hk : k < R.length := (List.getElem?_eq_some_iff.1 hr).1
  have hne := fun {i : Nat} {s : Rc} (hs : R[i]? = some s) => h.ne hs
  obtain ⟨⟨cur, hg, hc⟩, hO, hd⟩ := h
  refine ⟨⟨cur.setIfInBounds (k * 2) (.int .i64 (m : Int)), heap_setCell_same w g (k * 2) cur _ _ hg, fun i s hs => ?_⟩, fun i s hs => ?_, fun i j s t hs ht hij => ?_⟩
  · rcases set_get R k i _ s hk hs with ⟨rfl, rfl⟩ | ⟨hik, hs'⟩
    · have h1 := hc i r hr
      have hb : i * 2 < cur.size := (Array.getElem?_eq_some_iff.1 h1.1).1
      refine ⟨by simp [hb], ?_⟩
      rw [Array.getElem?_setIfInBounds, if_neg (by omega)]
      exact h1.2
    · have h1 := hc i s hs'
      rw [Array.getElem?_setIfInBounds, if_neg (by omega), Array.getElem?_setIfInBounds, if_neg (by omega)]
      exact h1
  · rcases set_get R k i _ s hk hs with ⟨rfl, rfl⟩ | ⟨hik, hs'⟩
    · exact (hO i r hr).setOther (hne hr)
    · exact (hO i s hs').setOther (hne hs')
  · rcases set_get R k i _ s hk hs with ⟨rfl, rfl⟩ | ⟨hik, hs'⟩
    · rcases set_get R i j _ t hk ht with ⟨rfl, rfl⟩ | ⟨hjk, ht'⟩
      · exact absurd rfl hij
      · exact hd i j r t hr ht' hij
    · rcases set_get R k j _ t hk ht with ⟨rfl, rfl⟩ | ⟨hjk, ht'⟩
      · exact hd i j s r hs' hr hij
      · exact hd i j s t hs' ht' hij
/-- a record's bytes are written -/
theorem RecAt.setData {w w' : World} {g : Nat} {R : List Rc} (h : RecAt w g R) {k : Nat} {r : Rc} (hr : R[k]? = some r) {d : List Nat} (hl : d.length = r.data.length) (hO' : Own w' 5 r.g d) (hgr : w.grownBy w' (some r.g)) : RecAt w' g (R.set k { r with data := d }) := by
  have hk : k < R.length := (List.getElem?_eq_some_iff.1 hr).1
  have hgl := h.lt
  have hne := h.ne hr
  obtain ⟨⟨cur, hg, hc⟩, hO, hd⟩ := h
  refine ⟨⟨cur, (hgr.block g hgl (by simpa using Ne.symm hne)).trans hg, fun i s hs => ?_⟩, fun i s hs => ?_, fun i j s t hs ht hij => ?_⟩
  · rcases set_get R k i _ s hk hs with ⟨rfl, rfl⟩ | ⟨hik, hs'⟩
    · have h1 := hc i r hr
      refine ⟨h1.1, ?_⟩
      simp only [hl]
      exact h1.2
    · exact hc i s hs'
  · rcases set_get R k i _ s hk hs with ⟨rfl, rfl⟩ | ⟨hik, hs'⟩
    · exact hO'
    · exact (hO i s hs').grown hgr (by simpa using hd i k s r hs' hr hik)
  · rcases set_get R k i _ s hk hs with ⟨rfl, rfl⟩ | ⟨hik, hs'⟩
    · rcases set_get R i j _ t hk ht with ⟨rfl, rfl⟩ | ⟨hjk, ht'⟩
      · exact absurd rfl hij
      · exact hd i j r t hr ht' hij
    · rcases set_get R k j _ t hk ht with ⟨rfl, rfl⟩ | ⟨hjk, ht'⟩
      · exact hd i j s r hs' hr hij
      · exact hd i j s t hs' ht' hij
/-- the mark at which record k begins -/
def mAt (R : List Rc) (m : Nat) : Nat → Nat
  | 0 => m
  | k + 1 => mAt R m k + 1 + (R[k]?.map (fun r => r.data.length)).getD 0
def mkd (r : Rc) (m : Nat) : Rc := { r with ty := m, data := marked r.data (m + 1) r.data.length }
def stR (R : List Rc) (m : Nat) : Nat → List Rc
  | 0 => R
  | k + 1 => match R[k]? with
    | some r => (stR R m k).set k (mkd r (mAt R m k))
    | none => stR R m k
theorem stR_len (R : List Rc) (m k : Nat) : (stR R m k).length = R.length := by
  induction k with
  | zero => rfl
  | succ k ih =>
    unfold stR
    split
    · simp [ih]
    · exact ih
theorem stR_get (R : List Rc) (m k i : Nat) : (stR R m k)[i]? = if i < k then R[i]?.map (fun r => mkd r (mAt R m i)) else R[i]? := by
  induction k with
  | zero => simp [stR]
  | succ k ih =>
    unfold stR
    cases hr : R[k]? with
    | none =>
      simp only
      rw [ih]
      by_cases h : i < k
      · rw [if_pos h, if_pos (by omega)]
      · rw [if_neg h]
        by_cases e : i = k
        · subst e; simp [hr]
        · rw [if_neg (by omega)]
    | some r =>
      simp only
      have hk : k < R.length := (List.getElem?_eq_some_iff.1 hr).1
      by_cases e : i = k
      · subst e
        rw [List.getElem?_set_self (by rw [stR_len]; exact hk), if_pos (by omega), hr]
        rfl
      · rw [List.getElem?_set_ne (Ne.symm e), ih]
        by_cases h : i < k
        · rw [if_pos h, if_pos (by omega)]
        · rw [if_neg h, if_neg (by omega)]
theorem mAt_le (R : List Rc) (m k B : Nat) (hB : ∀ r ∈ R, r.data.length ≤ B) : mAt R m k ≤ m + k * (1 + B) := by
  induction k with
  | zero => simp [mAt]
  | succ k ih =>
    have : (R[k]?.map (fun r => r.data.length)).getD 0 ≤ B := by
      cases hr : R[k]? with
      | none => simp
      | some r => simpa using hB r (List.mem_of_getElem? hr)
    simp only [mAt, Nat.add_mul, Nat.one_mul]
    omega

set_option maxRecDepth 100000 in
set_option maxHeartbeats 2000000 in
theorem markRecordS_at (g cap m : Nat) (R : List Rc) (w : World) (base : Nat) (h : RecAt w g R) (hb : base ≤ g) (hbr : ∀ r ∈ R, base ≤ r.g) (hbound : ∀ k, k ≤ R.length → mAt R m k ≤ 1073741000) (hd : ∀ r ∈ R, r.data.length ≤ 1048576) (hlen : R.length ≤ 1048576) :
    Calls Tryd.prog 23 #[.slice (some ⟨g, 0, none⟩) R.length cap, .int .i64 (m : Int)] w fun e w' => e = .returned (.int .i64 ((mAt R m R.length : Nat) : Int)) ∧ RecAt w' g (stR R m R.length) ∧ Below base w w' := by
  have HA : Hid (RecAt w g R) := h
  have HB : Hid ((∀ r ∈ R, base ≤ r.g) ∧ (∀ k, k ≤ R.length → mAt R m k ≤ 1073741000) ∧ ∀ r ∈ R, r.data.length ≤ 1048576) := ⟨hbr, hbound, hd⟩
  clear h hbr hbound hd
  obtain ⟨n, hn⟩ : ∃ n, R.length = n := ⟨_, rfl⟩
  have HN : Hid (R.length = n) := hn
  rw [hn] at hlen ⊢
  clear hn
  go_enter Tryd.func23, Tryd.ntmps23
  go_wp2
  go_loopw [1, 5] (fun q i wr => ∃ k : Nat, k ≤ n ∧ i = .int .i64 (k : Int) ∧ q = .int .i64 ((mAt R m k : Nat) : Int) ∧ RecAt wr g (stR R m k) ∧ Below base w wr) (fun _ i _ => n - (intOf i).toNat)
  case atStart => exact ⟨0, Nat.zero_le _, rfl, rfl, HA.out, Below.refl _ _⟩
  case round =>
    obtain ⟨k, hk, rfl, rfl, hRA, hBw⟩ := hrel
    have HR : Hid (RecAt wr g (stR R m k) ∧ Below base w wr) := ⟨hRA, hBw⟩
    by_cases hlt : k < n
    · obtain ⟨r, hr⟩ : ∃ r, R[k]? = some r := ⟨_, List.getElem?_eq_getElem (by rw [HN.out]; exact hlt)⟩
      have hsr : (stR R m k)[k]? = some r := by rw [stR_get, if_neg (by omega)]; exact hr
      have hMb := HB.out.2.1 k (by rw [HN.out]; omega)
      have hdl := HB.out.2.2 r (List.mem_of_getElem? hr)
      have hgr := HB.out.1 r (List.mem_of_getElem? hr)
      obtain ⟨c0, c1, f0⟩ := hRA.cells hsr
      have hne := hRA.ne hsr
      obtain ⟨M, hM⟩ : ∃ M, mAt R m k = M := ⟨_, rfl⟩
      have HM : Hid (mAt R m k = M ∧ mAt R m (k + 1) = M + 1 + r.data.length) := ⟨hM, by simp [mAt, hM, hr]⟩
      have HX : Hid (RecAt (wr.setCell ⟨g, k * 2, none⟩ (.int .i64 (M : Int))) g ((stR R m k).set k { r with ty := M })) := hRA.setTy hsr M
      have HO : Hid (Own (wr.setCell ⟨g, k * 2, none⟩ (.int .i64 (M : Int))) 5 r.g r.data) := (hRA.2.1 k r hsr).setOther hne
      have HK : Hid (Calls _ _ _ _ _) := markByteS_own r.g r.data.length r.cp (M + 1) r.data (wr.setCell ⟨g, k * 2, none⟩ (.int .i64 (M : Int))) HO.out rfl (by omega) (by omega)
      have hbel : Below base w (wr.setCell ⟨g, k * 2, none⟩ (.int .i64 (M : Int))) := hBw.setCell (p := ⟨g, k * 2, none⟩) hb _
      have c12 : (wr.setCell ⟨g, k * 2, none⟩ (.int .i64 (M : Int))).cell? ⟨g, k * 2 + 1, none⟩ = some (.slice (some ⟨r.g, 0, none⟩) r.data.length r.cp) := by
        have hk' : k < (stR R m k).length := (List.getElem?_eq_some_iff.1 hsr).1
        exact (HX.out.cells (i := k) (r := { r with ty := M }) (List.getElem?_set_self hk')).2.1
      have HBel : Hid (Below base w (wr.setCell ⟨g, k * 2, none⟩ (.int .i64 (M : Int)))) := hbel
      have HS : Hid (R[k]? = some r ∧ (stR R m k)[k]? = some r) := ⟨hr, hsr⟩
      rw [hM] at hMb ⊢
      clear hRA hBw hbel hr hsr hM
      obtain ⟨rty, rdata, rg, rcp⟩ := r
      simp only at *
      rw [show ((M + 1 : Nat) : Int) = (M : Int) + 1 by omega] at HK
      go_wp2_with fail
      refine HK.out.mono ?_
      rintro e w1 ⟨rfl, hO1, hG1⟩
      have HF : Hid (RecAt w1 g (stR R m (k + 1)) ∧ Below base w w1) := by
        have hk' : k < (stR R m k).length := (List.getElem?_eq_some_iff.1 HS.out.2).1
        refine ⟨?_, HBel.out.grown hG1 (by have := HX.out.lt; omega) (fun j e => by cases e; exact hgr)⟩
        have h1 := HX.out.setData (k := k) (r := ⟨M, rdata, rg, rcp⟩) (List.getElem?_set_self hk') (d := marked rdata (M + 1) rdata.length) (marked_len _ _ _) hO1 hG1
        have h2 : stR R m (k + 1) = (stR R m k).set k (mkd ⟨rty, rdata, rg, rcp⟩ M) := by
          conv => lhs; unfold stR
          rw [HS.out.1]
          simp only [HM.out.1]
        rw [h2]
        rw [List.set_set] at h1
        exact h1
      clear hO1 hG1 HK HX HO HBel
      go_wp2
      go_roundw
      case rel => exact ⟨k + 1, by omega, by go_num, by rw [HM.out.2]; go_num, HF.out.1, HF.out.2⟩
      case measure => simp [intOf]; omega
    · obtain rfl : k = n := by omega
      obtain ⟨M, hM⟩ : ∃ M, mAt R m k = M := ⟨_, rfl⟩
      have HM : Hid (mAt R m k = M) := hM
      rw [hM]
      clear hRA hBw hM
      go_wp2
      go_ret
      exact ⟨by rw [HM.out]; rfl, HR.out.1, HR.out.2⟩

set_option maxRecDepth 100000 in
set_option maxHeartbeats 2000000 in
theorem heldRecordS_at (g cap m : Nat) (R : List Rc) (w : World) (h : RecAt w g (stR R m R.length)) (hbound : ∀ k, k ≤ R.length → mAt R m k ≤ 1073741000) (hd : ∀ r ∈ R, r.data.length ≤ 1048576) (hlen : R.length ≤ 1048576) :
    Calls Tryd.prog 24 #[.slice (some ⟨g, 0, none⟩) R.length cap, .int .i64 (m : Int)] w fun e w' => e = .returned (.int .i64 ((mAt R m R.length : Nat) : Int)) ∧ w' = w := by
  have HA : Hid (RecAt w g (stR R m R.length)) := h
  have HB : Hid ((∀ k, k ≤ R.length → mAt R m k ≤ 1073741000) ∧ ∀ r ∈ R, r.data.length ≤ 1048576) := ⟨hbound, hd⟩
  clear h hbound hd
  obtain ⟨n, hn⟩ : ∃ n, R.length = n := ⟨_, rfl⟩
  have HN : Hid (R.length = n) := hn
  rw [hn] at hlen HA ⊢
  clear hn
  go_enter Tryd.func24, Tryd.ntmps24
  go_wp2
  go_loop [1, 5] (fun q i => ∃ k : Nat, k ≤ n ∧ i = .int .i64 (k : Int) ∧ q = .int .i64 ((mAt R m k : Nat) : Int)) (fun _ i => n - (intOf i).toNat)
  case atStart => exact ⟨0, Nat.zero_le _, rfl, rfl⟩
  case round =>
    obtain ⟨k, hk, rfl, rfl⟩ := hrel
    by_cases hlt : k < n
    · obtain ⟨r, hr⟩ : ∃ r, R[k]? = some r := ⟨_, List.getElem?_eq_getElem (by rw [HN.out]; exact hlt)⟩
      have hsr : (stR R m n)[k]? = some (mkd r (mAt R m k)) := by rw [stR_get, if_pos hlt, hr]; rfl
      have hMb := HB.out.1 k (by rw [HN.out]; omega)
      have hdl := HB.out.2 r (List.mem_of_getElem? hr)
      obtain ⟨c0, c1, f0⟩ := HA.out.cells hsr
      have hO := HA.out.2.1 k _ hsr
      obtain ⟨M, hM⟩ : ∃ M, mAt R m k = M := ⟨_, rfl⟩
      have HM : Hid (mAt R m (k + 1) = M + 1 + r.data.length) := by show _ = _; simp [mAt, hM, hr]
      rw [hM] at c0 c1 hO hMb ⊢
      obtain ⟨rty, rdata, rg, rcp⟩ := r
      simp only [mkd, marked_len] at *
      have HK : Hid (Calls _ _ _ _ _) := heldByteS_own rg rdata.length rcp (M + 1) (marked rdata (M + 1) rdata.length) w hO (marked_len _ _ _) (fun i hi => marked_get _ _ _ _ hi hi) (by omega) (by omega)
      rw [show ((M + 1 : Nat) : Int) = (M : Int) + 1 by omega] at HK
      clear hr hsr hM hO f0
      go_wp2_with fail
      refine HK.out.mono ?_
      clear HK
      rintro e w1 ⟨rfl, rfl⟩
      go_wp2
      go_round
      case rel => exact ⟨k + 1, by omega, by go_num, by rw [HM.out]; go_num⟩
      case measure => simp [intOf]; omega
    · obtain rfl : k = n := by omega
      obtain ⟨M, hM⟩ : ∃ M, mAt R m k = M := ⟨_, rfl⟩
      have HM : Hid (mAt R m k = M) := hM
      rw [hM]
      clear hM
      go_wp2
      go_ret
      exact ⟨by rw [HM.out]; rfl, rfl⟩
end Go.Proofs.YteacgefklafofaaDoor
