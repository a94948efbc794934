/-
  FnFrames: what is read behind the first loop; a changed byte.
-/
import Derived.Test.YteacgefklafofaaDoorFramesLay
import Derived.Test.YteacgefklafofaaDoorRecLaw
namespace Go.Proofs.YteacgefklafofaaDoor
open Go.RowKit

theorem row_caps {w : World} {base e g n c : Nat} {xs : List Value} (h : w.ownsRow base e 1 (.slice (some ⟨g, 0, none⟩) n c) n xs) : n ≤ c ∧ c ≤ maxLen ∧ base ≤ g ∧ g < w.heap.size := by
  have hlt := h.lt g rfl
  rcases h.2 with ⟨h0, rfl⟩ | ⟨g', cap, cur, h0, h1, h2, h3, h4, h5, h6⟩
  · simp at h0
  · simp only [Value.slice.injEq, Option.some.injEq, Addr.mk.injEq, and_true, true_and] at h0
    obtain ⟨rfl, rfl⟩ := h0
    exact ⟨h3, h4, hlt.1, hlt.2⟩
theorem row_cell {w : World} {base e g n c : Nat} {xs : List Value} (h : w.ownsRow base e 1 (.slice (some ⟨g, 0, none⟩) n c) n xs) {i : Nat} {v : Value} (hi : xs[i]? = some v) : w.cell? ⟨g, i, none⟩ = some v := by
  rcases h.2 with ⟨h0, rfl⟩ | ⟨g', cap, cur, h0, h1, h2, h3, h4, h5, h6⟩
  · simp at h0
  · simp only [Value.slice.injEq, Option.some.injEq, Addr.mk.injEq, and_true, true_and] at h0
    obtain ⟨rfl, rfl⟩ := h0
    rw [← h6, List.getElem?_take] at hi
    split at hi
    · rw [Array.getElem?_toList] at hi
      simp [World.cell?, h2, hi]
    · simp at hi
theorem endAt_zero (l : List (Nat × List Nat)) : endAt l 0 = 0 := by simp [endAt, encAll]
theorem endAt_all (l : List (Nat × List Nat)) : endAt l l.length = (encAll l).length := by simp [endAt]
theorem encAll_append (a b : List (Nat × List Nat)) : encAll (a ++ b) = encAll a ++ encAll b := by simp [encAll]
theorem endAt_succ (l : List (Nat × List Nat)) (k : Nat) (hk : k < l.length) : endAt l (k + 1) = endAt l k + (enc (l[k]).1 (l[k]).2).length := by
  unfold endAt
  rw [List.take_succ_eq_append_getElem hk, encAll_append, List.length_append]
  simp [encAll]
theorem endAt_le (l : List (Nat × List Nat)) (k : Nat) : endAt l k ≤ (encAll l).length := by
  have h := encAll_append (l.take k) (l.drop k)
  rw [List.take_append_drop] at h
  rw [h, List.length_append]
  exact Nat.le_add_right _ _
theorem endsV_get (l : List (Nat × List Nat)) (i : Nat) (hi : i ≤ l.length) : (endsV l)[i]? = some (.int .i64 ((endAt l i : Nat) : Int)) := by
  unfold endsV
  rw [List.getElem?_map, List.getElem?_range (by omega)]
  rfl
/-- one byte changed, not in a length: the scan stops ahead of its record -/
theorem scan_set (l : List (Nat × List Nat)) (hg : ∀ p ∈ l, Good p) (k i v : Nat) (hk : k < l.length) (h1 : endAt l k + 4 ≤ i) (h2 : i < endAt l (k + 1)) (hv : v < 256) (hne : v ≠ (encAll l).getD i 0) :
    (scan ((encAll l).set i v)).1.length = k ∧ (scan ((encAll l).set i v)).2.1 = endAt l k ∧ (scan ((encAll l).set i v)).2.2 ≠ 0 := by
  have e0 : l = l.take k ++ l[k] :: l.drop (k + 1) := by rw [← List.drop_eq_getElem_cons hk, List.take_append_drop]
  have e1 : encAll l = encAll (l.take k) ++ (enc (l[k]).1 (l[k]).2 ++ encAll (l.drop (k + 1))) := by
    have h3 := encAll_append (l.take k) (l[k] :: l.drop (k + 1))
    rw [← e0] at h3
    rw [h3]
    rfl
  have hs := endAt_succ l k hk
  have ha : (encAll (l.take k)).length = endAt l k := rfl
  have e2 : (encAll l).set i v = encAll (l.take k) ++ ((enc (l[k]).1 (l[k]).2).set (i - endAt l k) v ++ encAll (l.drop (k + 1))) := by
    rw [e1, List.set_append_right _ _ (by omega), ha, List.set_append_left _ _ (by omega)]
  have hgk : Good l[k] := hg _ (List.getElem_mem hk)
  have hne' : v ≠ (enc (l[k]).1 (l[k]).2).getD (i - endAt l k) 0 := by
    have : (encAll l).getD i 0 = (enc (l[k]).1 (l[k]).2).getD (i - endAt l k) 0 := by
      rw [e1, List.getD_eq_getElem?_getD, List.getElem?_append_right (by omega), ha, List.getElem?_append_left (by omega), List.getD_eq_getElem?_getD]
    rw [← this]
    exact hne
  obtain ⟨r1, r2, r3⟩ := scan_changed (l.take k) (fun q hq => hg q (List.mem_of_mem_take hq)) l[k] hgk (encAll (l.drop (k + 1))) (encAll_bytes _ (fun q hq => hg q (List.mem_of_mem_drop hq))) (i - endAt l k) v (by omega) (by omega) hv hne'
  rw [e2]
  refine ⟨?_, by rw [r2, ha], r3⟩
  rw [r1, List.length_take]
  omega
/-- what stands behind the first loop, with the numbers named -/
structure Fin (w wr : World) (B s : Nat) (zs : List Nat) (ga ca gb nE cb ge ce m : Nat) (R : List Rc) (L : List (Nat × List Nat)) (E : List Nat) : Prop where
  lay : Lay wr B s zs (.slice (some ⟨ga, 0, none⟩) m ca) (.slice (some ⟨gb, 0, none⟩) nE cb) (.slice (some ⟨ge, 0, none⟩) (m + 1) ce) R R R
  grown : w.grownBy wr none
  tells : R.map Rc.tell = L
  len : L.length = m
  bytes : encAll L = E
  size : E.length = nE
theorem Fin.good {w wr : World} {B s : Nat} {zs : List Nat} {ga ca gb nE cb ge ce m : Nat} {R : List Rc} {L : List (Nat × List Nat)} {E : List Nat} (h : Fin w wr B s zs ga ca gb nE cb ge ce m R L E) : ∀ p ∈ L, Good p := by
  intro p hp
  rw [← h.tells] at hp
  obtain ⟨r, hr, rfl⟩ := List.mem_map.1 hp
  exact h.lay.good r hr
theorem Fin.byte {w wr : World} {B s : Nat} {zs : List Nat} {ga ca gb nE cb ge ce m : Nat} {R : List Rc} {L : List (Nat × List Nat)} {E : List Nat} (h : Fin w wr B s zs ga ca gb nE cb ge ce m R L E) : ∀ z ∈ E, z < 256 := by
  rw [← h.bytes]
  exact encAll_bytes _ h.good
theorem Fin.scans {w wr : World} {B s : Nat} {zs : List Nat} {ga ca gb nE cb ge ce m : Nat} {R : List Rc} {L : List (Nat × List Nat)} {E : List Nat} (h : Fin w wr B s zs ga ca gb nE cb ge ce m R L E) : scan E = (L, nE, 0) := by
  have := scan_all L h.good [] (by simp)
  rw [List.append_nil, scan_nil, h.bytes, List.append_nil, h.size] at this
  exact this
theorem Fin.scansMore {w wr : World} {B s : Nat} {zs : List Nat} {ga ca gb nE cb ge ce m : Nat} {R : List Rc} {L : List (Nat × List Nat)} {E : List Nat} (h : Fin w wr B s zs ga ca gb nE cb ge ce m R L E) (xs : List Nat) (hx : ∀ z ∈ xs, z < 256) : ∃ M, (scan (E ++ xs)).1 = L ++ M := by
  have := scan_all L h.good xs hx
  rw [h.bytes] at this
  exact ⟨_, by rw [this]⟩
theorem Fin.sl {w wr : World} {B s : Nat} {zs : List Nat} {ga ca gb nE cb ge ce m : Nat} {R : List Rc} {L : List (Nat × List Nat)} {E : List Nat} (h : Fin w wr B s zs ga ca gb nE cb ge ce m R L E) : SlB wr (some ⟨gb, 0, none⟩) nE E := by
  obtain ⟨gb', nb', cb', hb1, hb2, hb3, hb4⟩ := h.lay.row
  simp only [Value.slice.injEq, Option.some.injEq, Addr.mk.injEq, and_true] at hb1
  obtain ⟨rfl, rfl, rfl⟩ := hb1
  rw [h.tells, h.bytes] at hb4
  exact (own_made hb4 h.byte).sl _ h.size
theorem Fin.ends {w wr : World} {B s : Nat} {zs : List Nat} {ga ca gb nE cb ge ce m : Nat} {R : List Rc} {L : List (Nat × List Nat)} {E : List Nat} (h : Fin w wr B s zs ga ca gb nE cb ge ce m R L E) (i : Nat) (hi : i ≤ m) : wr.cell? ⟨ge, i, none⟩ = some (.int .i64 ((endAt L i : Nat) : Int)) := by
  obtain ⟨ge', ce', he1, he2⟩ := h.lay.stops
  have hm : R.length = m := by rw [← h.len, ← h.tells]; simp
  rw [hm] at he1 he2
  simp only [Value.slice.injEq, Option.some.injEq, Addr.mk.injEq, and_true, true_and] at he1
  obtain ⟨rfl, rfl⟩ := he1
  rw [h.tells] at he2
  exact row_cell he2 (endsV_get L i (by rw [h.len]; exact hi))
theorem Fin.small {w wr : World} {B s : Nat} {zs : List Nat} {ga ca gb nE cb ge ce m : Nat} {R : List Rc} {L : List (Nat × List Nat)} {E : List Nat} (h : Fin w wr B s zs ga ca gb nE cb ge ce m R L E) (hm : m ≤ 11) : nE ≤ 90277 := by
  have h1 := endAt_all L
  have h2 : ∀ l : List (Nat × List Nat), (∀ p ∈ l, Good p) → (encAll l).length ≤ 8207 * l.length := by
    intro l
    induction l with
    | nil => simp [encAll]
    | cons p l ih =>
      intro hl
      have h3 := ih (fun q hq => hl q (by simp [hq]))
      have h4 : (enc p.1 p.2).length ≤ 8207 := by
        have := pad_lt p.2.length
        have h5 : p.2.length ≤ 8192 := (hl p (by simp)).2.2.1
        rw [enc_len]
        omega
      have : encAll (p :: l) = enc p.1 p.2 ++ encAll l := by simp [encAll]
      rw [this, List.length_append, List.length_cons]
      omega
  have h6 := h2 L h.good
  rw [h.bytes, h.size, h.len] at h6
  omega
theorem Fin.pos {w wr : World} {B s : Nat} {zs : List Nat} {ga ca gb nE cb ge ce m : Nat} {R : List Rc} {L : List (Nat × List Nat)} {E : List Nat} (h : Fin w wr B s zs ga ca gb nE cb ge ce m R L E) (hm : 1 ≤ m) : 2 ≤ nE := by
  have h0 : 0 < L.length := by rw [h.len]; omega
  have h1 := endAt_succ L 0 h0
  have h2 := endAt_le L 1
  rw [h.bytes, h.size] at h2
  have h3 := enc_len (L[0]).1 (L[0]).2
  rw [Nat.zero_add] at h1
  omega
theorem Fin.more {w wr wx : World} {B s : Nat} {zs : List Nat} {ga ca gb nE cb ge ce m : Nat} {R : List Rc} {L : List (Nat × List Nat)} {E : List Nat} (h : Fin w wr B s zs ga ca gb nE cb ge ce m R L E) (hg : wr.grownBy wx none) : Fin w wx B s zs ga ca gb nE cb ge ce m R L E :=
  ⟨(Lay.more ⟨h.lay, h.grown⟩ hg).1, (Lay.more ⟨h.lay, h.grown⟩ hg).2, h.tells, h.len, h.bytes, h.size⟩
theorem Fin.draw {w wr wx : World} {B s : Nat} {zs : List Nat} {ga ca gb nE cb ge ce m : Nat} {R : List Rc} {L : List (Nat × List Nat)} {E : List Nat} (h : Fin w wr B s zs ga ca gb nE cb ge ce m R L E) (hS : w.heap.size ≤ s) (hg : wr.grownBy wx (some s)) (hs : Src wx s zs) : Fin w wx B s zs ga ca gb nE cb ge ce m R L E :=
  ⟨(Lay.draw ⟨h.lay, h.grown⟩ hS hg hs).1, (Lay.draw ⟨h.lay, h.grown⟩ hS hg hs).2, h.tells, h.len, h.bytes, h.size⟩
/-- an element of all beside the same of another list that tells the same -/
theorem pair_at {w : World} {base g n c : Nat} {R : List Rc} {L : List (Nat × List Nat)} (h : RecRow w base (.slice (some ⟨g, 0, none⟩) n c) R) (M : List (Nat × List Nat)) (ht : R.map Rc.tell = L ++ M) {j : Nat} (hj : j < L.length) :
    ∃ gd cd, w.cell? ⟨g, j * 2, none⟩ = some (.int .i64 ((L[j]).1 : Int)) ∧ w.cell? ⟨g, j * 2 + 1, none⟩ = some (.slice (some ⟨gd, 0, none⟩) (L[j]).2.length cd) ∧ SlB w (some ⟨gd, 0, none⟩) (L[j]).2.length (L[j]).2 := by
  obtain ⟨oa, cap, hv, hsl⟩ := h.sl
  have hjR : j < R.length := by have := congrArg List.length ht; simp at this; omega
  have hr : R[j]? = some R[j] := List.getElem?_eq_getElem hjR
  have htell : (R[j]).tell = L[j] := by
    have h1 := congrArg (fun l => l[j]?) ht
    simp only [List.getElem?_map, hr, Option.map_some] at h1
    rw [List.getElem?_append_left hj, List.getElem?_eq_getElem hj] at h1
    simpa using h1
  obtain ⟨g', h1, h2, h3, h4⟩ := hsl j _ hr
  simp only [Value.slice.injEq] at hv
  obtain ⟨rfl, -, -⟩ := hv
  simp only [Option.some.injEq, Addr.mk.injEq, and_true] at h1
  subst h1
  rw [← htell, Nat.mul_comm j 2]
  exact ⟨(R[j]).g, (R[j]).cp, h2, h3, h4.sl _ rfl⟩
theorem RecRow.is {w : World} {base m : Nat} {v : Value} {S : List Rc} (h : RecRow w base v S) (hl : S.length = m) (hm : 1 ≤ m) : ∃ g c, v = .slice (some ⟨g, 0, none⟩) m c := by
  rcases h.form with ⟨_, h0⟩ | ⟨g, cap, cur, hv, _⟩
  · subst h0; simp at hl; omega
  · exact ⟨g, cap, by rw [hv, hl]⟩
theorem grownBy_some {a b : World} {s : Nat} (h : a.grownBy b none) : a.grownBy b (some s) := ⟨h.os, h.tape, h.output, h.size, fun k hk _ => h.block k hk (by simp)⟩
theorem grownBy_past {a b c : World} {s g : Nat} (h : a.grownBy b (some s)) (k : b.grownBy c (some g)) (hg : a.heap.size ≤ g) : a.grownBy c (some s) :=
  ⟨k.os.trans h.os, k.tape.trans h.tape, k.output.trans h.output, Nat.le_trans h.size k.size, fun j hj hne => (k.block j (Nat.lt_of_lt_of_le hj h.size) (by simp only [ne_eq, Option.some.injEq]; omega)).trans (h.block j hj hne)⟩
end Go.Proofs.YteacgefklafofaaDoor
