/-
  ArLaw, ArLawS, Clone
-/
import Derived.Test.YtdajcpcajdhplaaDoorSvc4
import Derived.Test.YtdajcpcajdhplaaDoorSvc2
/-
  The laws' sizes and copies of lists of items and sessions, walked.
-/
namespace Go.Proofs.YtdajcpcajdhplaaDoor
open Go.RowKit

/-- the room that the first k take, and all of them -/
def totTo (A : List Ar) (k : Nat) : Nat := A.length + ((A.take k).map Ar.len).sum
def tot (A : List Ar) : Nat := totTo A A.length
theorem totTo_succ (A : List Ar) (k : Nat) (x : Ar) (hx : A[k]? = some x) : totTo A (k + 1) = totTo A k + x.len := by
  unfold totTo
  have hk : k < A.length := (List.getElem?_eq_some_iff.1 hx).1
  have e : A.take (k + 1) = A.take k ++ [x] := by
    rw [List.getElem?_eq_getElem hk] at hx; rw [List.take_succ_eq_append_getElem hk, Option.some.inj hx]
  rw [e]
  simp
  omega
theorem totTo_le (A : List Ar) (k : Nat) : totTo A k ≤ tot A := by
  unfold tot totTo
  rw [List.take_length]
  have h : ∀ (l : List Ar) (k : Nat), ((l.take k).map Ar.len).sum ≤ (l.map Ar.len).sum := by
    intro l
    induction l with
    | nil => intro k; simp
    | cons x l ih =>
      intro k
      cases k with
      | zero => simp
      | succ k =>
        have := ih k; simp only [List.take_succ_cons, List.map_cons, List.sum_cons]
        omega
  have := h A k
  omega
theorem tot_each (A : List Ar) (x : Ar) (hx : x ∈ A) : x.len ≤ tot A := by
  obtain ⟨k, hk⟩ := List.getElem?_of_mem hx; have h1 := totTo_succ A k x hk; have h2 := totTo_le A (k + 1)
  omega
theorem tot_len (A : List Ar) : A.length ≤ tot A := by unfold tot totTo; omega

theorem ArSl.get2 {w : World} {oa : Option Addr} {A : List Ar} (h : ArSl w 2 oa A) {k : Nat} {x : Ar} (hx : A[k]? = some x) : ∃ (b off : Nat) (n0 n1 : Int), oa = some ⟨b, off, none⟩ ∧ x.hd = [n0, n1] ∧ w.cell? ⟨b, off + k * 3, none⟩ = some (.int .i64 n0) ∧ w.cell? ⟨b, off + k * 3 + 1, none⟩ = some (.int .i64 n1) ∧ w.cell? ⟨b, off + k * 3 + 2, none⟩ = some (.slice x.oa x.len x.cap) := by
  obtain ⟨b, off, h1, h2, h3, h4, -, -⟩ := h k x hx; obtain ⟨hd, xo, xl, xc, d⟩ := x; simp only at h2 h3 h4
  match hd, h4 with
  | [n0, n1], _ => exact ⟨b, off, n0, n1, h1, rfl, h2 0 _ rfl, h2 1 _ rfl, h3⟩
set_option maxHeartbeats 2000000 in
theorem szItemS_any (oa : Option Addr) (cap : Nat) (A : List Ar) (L : Nat) (w : World) (h : ArSl w 2 oa A) (hn : A.length ≤ maxLen) (hL : L ≤ 1048576) :
    Calls Tryd.prog 41 #[.slice oa A.length cap, .int .i64 (L : Int)] w fun e w' => ∃ v : Int, e = .returned (.int .i64 v) ∧ ((tot A ≤ L ∧ v = (L : Int) - (tot A : Int)) ∨ (L < tot A ∧ v = -1)) ∧ w.grownBy w' none := by
  have HA : Hid (ArSl w 2 oa A) := h; clear h
  unfold maxLen at hn
  obtain ⟨n, hnn⟩ : ∃ n, A.length = n := ⟨_, rfl⟩; have HN : Hid (A.length = n) := hnn; rw [hnn] at hn ⊢; clear hnn
  by_cases hbig : L < n
  · have HB : Hid (L < tot A) := by have := tot_len A; have h2 := HN.out; show L < tot A; omega
    go_enter Tryd.func41, Tryd.ntmps41
    go_wp2; go_ret; exact ⟨-1, rfl, .inr ⟨HB.out, rfl⟩, grownBy_refl _ _⟩
  have H0 : Hid (totTo A 0 = n) := by show _ = _; simp [totTo, HN.out]
  go_enter Tryd.func41, Tryd.ntmps41
  go_wp2
  go_loopw [1, 5] (fun q i wr => ∃ k : Nat, k ≤ n ∧ i = .int .i64 (k : Int) ∧ q = .int .i64 ((L : Int) - (totTo A k : Int)) ∧ totTo A k ≤ L ∧ w.grownBy wr none) (fun _ i _ => n - (intOf i).toNat)
  case atStart => exact ⟨0, Nat.zero_le _, rfl, by rw [H0.out], by rw [H0.out]; omega, grownBy_refl _ _⟩
  case round =>
    obtain ⟨k, hk, rfl, rfl, hle, hG⟩ := hrel; have HG : Hid (w.grownBy wr none) := hG; clear hG
    by_cases hlt : k < n
    · obtain ⟨x, hx⟩ : ∃ x, A[k]? = some x := ⟨_, List.getElem?_eq_getElem (by rw [HN.out]; exact hlt)⟩; obtain ⟨b, off, n0, n1, rfl, -, c0, c1, cd⟩ := (HA.out.grown HG.out).get2 hx; obtain ⟨-, -, -, -, -, -, -, hxm⟩ := HA.out k x hx; have HX : Hid (totTo A (k + 1) = totTo A k + x.len ∧ totTo A (k + 1) ≤ tot A) := ⟨totTo_succ A k x hx, totTo_le A _⟩; obtain ⟨m, hm⟩ : ∃ m, L - totTo A k = m := ⟨_, rfl⟩
      have hmI : (L : Int) - (totTo A k : Int) = (m : Int) := by omega
      have HM : Hid (L - totTo A k = m ∧ totTo A k ≤ L) := ⟨hm, hle⟩
      have hmb : m ≤ 1048576 := by omega
      rw [hmI]; clear hx hm hmI hle; obtain ⟨xh, xo, xl, xc, xd⟩ := x; simp only at *
      have hkI : (k : Int) < (n : Int) := by omega
      by_cases hfit : xl ≤ m
      · have HK : Hid (∀ X : World, Calls Tryd.prog 67 #[.agg #[.int .i64 n0, .int .i64 n1, .slice xo xl xc], .int .i64 (m : Int)] X fun e w' => e = .returned (.int .i64 ((m : Int) - xl)) ∧ X.grownBy w' none) := fun X => szItem_ok n0 n1 xo xl xc m X hfit (by omega)
        go_wp2_with fail; refine (HK.out _).mono ?_; rintro e w1 ⟨rfl, hG1⟩; have HG1 : Hid (w.grownBy w1 none) := grownBy_trans HG.out hG1; clear hG1; go_wp2; go_roundw
        case rel => exact ⟨k + 1, by omega, by go_num, by have h1 := HX.out.1; have h2 := HM.out; congr 1; omega, by have h1 := HX.out.1; have h2 := HM.out; omega, HG1.out⟩
        case measure => simp [intOf]; omega
      · have HK : Hid (∀ X : World, Calls Tryd.prog 67 #[.agg #[.int .i64 n0, .int .i64 n1, .slice xo xl xc], .int .i64 (m : Int)] X fun e w' => e = .returned (.int .i64 (-1)) ∧ X.grownBy w' none) := fun X => szItem_big n0 n1 xo xl xc m X (by omega) (by omega) hxm
        go_wp2_with fail; refine (HK.out _).mono ?_; rintro e w1 ⟨rfl, hG1⟩; have HG1 : Hid (w.grownBy w1 none) := grownBy_trans HG.out hG1; clear hG1; go_wp2; go_ret; exact ⟨-1, rfl, .inr ⟨by have h1 := HX.out; have h2 := HM.out; omega, rfl⟩, HG1.out⟩
    · obtain rfl : k = n := by omega
      obtain ⟨t, ht⟩ : ∃ t, totTo A k = t := ⟨_, rfl⟩
      have HT : Hid (tot A = t) := by show _ = _; rw [← ht]; unfold tot; rw [HN.out]
      rw [ht] at hle ⊢; clear ht; go_wp2; go_ret; exact ⟨(L : Int) - (t : Int), rfl, .inl ⟨by rw [HT.out]; exact hle, by rw [HT.out]⟩, HG.out⟩
theorem Tryd.infoItem : (Tryd.prog.info? 32).map (fun i => (i.zero, i.size, i.bytes)) = some (some (.agg #[.int .i64 0, .int .i64 0, .slice none 0 0]), 3, 40) := by kernel_rfl
set_option maxRecDepth 4000 in
set_option maxHeartbeats 2000000 in
theorem toItemS_any (oa : Option Addr) (cap : Nat) (A : List Ar) (w : World) (h : ArSl w 2 oa A) (hn : A.length ≤ 1048576) (hd : ∀ x ∈ A, x.len ≤ 1048576) :
    Calls Tryd.prog 46 #[.slice oa A.length cap] w fun e w' => ∃ M, e = .returned (.slice (some ⟨w.heap.size, 0, none⟩) A.length A.length) ∧ ElAt w' 32 2 w.heap.size M ∧ M.map El.tell = A.map Ar.tell ∧ (∀ y ∈ M, ∀ b, y.o = some b → w.heap.size < b) ∧ w.grownBy w' none := by
  have HA : Hid (ArSl w 2 oa A ∧ ∀ x ∈ A, x.len ≤ 1048576) := ⟨h, hd⟩; clear h hd; obtain ⟨n, hnn⟩ : ∃ n, A.length = n := ⟨_, rfl⟩; have HN : Hid (A.length = n) := hnn; rw [hnn] at hn ⊢; clear hnn; obtain ⟨i0, hi, hz0, hz1, hz2⟩ := info_parts Tryd.infoItem
  go_enter Tryd.func46, Tryd.ntmps46
  go_wp2_with (at_make; refine wpList_make_full _ rfl (.tmp 6) (.tmp 6) 25 rfl w.heap.size 32 i0 (.agg #[.int .i64 0, .int .i64 0, .slice none 0 0]) 3 Tryd.underlying25 hi hz0 hz1 .i64 .i64 n n n rfl rfl rfl rfl ?cb ?cm (Nat.le_refl _) ?_)
  case cb => rw [hz2]; omega
  case cm => unfold maxLen; omega
  intro w1 hown hgrow
  have HO : Hid (ElAt w1 32 2 w.heap.size (List.replicate n (zEl 2))) := by
    rcases hown.2 with ⟨h0, _⟩ | ⟨g, cap', cur, h0, hb, hg, hc, hm, hs, htake⟩
    · simp at h0
    · simp only [Value.slice.injEq, Option.some.injEq, Addr.mk.injEq, and_true] at h0; obtain ⟨rfl, -, rfl⟩ := h0
      have hcur : ∀ i, i < n * 3 → cur[i]? = (#[.int .i64 0, .int .i64 0, .slice none 0 0] : Array Value)[i % 3]? := by
        intro i hi
        have h1 : cur.toList = (madeCells #[.int .i64 0, .int .i64 0, .slice none 0 0] (n * 3)).toList := by
          have h2 : cur.toList.take (n * 3) = cur.toList := List.take_of_length_le (by simp [hs]); rw [← h2]; exact htake
        have h3 := made_get #[.int .i64 0, .int .i64 0, .slice none 0 0] (n * 3) i hi (by decide); rw [← Array.getElem?_toList, h1, Array.getElem?_toList]; exact h3
      refine ⟨⟨cur, hg, fun i x hx => ?_⟩, fun i x hx => ?_, fun i j x y k hi hj hx hy => ?_⟩
      · obtain ⟨hin, hx'⟩ := List.getElem?_eq_some_iff.1 hx; simp only [List.length_replicate] at hin; rw [List.getElem_replicate] at hx'; subst hx'; refine ⟨fun j m hj => ?_, ?_⟩
        · have hjc := (List.getElem?_eq_some_iff.1 hj).1; simp only [zEl, List.length_replicate] at hjc; rw [hcur _ (by omega), show (i * (2 + 1) + j) % 3 = j by omega]; simp only [zEl] at hj; rw [List.getElem?_replicate, if_pos hjc] at hj
          cases hj
          rcases (show j = 0 ∨ j = 1 by omega) with rfl | rfl <;> rfl
        · rw [hcur _ (by omega), show (i * (2 + 1) + 2) % 3 = 2 by omega]
          rfl
      · obtain ⟨hin, hx'⟩ := List.getElem?_eq_some_iff.1 hx; rw [List.getElem_replicate] at hx'; subst hx'; exact ⟨by simp [zEl], OwnS.none _ _, fun _ => rfl⟩
      · obtain ⟨hin, hx'⟩ := List.getElem?_eq_some_iff.1 hi; rw [List.getElem_replicate] at hx'; subst hx'
        cases hx
  have HG : Hid (w.grownBy w1 none) := hgrow; clear hown hgrow; go_wp2
  go_loopw [4] (fun i wr => ∃ k : Nat, k ≤ n ∧ i = .int .i64 (k : Int) ∧ (∃ M : List El, M.length = n ∧ ElAt wr 32 2 w.heap.size M ∧ (∀ i x, i < k → A[i]? = some x → ∃ y, M[i]? = some y ∧ y.tell = x.tell) ∧ (∀ i, k ≤ i → i < n → M[i]? = some (zEl 2)) ∧ ∀ y ∈ M, ∀ b, y.o = some b → w.heap.size < b) ∧ w.grownBy wr none) (fun i _ => n - (intOf i).toNat)
  case atStart => exact ⟨0, Nat.zero_le _, rfl, ⟨List.replicate n (zEl 2), by simp, HO.out, fun i x hi => absurd hi (by omega), fun i _ hi => by simp [hi], fun y hy b hb => by have := List.eq_of_mem_replicate hy; subst this; cases hb⟩, HG.out⟩
  case round =>
    clear HO HG; obtain ⟨k, hk, rfl, ⟨M, hMl, hM, hM1, hM2, hM3⟩, hG⟩ := hrel; have HM : Hid (M.length = n ∧ ElAt wr 32 2 w.heap.size M ∧ (∀ i x, i < k → A[i]? = some x → ∃ y, M[i]? = some y ∧ y.tell = x.tell) ∧ (∀ i, k ≤ i → i < n → M[i]? = some (zEl 2)) ∧ (∀ y ∈ M, ∀ b, y.o = some b → w.heap.size < b) ∧ w.grownBy wr none) := ⟨hMl, hM, hM1, hM2, hM3, hG⟩; clear hMl hM hM1 hM2 hM3 hG
    by_cases hlt : k < n
    · obtain ⟨x, hx⟩ : ∃ x, A[k]? = some x := ⟨_, List.getElem?_eq_getElem (by rw [HN.out]; exact hlt)⟩; have hAr := HA.out.1.grown HM.out.2.2.2.2.2; obtain ⟨b, off, n0, n1, rfl, hhd, c0, c1, cd⟩ := hAr.get2 hx; obtain ⟨-, -, -, -, -, -, hsl, -⟩ := hAr k x hx; have hxl := HA.out.2 x (List.mem_of_getElem? hx); have HK : Hid (Calls Tryd.prog 71 #[.agg #[.int .i64 n0, .int .i64 n1, .slice x.oa x.len x.cap]] wr fun e w' => ∃ g, e = .returned (.agg #[.int .i64 n0, .int .i64 n1, .slice (some ⟨g, 0, none⟩) x.len x.len]) ∧ wr.heap.size ≤ g ∧ Own w' 5 g x.d ∧ wr.grownBy w' none) := toItem_any n0 n1 x.oa x.len x.cap x.d wr hsl (by omega); have HX : Hid (A[k]? = some x ∧ x.hd = [n0, n1] ∧ x.d.length = x.len) := ⟨hx, hhd, hsl.1⟩; clear hx hhd hsl hAr
      have hkI : (k : Int) < (n : Int) := by omega
      go_wp2_with fail; refine HK.out.mono ?_; rintro e w2 ⟨g2, rfl, hg2, hO2, hG2⟩; have hA2 : ElAt w2 32 2 w.heap.size M := HM.out.2.1.kept (fun j hj _ => hG2.block j hj (by simp)); have hzk := HM.out.2.2.2.1 k (Nat.le_refl _) hlt; have z0 : w2.cell? ⟨w.heap.size, k * 3, none⟩ = some (.int .i64 0) := hA2.cell hzk (j := 0) rfl; have f0 : w2.frozen? ⟨w.heap.size, k * 3, none⟩ = false := hA2.froz _; have z1 : w2.cell? ⟨w.heap.size, k * 3 + 1, none⟩ = some (.int .i64 0) := hA2.cell hzk (j := 1) rfl; have f1 : w2.frozen? ⟨w.heap.size, k * 3 + 1, none⟩ = false := hA2.froz _; have zs : w2.cell? ⟨w.heap.size, k * 3 + 2, none⟩ = some (.slice none 0 0) := hA2.slice hzk; have fs : w2.frozen? ⟨w.heap.size, k * 3 + 2, none⟩ = false := hA2.froz _
      have HR : Hid (∃ M' : List El, M'.length = n ∧ ElAt (((w2.setCell ⟨w.heap.size, k * 3, none⟩ (.int .i64 n0)).setCell ⟨w.heap.size, k * 3 + 1, none⟩ (.int .i64 n1)).setCell ⟨w.heap.size, k * 3 + 2, none⟩ (.slice (some ⟨g2, 0, none⟩) x.len x.len)) 32 2 w.heap.size M' ∧ (∀ i x, i < k + 1 → A[i]? = some x → ∃ y, M'[i]? = some y ∧ y.tell = x.tell) ∧ (∀ i, k + 1 ≤ i → i < n → M'[i]? = some (zEl 2)) ∧ ∀ y ∈ M', ∀ b, y.o = some b → w.heap.size < b) := by
        have hfr : ∀ y ∈ M, y.o ≠ some g2 := fun y hy e => by
          obtain ⟨i, hi⟩ := List.getElem?_of_mem hy; have h1 := (ownS_blk (HM.out.2.1.own i y hi).2.1 e).lt
          omega
        have hkM : k < M.length := by rw [HM.out.1]; exact hlt
        have hgs : w.heap.size < g2 := by have := HM.out.2.1.lt; omega
        have h1 := hA2.setHd (by decide) hzk 0 (by decide) n0; have h2 := h1.setHd (by decide) (List.getElem?_set_self (by first | exact hkM | (simp only [List.length_set]; exact hkM))) 1 (by decide) n1; have hO3 : Own ((w2.setCell ⟨w.heap.size, k * 3, none⟩ (.int .i64 n0)).setCell ⟨w.heap.size, k * 3 + 1, none⟩ (.int .i64 n1)) 5 g2 x.d := ((hO2.setOther (by show g2 ≠ w.heap.size; omega)).setOther (by show g2 ≠ w.heap.size; omega))
        have h3 := h2.setO (by decide) (List.getElem?_set_self (by first | exact hkM | (simp only [List.length_set]; exact hkM))) g2 x.len x.d hO3 (by
          intro y hy e; simp only [List.set_set] at hy
          rcases List.mem_or_eq_of_mem_set hy with h | h
          · exact hfr y h e
          · rw [h] at e; cases e)
        simp only [List.set_set, zEl, List.replicate, List.set_cons_zero, List.set_cons_succ] at h3; rw [HX.out.2.2] at h3; refine ⟨_, ?_, h3, fun i y hi hy => ?_, fun i hi hi2 => ?_, fun y hy b' hb' => ?_⟩
        · rw [List.length_set]; exact HM.out.1
        · by_cases hik : i = k
          · subst hik; refine ⟨_, List.getElem?_set_self hkM, ?_⟩
            have : y = x := by have h9 := HX.out.1; rw [h9] at hy; exact (Option.some.inj hy).symm
            subst this; simp only [El.tell, Ar.tell, HX.out.2.1]
          · rw [List.getElem?_set_ne (Ne.symm hik)]; exact HM.out.2.2.1 i y (by omega) hy
        · rw [List.getElem?_set_ne (by omega)]; exact HM.out.2.2.2.1 i (by omega) hi2
        · rcases List.mem_or_eq_of_mem_set hy with h | h
          · exact HM.out.2.2.2.2.1 y h b' hb'
          · rw [h] at hb'; simp only [Option.some.injEq] at hb'
            omega
      have HG3 : Hid (w.grownBy (((w2.setCell ⟨w.heap.size, k * 3, none⟩ (.int .i64 n0)).setCell ⟨w.heap.size, k * 3 + 1, none⟩ (.int .i64 n1)).setCell ⟨w.heap.size, k * 3 + 2, none⟩ (.slice (some ⟨g2, 0, none⟩) x.len x.len)) none) := by
        have G := grownBy_trans HM.out.2.2.2.2.2 hG2; exact (grownBy_setNew (grownBy_setNew (grownBy_setNew G (Nat.le_refl _)) (Nat.le_refl _)) (Nat.le_refl _))
      clear hO2 hG2 hA2 hzk HK; go_wp2; go_roundw
      case rel => exact ⟨k + 1, by omega, by go_num, HR.out, HG3.out⟩
      case measure => simp [intOf]; omega
    · obtain rfl : k = n := by omega
      go_wp2; go_ret; refine ⟨M, rfl, HM.out.2.1, ?_, HM.out.2.2.2.2.1, HM.out.2.2.2.2.2⟩
      refine List.ext_getElem? fun i => ?_
      rw [List.getElem?_map, List.getElem?_map]
      by_cases hi : i < k
      · obtain ⟨x, hx⟩ : ∃ x, A[i]? = some x := ⟨_, List.getElem?_eq_getElem (by rw [HN.out]; exact hi)⟩; obtain ⟨y, hy, e⟩ := HM.out.2.2.1 i x hi hx; rw [hx, hy]
        simp [e]
      · rw [List.getElem?_eq_none (by rw [HM.out.1]; omega), List.getElem?_eq_none (by rw [HN.out]; omega)]
        rfl
set_option maxHeartbeats 400000 in
theorem szSession_ok (n0 n1 n2 : Int) (oa : Option Addr) (len cap L : Nat) (w : World) (h : len ≤ L) (hL : L ≤ 1073741824) :
    Calls Tryd.prog 68 #[.agg #[.int .i64 n0, .int .i64 n1, .int .i64 n2, .slice oa len cap], .int .i64 (L : Int)] w fun e w' => e = .returned (.int .i64 ((L : Int) - len)) ∧ w.grownBy w' none := by
  go_enter Tryd.func68, Tryd.ntmps68
  go_wp2_with (go_at_call 85; refine (szByteS_ok oa len cap L _ h hL).mono ?_; rintro e w' ⟨rfl, rfl⟩)
  go_ret; exact ⟨rfl, World.grownBy_alloc _ _ _⟩
set_option maxHeartbeats 400000 in
theorem szSession_big (n0 n1 n2 : Int) (oa : Option Addr) (len cap L : Nat) (w : World) (h : L < len) (hL : L ≤ 1073741824) (hx : len ≤ maxLen) :
    Calls Tryd.prog 68 #[.agg #[.int .i64 n0, .int .i64 n1, .int .i64 n2, .slice oa len cap], .int .i64 (L : Int)] w fun e w' => e = .returned (.int .i64 (-1)) ∧ w.grownBy w' none := by
  go_enter Tryd.func68, Tryd.ntmps68
  go_wp2_with (go_at_call 85; refine (szByteS_big oa len cap L _ h hL hx).mono ?_; rintro e w' ⟨rfl, rfl⟩)
  go_ret; exact ⟨rfl, World.grownBy_alloc _ _ _⟩
set_option maxHeartbeats 400000 in
theorem toSession_any (n0 n1 n2 : Int) (oa : Option Addr) (len cap : Nat) (zs : List Nat) (w : World) (hsl : SlB w oa len zs) (hm : len ≤ 1073741824) :
    Calls Tryd.prog 72 #[.agg #[.int .i64 n0, .int .i64 n1, .int .i64 n2, .slice oa len cap]] w fun e w' => ∃ g, e = .returned (.agg #[.int .i64 n0, .int .i64 n1, .int .i64 n2, .slice (some ⟨g, 0, none⟩) len len]) ∧ w.heap.size ≤ g ∧ Own w' 5 g zs ∧ w.grownBy w' none := by
  have HS : Hid (SlB w oa len zs) := hsl; clear hsl
  go_enter Tryd.func72, Tryd.ntmps72
  go_wp2_with fail; refine (toByteS_any oa len cap zs _ (HS.out.grown0 (grownBy_alloc (grownBy_alloc (World.grownBy_alloc _ _ _) _) _)) hm).mono ?_; rintro e w1 ⟨rfl, hO1, hG1⟩; obtain ⟨hc, hf⟩ := bcell hG1
  have hz : w.heap.size + 1 + 1 + 1 ≤ w1.heap.size := by have := hG1.size; simpa using this
  have R : Hid (Own w1 5 (w.heap.size + 1 + 1 + 1) zs ∧ w.grownBy w1 none) := ⟨by simpa using hO1, grownBy_trans (grownBy_alloc (grownBy_alloc (World.grownBy_alloc w _ none) _) _) hG1⟩; clear hO1 hG1; go_wp2; refine bodyPost_ret (v := .agg #[.int .i64 n0, .int .i64 n1, .int .i64 n2, .slice (some ⟨w.heap.size + 1 + 1 + 1, 0, none⟩) len len]) (by simp [results, Tryd.results72, go_sem, hc]) rfl ⟨w.heap.size + 1 + 1 + 1, rfl, by omega, ?_, ?_⟩
  · exact ((((R.out.1.setOther (by simp)).setOther (by simp; omega)).setOther (by simp; omega)).setOther (by simp; omega)).setOther (by simp; omega)
  · exact grownBy_setNew (grownBy_setNew (grownBy_setNew (grownBy_setNew (grownBy_setNew R.out.2 (by simp; omega)) (by simp)) (by simp)) (by simp)) (by simp)

theorem ArSl.get3 {w : World} {oa : Option Addr} {A : List Ar} (h : ArSl w 3 oa A) {k : Nat} {x : Ar} (hx : A[k]? = some x) : ∃ (b off : Nat) (n0 n1 n2 : Int), oa = some ⟨b, off, none⟩ ∧ x.hd = [n0, n1, n2] ∧ w.cell? ⟨b, off + k * 4, none⟩ = some (.int .i64 n0) ∧ w.cell? ⟨b, off + k * 4 + 1, none⟩ = some (.int .i64 n1) ∧ w.cell? ⟨b, off + k * 4 + 2, none⟩ = some (.int .i64 n2) ∧ w.cell? ⟨b, off + k * 4 + 3, none⟩ = some (.slice x.oa x.len x.cap) := by
  obtain ⟨b, off, h1, h2, h3, h4, -, -⟩ := h k x hx; obtain ⟨hd, xo, xl, xc, d⟩ := x; simp only at h2 h3 h4
  match hd, h4 with
  | [n0, n1, n2], _ => exact ⟨b, off, n0, n1, n2, h1, rfl, h2 0 _ rfl, h2 1 _ rfl, h2 2 _ rfl, h3⟩
set_option maxHeartbeats 2000000 in
theorem szSessionS_any (oa : Option Addr) (cap : Nat) (A : List Ar) (L : Nat) (w : World) (h : ArSl w 3 oa A) (hn : A.length ≤ maxLen) (hL : L ≤ 1048576) :
    Calls Tryd.prog 42 #[.slice oa A.length cap, .int .i64 (L : Int)] w fun e w' => ∃ v : Int, e = .returned (.int .i64 v) ∧ ((tot A ≤ L ∧ v = (L : Int) - (tot A : Int)) ∨ (L < tot A ∧ v = -1)) ∧ w.grownBy w' none := by
  have HA : Hid (ArSl w 3 oa A) := h; clear h
  unfold maxLen at hn
  obtain ⟨n, hnn⟩ : ∃ n, A.length = n := ⟨_, rfl⟩; have HN : Hid (A.length = n) := hnn; rw [hnn] at hn ⊢; clear hnn
  by_cases hbig : L < n
  · have HB : Hid (L < tot A) := by have := tot_len A; have h2 := HN.out; show L < tot A; omega
    go_enter Tryd.func42, Tryd.ntmps42
    go_wp2; go_ret; exact ⟨-1, rfl, .inr ⟨HB.out, rfl⟩, grownBy_refl _ _⟩
  have H0 : Hid (totTo A 0 = n) := by show _ = _; simp [totTo, HN.out]
  go_enter Tryd.func42, Tryd.ntmps42
  go_wp2
  go_loopw [1, 5] (fun q i wr => ∃ k : Nat, k ≤ n ∧ i = .int .i64 (k : Int) ∧ q = .int .i64 ((L : Int) - (totTo A k : Int)) ∧ totTo A k ≤ L ∧ w.grownBy wr none) (fun _ i _ => n - (intOf i).toNat)
  case atStart => exact ⟨0, Nat.zero_le _, rfl, by rw [H0.out], by rw [H0.out]; omega, grownBy_refl _ _⟩
  case round =>
    obtain ⟨k, hk, rfl, rfl, hle, hG⟩ := hrel; have HG : Hid (w.grownBy wr none) := hG; clear hG
    by_cases hlt : k < n
    · obtain ⟨x, hx⟩ : ∃ x, A[k]? = some x := ⟨_, List.getElem?_eq_getElem (by rw [HN.out]; exact hlt)⟩; obtain ⟨b, off, n0, n1, n2, rfl, -, c0, c1, c2, cd⟩ := (HA.out.grown HG.out).get3 hx; obtain ⟨-, -, -, -, -, -, -, hxm⟩ := HA.out k x hx; have HX : Hid (totTo A (k + 1) = totTo A k + x.len ∧ totTo A (k + 1) ≤ tot A) := ⟨totTo_succ A k x hx, totTo_le A _⟩; obtain ⟨m, hm⟩ : ∃ m, L - totTo A k = m := ⟨_, rfl⟩
      have hmI : (L : Int) - (totTo A k : Int) = (m : Int) := by omega
      have HM : Hid (L - totTo A k = m ∧ totTo A k ≤ L) := ⟨hm, hle⟩
      have hmb : m ≤ 1048576 := by omega
      rw [hmI]; clear hx hm hmI hle; obtain ⟨xh, xo, xl, xc, xd⟩ := x; simp only at *
      have hkI : (k : Int) < (n : Int) := by omega
      by_cases hfit : xl ≤ m
      · have HK : Hid (∀ X : World, Calls Tryd.prog 68 #[.agg #[.int .i64 n0, .int .i64 n1, .int .i64 n2, .slice xo xl xc], .int .i64 (m : Int)] X fun e w' => e = .returned (.int .i64 ((m : Int) - xl)) ∧ X.grownBy w' none) := fun X => szSession_ok n0 n1 n2 xo xl xc m X hfit (by omega)
        go_wp2_with fail; refine (HK.out _).mono ?_; rintro e w1 ⟨rfl, hG1⟩; have HG1 : Hid (w.grownBy w1 none) := grownBy_trans HG.out hG1; clear hG1; go_wp2; go_roundw
        case rel => exact ⟨k + 1, by omega, by go_num, by have h1 := HX.out.1; have h2 := HM.out; congr 1; omega, by have h1 := HX.out.1; have h2 := HM.out; omega, HG1.out⟩
        case measure => simp [intOf]; omega
      · have HK : Hid (∀ X : World, Calls Tryd.prog 68 #[.agg #[.int .i64 n0, .int .i64 n1, .int .i64 n2, .slice xo xl xc], .int .i64 (m : Int)] X fun e w' => e = .returned (.int .i64 (-1)) ∧ X.grownBy w' none) := fun X => szSession_big n0 n1 n2 xo xl xc m X (by omega) (by omega) hxm
        go_wp2_with fail; refine (HK.out _).mono ?_; rintro e w1 ⟨rfl, hG1⟩; have HG1 : Hid (w.grownBy w1 none) := grownBy_trans HG.out hG1; clear hG1; go_wp2; go_ret; exact ⟨-1, rfl, .inr ⟨by have h1 := HX.out; have h2 := HM.out; omega, rfl⟩, HG1.out⟩
    · obtain rfl : k = n := by omega
      obtain ⟨t, ht⟩ : ∃ t, totTo A k = t := ⟨_, rfl⟩
      have HT : Hid (tot A = t) := by show _ = _; rw [← ht]; unfold tot; rw [HN.out]
      rw [ht] at hle ⊢; clear ht; go_wp2; go_ret; exact ⟨(L : Int) - (t : Int), rfl, .inl ⟨by rw [HT.out]; exact hle, by rw [HT.out]⟩, HG.out⟩
theorem Tryd.infoSession : (Tryd.prog.info? 74).map (fun i => (i.zero, i.size, i.bytes)) = some (some (.agg #[.int .i64 0, .int .i64 0, .int .i64 0, .slice none 0 0]), 4, 48) := by kernel_rfl
set_option maxRecDepth 4000 in
set_option maxHeartbeats 2000000 in
theorem toSessionS_any (oa : Option Addr) (cap : Nat) (A : List Ar) (w : World) (h : ArSl w 3 oa A) (hn : A.length ≤ 1048576) (hd : ∀ x ∈ A, x.len ≤ 1048576) :
    Calls Tryd.prog 47 #[.slice oa A.length cap] w fun e w' => ∃ M, e = .returned (.slice (some ⟨w.heap.size, 0, none⟩) A.length A.length) ∧ ElAt w' 74 3 w.heap.size M ∧ M.map El.tell = A.map Ar.tell ∧ (∀ y ∈ M, ∀ b, y.o = some b → w.heap.size < b) ∧ w.grownBy w' none := by
  have HA : Hid (ArSl w 3 oa A ∧ ∀ x ∈ A, x.len ≤ 1048576) := ⟨h, hd⟩; clear h hd; obtain ⟨n, hnn⟩ : ∃ n, A.length = n := ⟨_, rfl⟩; have HN : Hid (A.length = n) := hnn; rw [hnn] at hn ⊢; clear hnn; obtain ⟨i0, hi, hz0, hz1, hz2⟩ := info_parts Tryd.infoSession
  go_enter Tryd.func47, Tryd.ntmps47
  go_wp2_with (at_make; refine wpList_make_full _ rfl (.tmp 6) (.tmp 6) 26 rfl w.heap.size 74 i0 (.agg #[.int .i64 0, .int .i64 0, .int .i64 0, .slice none 0 0]) 4 Tryd.underlying26 hi hz0 hz1 .i64 .i64 n n n rfl rfl rfl rfl ?cb ?cm (Nat.le_refl _) ?_)
  case cb => rw [hz2]; omega
  case cm => unfold maxLen; omega
  intro w1 hown hgrow
  have HO : Hid (ElAt w1 74 3 w.heap.size (List.replicate n (zEl 3))) := by
    rcases hown.2 with ⟨h0, _⟩ | ⟨g, cap', cur, h0, hb, hg, hc, hm, hs, htake⟩
    · simp at h0
    · simp only [Value.slice.injEq, Option.some.injEq, Addr.mk.injEq, and_true] at h0; obtain ⟨rfl, -, rfl⟩ := h0
      have hcur : ∀ i, i < n * 4 → cur[i]? = (#[.int .i64 0, .int .i64 0, .int .i64 0, .slice none 0 0] : Array Value)[i % 4]? := by
        intro i hi
        have h1 : cur.toList = (madeCells #[.int .i64 0, .int .i64 0, .int .i64 0, .slice none 0 0] (n * 4)).toList := by
          have h2 : cur.toList.take (n * 4) = cur.toList := List.take_of_length_le (by simp [hs]); rw [← h2]; exact htake
        have h3 := made_get #[.int .i64 0, .int .i64 0, .int .i64 0, .slice none 0 0] (n * 4) i hi (by decide); rw [← Array.getElem?_toList, h1, Array.getElem?_toList]; exact h3
      refine ⟨⟨cur, hg, fun i x hx => ?_⟩, fun i x hx => ?_, fun i j x y k hi hj hx hy => ?_⟩
      · obtain ⟨hin, hx'⟩ := List.getElem?_eq_some_iff.1 hx; simp only [List.length_replicate] at hin; rw [List.getElem_replicate] at hx'; subst hx'; refine ⟨fun j m hj => ?_, ?_⟩
        · have hjc := (List.getElem?_eq_some_iff.1 hj).1; simp only [zEl, List.length_replicate] at hjc; rw [hcur _ (by omega), show (i * (3 + 1) + j) % 4 = j by omega]; simp only [zEl] at hj; rw [List.getElem?_replicate, if_pos hjc] at hj
          cases hj
          rcases (show j = 0 ∨ j = 1 ∨ j = 2 by omega) with rfl | rfl | rfl <;> rfl
        · rw [hcur _ (by omega), show (i * (3 + 1) + 3) % 4 = 3 by omega]
          rfl
      · obtain ⟨hin, hx'⟩ := List.getElem?_eq_some_iff.1 hx; rw [List.getElem_replicate] at hx'; subst hx'; exact ⟨by simp [zEl], OwnS.none _ _, fun _ => rfl⟩
      · obtain ⟨hin, hx'⟩ := List.getElem?_eq_some_iff.1 hi; rw [List.getElem_replicate] at hx'; subst hx'
        cases hx
  have HG : Hid (w.grownBy w1 none) := hgrow; clear hown hgrow; go_wp2
  go_loopw [4] (fun i wr => ∃ k : Nat, k ≤ n ∧ i = .int .i64 (k : Int) ∧ (∃ M : List El, M.length = n ∧ ElAt wr 74 3 w.heap.size M ∧ (∀ i x, i < k → A[i]? = some x → ∃ y, M[i]? = some y ∧ y.tell = x.tell) ∧ (∀ i, k ≤ i → i < n → M[i]? = some (zEl 3)) ∧ ∀ y ∈ M, ∀ b, y.o = some b → w.heap.size < b) ∧ w.grownBy wr none) (fun i _ => n - (intOf i).toNat)
  case atStart => exact ⟨0, Nat.zero_le _, rfl, ⟨List.replicate n (zEl 3), by simp, HO.out, fun i x hi => absurd hi (by omega), fun i _ hi => by simp [hi], fun y hy b hb => by have := List.eq_of_mem_replicate hy; subst this; cases hb⟩, HG.out⟩
  case round =>
    clear HO HG; obtain ⟨k, hk, rfl, ⟨M, hMl, hM, hM1, hM2, hM3⟩, hG⟩ := hrel; have HM : Hid (M.length = n ∧ ElAt wr 74 3 w.heap.size M ∧ (∀ i x, i < k → A[i]? = some x → ∃ y, M[i]? = some y ∧ y.tell = x.tell) ∧ (∀ i, k ≤ i → i < n → M[i]? = some (zEl 3)) ∧ (∀ y ∈ M, ∀ b, y.o = some b → w.heap.size < b) ∧ w.grownBy wr none) := ⟨hMl, hM, hM1, hM2, hM3, hG⟩; clear hMl hM hM1 hM2 hM3 hG
    by_cases hlt : k < n
    · obtain ⟨x, hx⟩ : ∃ x, A[k]? = some x := ⟨_, List.getElem?_eq_getElem (by rw [HN.out]; exact hlt)⟩; have hAr := HA.out.1.grown HM.out.2.2.2.2.2; obtain ⟨b, off, n0, n1, n2, rfl, hhd, c0, c1, c2, cd⟩ := hAr.get3 hx; obtain ⟨-, -, -, -, -, -, hsl, -⟩ := hAr k x hx; have hxl := HA.out.2 x (List.mem_of_getElem? hx); have HK : Hid (Calls Tryd.prog 72 #[.agg #[.int .i64 n0, .int .i64 n1, .int .i64 n2, .slice x.oa x.len x.cap]] wr fun e w' => ∃ g, e = .returned (.agg #[.int .i64 n0, .int .i64 n1, .int .i64 n2, .slice (some ⟨g, 0, none⟩) x.len x.len]) ∧ wr.heap.size ≤ g ∧ Own w' 5 g x.d ∧ wr.grownBy w' none) := toSession_any n0 n1 n2 x.oa x.len x.cap x.d wr hsl (by omega); have HX : Hid (A[k]? = some x ∧ x.hd = [n0, n1, n2] ∧ x.d.length = x.len) := ⟨hx, hhd, hsl.1⟩; clear hx hhd hsl hAr
      have hkI : (k : Int) < (n : Int) := by omega
      go_wp2_with fail; refine HK.out.mono ?_; rintro e w2 ⟨g2, rfl, hg2, hO2, hG2⟩; have hA2 : ElAt w2 74 3 w.heap.size M := HM.out.2.1.kept (fun j hj _ => hG2.block j hj (by simp)); have hzk := HM.out.2.2.2.1 k (Nat.le_refl _) hlt; have z0 : w2.cell? ⟨w.heap.size, k * 4, none⟩ = some (.int .i64 0) := hA2.cell hzk (j := 0) rfl; have f0 : w2.frozen? ⟨w.heap.size, k * 4, none⟩ = false := hA2.froz _; have z1 : w2.cell? ⟨w.heap.size, k * 4 + 1, none⟩ = some (.int .i64 0) := hA2.cell hzk (j := 1) rfl; have f1 : w2.frozen? ⟨w.heap.size, k * 4 + 1, none⟩ = false := hA2.froz _; have z2 : w2.cell? ⟨w.heap.size, k * 4 + 2, none⟩ = some (.int .i64 0) := hA2.cell hzk (j := 2) rfl; have f2 : w2.frozen? ⟨w.heap.size, k * 4 + 2, none⟩ = false := hA2.froz _; have zs : w2.cell? ⟨w.heap.size, k * 4 + 3, none⟩ = some (.slice none 0 0) := hA2.slice hzk; have fs : w2.frozen? ⟨w.heap.size, k * 4 + 3, none⟩ = false := hA2.froz _
      have HR : Hid (∃ M' : List El, M'.length = n ∧ ElAt ((((w2.setCell ⟨w.heap.size, k * 4, none⟩ (.int .i64 n0)).setCell ⟨w.heap.size, k * 4 + 1, none⟩ (.int .i64 n1)).setCell ⟨w.heap.size, k * 4 + 2, none⟩ (.int .i64 n2)).setCell ⟨w.heap.size, k * 4 + 3, none⟩ (.slice (some ⟨g2, 0, none⟩) x.len x.len)) 74 3 w.heap.size M' ∧ (∀ i x, i < k + 1 → A[i]? = some x → ∃ y, M'[i]? = some y ∧ y.tell = x.tell) ∧ (∀ i, k + 1 ≤ i → i < n → M'[i]? = some (zEl 3)) ∧ ∀ y ∈ M', ∀ b, y.o = some b → w.heap.size < b) := by
        have hfr : ∀ y ∈ M, y.o ≠ some g2 := fun y hy e => by
          obtain ⟨i, hi⟩ := List.getElem?_of_mem hy; have h1 := (ownS_blk (HM.out.2.1.own i y hi).2.1 e).lt
          omega
        have hkM : k < M.length := by rw [HM.out.1]; exact hlt
        have hgs : w.heap.size < g2 := by have := HM.out.2.1.lt; omega
        have h1 := hA2.setHd (by decide) hzk 0 (by decide) n0; have h2 := h1.setHd (by decide) (List.getElem?_set_self (by first | exact hkM | (simp only [List.length_set]; exact hkM))) 1 (by decide) n1; have h3 := h2.setHd (by decide) (List.getElem?_set_self (by first | exact hkM | (simp only [List.length_set]; exact hkM))) 2 (by decide) n2; have hO3 : Own (((w2.setCell ⟨w.heap.size, k * 4, none⟩ (.int .i64 n0)).setCell ⟨w.heap.size, k * 4 + 1, none⟩ (.int .i64 n1)).setCell ⟨w.heap.size, k * 4 + 2, none⟩ (.int .i64 n2)) 5 g2 x.d := (((hO2.setOther (by show g2 ≠ w.heap.size; omega)).setOther (by show g2 ≠ w.heap.size; omega)).setOther (by show g2 ≠ w.heap.size; omega))
        have h4 := h3.setO (by decide) (List.getElem?_set_self (by first | exact hkM | (simp only [List.length_set]; exact hkM))) g2 x.len x.d hO3 (by
          intro y hy e; simp only [List.set_set] at hy
          rcases List.mem_or_eq_of_mem_set hy with h | h
          · exact hfr y h e
          · rw [h] at e; cases e)
        simp only [List.set_set, zEl, List.replicate, List.set_cons_zero, List.set_cons_succ] at h4; rw [HX.out.2.2] at h4; refine ⟨_, ?_, h4, fun i y hi hy => ?_, fun i hi hi2 => ?_, fun y hy b' hb' => ?_⟩
        · rw [List.length_set]; exact HM.out.1
        · by_cases hik : i = k
          · subst hik; refine ⟨_, List.getElem?_set_self hkM, ?_⟩
            have : y = x := by have h9 := HX.out.1; rw [h9] at hy; exact (Option.some.inj hy).symm
            subst this; simp only [El.tell, Ar.tell, HX.out.2.1]
          · rw [List.getElem?_set_ne (Ne.symm hik)]; exact HM.out.2.2.1 i y (by omega) hy
        · rw [List.getElem?_set_ne (by omega)]; exact HM.out.2.2.2.1 i (by omega) hi2
        · rcases List.mem_or_eq_of_mem_set hy with h | h
          · exact HM.out.2.2.2.2.1 y h b' hb'
          · rw [h] at hb'; simp only [Option.some.injEq] at hb'
            omega
      have HG3 : Hid (w.grownBy ((((w2.setCell ⟨w.heap.size, k * 4, none⟩ (.int .i64 n0)).setCell ⟨w.heap.size, k * 4 + 1, none⟩ (.int .i64 n1)).setCell ⟨w.heap.size, k * 4 + 2, none⟩ (.int .i64 n2)).setCell ⟨w.heap.size, k * 4 + 3, none⟩ (.slice (some ⟨g2, 0, none⟩) x.len x.len)) none) := by
        have G := grownBy_trans HM.out.2.2.2.2.2 hG2; exact (grownBy_setNew (grownBy_setNew (grownBy_setNew (grownBy_setNew G (Nat.le_refl _)) (Nat.le_refl _)) (Nat.le_refl _)) (Nat.le_refl _))
      clear hO2 hG2 hA2 hzk HK; go_wp2; go_roundw
      case rel => exact ⟨k + 1, by omega, by go_num, HR.out, HG3.out⟩
      case measure => simp [intOf]; omega
    · obtain rfl : k = n := by omega
      go_wp2; go_ret; refine ⟨M, rfl, HM.out.2.1, ?_, HM.out.2.2.2.2.1, HM.out.2.2.2.2.2⟩
      refine List.ext_getElem? fun i => ?_
      rw [List.getElem?_map, List.getElem?_map]
      by_cases hi : i < k
      · obtain ⟨x, hx⟩ : ∃ x, A[i]? = some x := ⟨_, List.getElem?_eq_getElem (by rw [HN.out]; exact hi)⟩; obtain ⟨y, hy, e⟩ := HM.out.2.2.1 i x hi hx; rw [hx, hy]
        simp [e]
      · rw [List.getElem?_eq_none (by rw [HM.out.1]; omega), List.getElem?_eq_none (by rw [HN.out]; omega)]
        rfl
def elSome (L : List El) : Prop := ∀ x ∈ L, x.o ≠ none
set_option maxHeartbeats 400000 in
theorem sesClone_some (c q i : Int) (a : Addr) (len cap : Nat) (zs : List Nat) (w : World) (hsl : SlB w (some a) len zs) (hm : len ≤ 1073741824) :
    Calls Tryd.prog 58 #[.agg #[.int .i64 c, .int .i64 q, .int .i64 i, .slice (some a) len cap]] w fun e w' => ∃ g cp, e = .returned (.agg #[.int .i64 c, .int .i64 q, .int .i64 i, .slice (some ⟨g, 0, none⟩) len cp]) ∧ w.heap.size ≤ g ∧ Own w' 5 g zs ∧ w.grownBy w' none := by
  have HS : Hid (SlB w (some a) len zs) := hsl; clear hsl
  go_enter Tryd.func58, Tryd.ntmps58
  go_wp2_with fail; refine (bclone_some a len cap zs _ (HS.out.grown0 (grownBy_alloc (World.grownBy_alloc _ _ _) _)) hm).mono ?_; rintro e w1 ⟨g1, c1, rfl, hg1, hO1, hG1⟩; obtain ⟨hc, hf⟩ := bcell hG1
  have hz : w.heap.size + 1 + 1 ≤ w1.heap.size := by have := hG1.size; simpa using this
  have hg1' : w.heap.size + 1 + 1 ≤ g1 := by simpa using hg1
  have R : Hid (Own w1 5 g1 zs ∧ w.grownBy w1 none) := ⟨hO1, grownBy_trans (grownBy_alloc (World.grownBy_alloc w _ none) _) hG1⟩; have x0 : w1.cell? ⟨w.heap.size, 0, none⟩ = some (.int .i64 c) := (hc _ _ (by simp; omega)).trans (by simp); have x1 : w1.cell? ⟨w.heap.size, 1, none⟩ = some (.int .i64 q) := (hc _ _ (by simp; omega)).trans (by simp); have x2 : w1.cell? ⟨w.heap.size, 2, none⟩ = some (.int .i64 i) := (hc _ _ (by simp; omega)).trans (by simp); have x3 : w1.cell? ⟨w.heap.size, 3, none⟩ = some (.slice (some a) len cap) := (hc _ _ (by simp; omega)).trans (by simp); have y0 : w1.cell? ⟨w.heap.size + 1, 0, none⟩ = some (.int .i64 0) := (hc _ _ (by simp)).trans (by simp); have y1 : w1.cell? ⟨w.heap.size + 1, 1, none⟩ = some (.int .i64 0) := (hc _ _ (by simp)).trans (by simp); have y2 : w1.cell? ⟨w.heap.size + 1, 2, none⟩ = some (.int .i64 0) := (hc _ _ (by simp)).trans (by simp); have y3 : w1.cell? ⟨w.heap.size + 1, 3, none⟩ = some (.slice none 0 0) := (hc _ _ (by simp)).trans (by simp); have fx : w1.frozen? ⟨w.heap.size, 3, none⟩ = false := (hf _ _ (by simp; omega)).trans (by simp); have fy0 : w1.frozen? ⟨w.heap.size + 1, 0, none⟩ = false := (hf _ _ (by simp)).trans (by simp); have fy1 : w1.frozen? ⟨w.heap.size + 1, 1, none⟩ = false := (hf _ _ (by simp)).trans (by simp); have fy2 : w1.frozen? ⟨w.heap.size + 1, 2, none⟩ = false := (hf _ _ (by simp)).trans (by simp); have fy3 : w1.frozen? ⟨w.heap.size + 1, 3, none⟩ = false := (hf _ _ (by simp)).trans (by simp); clear hO1 hG1 hg1 hc hf; go_wp2; refine bodyPost_ret (v := .agg #[.int .i64 c, .int .i64 q, .int .i64 i, .slice (some ⟨g1, 0, none⟩) len c1]) (by simp [results, Tryd.results58, go_sem, y0, y1, y2, y3]) rfl ⟨g1, c1, rfl, by omega, ?_, ?_⟩
  · exact ((((R.out.1.setOther (by simp; omega)).setOther (by simp; omega)).setOther (by simp; omega)).setOther (by simp; omega)).setOther (by simp; omega)
  · exact grownBy_setNew (grownBy_setNew (grownBy_setNew (grownBy_setNew (grownBy_setNew R.out.2 (by simp)) (by simp)) (by simp)) (by simp)) (by simp)
set_option maxRecDepth 4000 in
set_option maxHeartbeats 2000000 in
theorem cloneItemS_any (g cap : Nat) (L : List El) (w : World) (h : ElAt w 32 2 g L) (hsome : elSome L) (hn : L.length ≤ 1048576) (hd : ∀ x ∈ L, x.d.length ≤ 1048576) :
    Calls Tryd.prog 56 #[.slice (some ⟨g, 0, none⟩) L.length cap, .func (.func 31) #[] #[]] w fun e w' => ∃ M, e = .returned (.slice (some ⟨w.heap.size, 0, none⟩) L.length L.length) ∧ ElAt w' 32 2 w.heap.size M ∧ M.map El.tell = L.map El.tell ∧ elSome M ∧ (∀ y ∈ M, ∀ b, y.o = some b → w.heap.size < b) ∧ w.grownBy w' none := by
  have HA : Hid (ElAt w 32 2 g L ∧ elSome L ∧ ∀ x ∈ L, x.d.length ≤ 1048576) := ⟨h, hsome, hd⟩; have hgl := h.lt; clear h hsome hd; obtain ⟨n, hnn⟩ : ∃ n, L.length = n := ⟨_, rfl⟩; have HN : Hid (L.length = n) := hnn; rw [hnn] at hn ⊢; clear hnn; obtain ⟨i0, hi, hz0, hz1, hz2⟩ := info_parts Tryd.infoItem
  go_enter Tryd.func56, Tryd.ntmps56
  go_wp2_with (at_make; refine wpList_make_full _ rfl (.tmp 9) (.tmp 9) 25 rfl w.heap.size 32 i0 (.agg #[.int .i64 0, .int .i64 0, .slice none 0 0]) 3 Tryd.underlying25 hi hz0 hz1 .i64 .i64 n n n rfl rfl rfl rfl ?cb ?cm (Nat.le_refl _) ?_)
  case cb => rw [hz2]; omega
  case cm => unfold maxLen; omega
  intro w1 hown hgrow
  have HO : Hid (ElAt w1 32 2 w.heap.size (List.replicate n (zEl 2))) := by
    rcases hown.2 with ⟨h0, _⟩ | ⟨g, cap', cur, h0, hb, hg, hc, hm, hs, htake⟩
    · simp at h0
    · simp only [Value.slice.injEq, Option.some.injEq, Addr.mk.injEq, and_true] at h0; obtain ⟨rfl, -, rfl⟩ := h0
      have hcur : ∀ i, i < n * 3 → cur[i]? = (#[.int .i64 0, .int .i64 0, .slice none 0 0] : Array Value)[i % 3]? := by
        intro i hi
        have h1 : cur.toList = (madeCells #[.int .i64 0, .int .i64 0, .slice none 0 0] (n * 3)).toList := by
          have h2 : cur.toList.take (n * 3) = cur.toList := List.take_of_length_le (by simp [hs]); rw [← h2]; exact htake
        have h3 := made_get #[.int .i64 0, .int .i64 0, .slice none 0 0] (n * 3) i hi (by decide); rw [← Array.getElem?_toList, h1, Array.getElem?_toList]; exact h3
      refine ⟨⟨cur, hg, fun i x hx => ?_⟩, fun i x hx => ?_, fun i j x y k hi hj hx hy => ?_⟩
      · obtain ⟨hin, hx'⟩ := List.getElem?_eq_some_iff.1 hx; simp only [List.length_replicate] at hin; rw [List.getElem_replicate] at hx'; subst hx'; refine ⟨fun j m hj => ?_, ?_⟩
        · have hjc := (List.getElem?_eq_some_iff.1 hj).1; simp only [zEl, List.length_replicate] at hjc; rw [hcur _ (by omega), show (i * (2 + 1) + j) % 3 = j by omega]; simp only [zEl] at hj; rw [List.getElem?_replicate, if_pos hjc] at hj
          cases hj
          rcases (show j = 0 ∨ j = 1 by omega) with rfl | rfl <;> rfl
        · rw [hcur _ (by omega), show (i * (2 + 1) + 2) % 3 = 2 by omega]
          rfl
      · obtain ⟨hin, hx'⟩ := List.getElem?_eq_some_iff.1 hx; rw [List.getElem_replicate] at hx'; subst hx'; exact ⟨by simp [zEl], OwnS.none _ _, fun _ => rfl⟩
      · obtain ⟨hin, hx'⟩ := List.getElem?_eq_some_iff.1 hi; rw [List.getElem_replicate] at hx'; subst hx'
        cases hx
  have HG : Hid (w.grownBy w1 none) := hgrow; clear hown hgrow; go_wp2
  go_loopw [13] (fun i wr => ∃ k : Nat, k ≤ n ∧ i = .int .i64 (k : Int) ∧ (∃ M : List El, M.length = n ∧ ElAt wr 32 2 w.heap.size M ∧ (∀ i x, i < k → L[i]? = some x → ∃ y, M[i]? = some y ∧ y.tell = x.tell ∧ y.o ≠ none) ∧ (∀ i, k ≤ i → i < n → M[i]? = some (zEl 2)) ∧ ∀ y ∈ M, ∀ b, y.o = some b → w.heap.size < b) ∧ w.grownBy wr none) (fun i _ => n - (intOf i).toNat)
  case atStart => exact ⟨0, Nat.zero_le _, rfl, ⟨List.replicate n (zEl 2), by simp, HO.out, fun i x hi => absurd hi (by omega), fun i _ hi => by simp [hi], fun y hy b hb => by have := List.eq_of_mem_replicate hy; subst this; cases hb⟩, HG.out⟩
  case round =>
    clear HO HG; obtain ⟨k, hk, rfl, ⟨M, hMl, hM, hM1, hM2, hM3⟩, hG⟩ := hrel; have HM : Hid (M.length = n ∧ ElAt wr 32 2 w.heap.size M ∧ (∀ i x, i < k → L[i]? = some x → ∃ y, M[i]? = some y ∧ y.tell = x.tell ∧ y.o ≠ none) ∧ (∀ i, k ≤ i → i < n → M[i]? = some (zEl 2)) ∧ (∀ y ∈ M, ∀ b, y.o = some b → w.heap.size < b) ∧ w.grownBy wr none) := ⟨hMl, hM, hM1, hM2, hM3, hG⟩; clear hMl hM hM1 hM2 hM3
    by_cases hlt : k < n
    · obtain ⟨x, hx⟩ : ∃ x, L[k]? = some x := ⟨_, List.getElem?_eq_getElem (by rw [HN.out]; exact hlt)⟩; have hAr : ElAt wr 32 2 g L := HA.out.1.kept (fun j hj _ => hG.block j hj (by simp)); obtain ⟨n0, n1, hhd, c0, c1, cd⟩ := hAr.get2 hx; have hOw := (hAr.own k x hx).2.1; have hxs := HA.out.2.1 x (List.mem_of_getElem? hx); have hxl := HA.out.2.2 x (List.mem_of_getElem? hx); have HX : Hid (L[k]? = some x ∧ x.hd = [n0, n1]) := ⟨hx, hhd⟩; obtain ⟨xh, d, o, cp⟩ := x
      obtain ⟨go, rfl⟩ : ∃ go, o = some go := by
        cases o with
        | none => exact absurd rfl hxs
        | some go => exact ⟨go, rfl⟩
      simp only at hhd cd hOw hxl; have hOg := ownS_blk hOw rfl
      have HK : Hid (∀ X : World, wr.grownBy X none → Calls Tryd.prog 31 #[.agg #[.int .i64 n0, .int .i64 n1, .slice (some ⟨go, 0, none⟩) d.length cp]] X fun e w' => ∃ g cp', e = .returned (.agg #[.int .i64 n0, .int .i64 n1, .slice (some ⟨g, 0, none⟩) d.length cp']) ∧ X.heap.size ≤ g ∧ Own w' 5 g d ∧ X.grownBy w' none) := fun X hX => itemClone_some n0 n1 ⟨go, 0, none⟩ d.length cp d X ((hOg.sl d.length rfl).grown0 hX) (by omega)
      have cd' : wr.cell? ⟨g, k * 3 + 2, none⟩ = some (.slice (some ⟨go, 0, none⟩) d.length cp) := cd; clear hx hhd hOw hAr hOg hG cd
      have hkI : (k : Int) < (n : Int) := by omega
      go_wp2_with fail; refine (HK.out _ (World.grownBy_alloc _ _ _)).mono ?_; rintro e w2 ⟨g2, cp2, rfl, hg2, hO2, hG2'⟩; have hG2 : wr.grownBy w2 none := grownBy_trans (World.grownBy_alloc _ _ _) hG2'
      have hg2' : wr.heap.size < g2 := by simp at hg2; omega
      have hA2 : ElAt w2 32 2 w.heap.size M := HM.out.2.1.kept (fun j hj _ => hG2.block j hj (by simp)); have hzk := HM.out.2.2.2.1 k (Nat.le_refl _) hlt; have z0 : w2.cell? ⟨w.heap.size, k * 3, none⟩ = some (.int .i64 0) := hA2.cell hzk (j := 0) rfl; have f0 : w2.frozen? ⟨w.heap.size, k * 3, none⟩ = false := hA2.froz _; have z1 : w2.cell? ⟨w.heap.size, k * 3 + 1, none⟩ = some (.int .i64 0) := hA2.cell hzk (j := 1) rfl; have f1 : w2.frozen? ⟨w.heap.size, k * 3 + 1, none⟩ = false := hA2.froz _; have zs : w2.cell? ⟨w.heap.size, k * 3 + 2, none⟩ = some (.slice none 0 0) := hA2.slice hzk; have fs : w2.frozen? ⟨w.heap.size, k * 3 + 2, none⟩ = false := hA2.froz _
      have HR : Hid (∃ M' : List El, M'.length = n ∧ ElAt (((w2.setCell ⟨w.heap.size, k * 3, none⟩ (.int .i64 n0)).setCell ⟨w.heap.size, k * 3 + 1, none⟩ (.int .i64 n1)).setCell ⟨w.heap.size, k * 3 + 2, none⟩ (.slice (some ⟨g2, 0, none⟩) d.length cp2)) 32 2 w.heap.size M' ∧ (∀ i x, i < k + 1 → L[i]? = some x → ∃ y, M'[i]? = some y ∧ y.tell = x.tell ∧ y.o ≠ none) ∧ (∀ i, k + 1 ≤ i → i < n → M'[i]? = some (zEl 2)) ∧ ∀ y ∈ M', ∀ b, y.o = some b → w.heap.size < b) := by
        have hfr : ∀ y ∈ M, y.o ≠ some g2 := fun y hy e => by
          obtain ⟨i, hi⟩ := List.getElem?_of_mem hy; have h1 := (ownS_blk (HM.out.2.1.own i y hi).2.1 e).lt
          omega
        have hkM : k < M.length := by rw [HM.out.1]; exact hlt
        have hgs : w.heap.size < g2 := by have := HM.out.2.1.lt; omega
        have h1 := hA2.setHd (by decide) hzk 0 (by decide) n0; have h2 := h1.setHd (by decide) (List.getElem?_set_self (by first | exact hkM | (simp only [List.length_set]; exact hkM))) 1 (by decide) n1; have hO3 : Own ((w2.setCell ⟨w.heap.size, k * 3, none⟩ (.int .i64 n0)).setCell ⟨w.heap.size, k * 3 + 1, none⟩ (.int .i64 n1)) 5 g2 d := ((hO2.setOther (by show g2 ≠ w.heap.size; omega)).setOther (by show g2 ≠ w.heap.size; omega))
        have h3 := h2.setO (by decide) (List.getElem?_set_self (by first | exact hkM | (simp only [List.length_set]; exact hkM))) g2 cp2 d hO3 (by
          intro y hy e; simp only [List.set_set] at hy
          rcases List.mem_or_eq_of_mem_set hy with h | h
          · exact hfr y h e
          · rw [h] at e; cases e)
        simp only [List.set_set, zEl, List.replicate, List.set_cons_zero, List.set_cons_succ] at h3; refine ⟨_, ?_, h3, fun i y hi hy => ?_, fun i hi hi2 => ?_, fun y hy b' hb' => ?_⟩
        · rw [List.length_set]; exact HM.out.1
        · by_cases hik : i = k
          · subst hik; refine ⟨_, List.getElem?_set_self hkM, ?_, by simp⟩; have h9 := HX.out.1; rw [h9] at hy; obtain rfl := Option.some.inj hy; simp only [El.tell]; have h8 := HX.out.2
            try simp only at h8
            rw [h8]
          · rw [List.getElem?_set_ne (Ne.symm hik)]; exact HM.out.2.2.1 i y (by omega) hy
        · rw [List.getElem?_set_ne (by omega)]; exact HM.out.2.2.2.1 i (by omega) hi2
        · rcases List.mem_or_eq_of_mem_set hy with h | h
          · exact HM.out.2.2.2.2.1 y h b' hb'
          · rw [h] at hb'; simp only [Option.some.injEq] at hb'
            omega
      have HG3 : Hid (w.grownBy (((w2.setCell ⟨w.heap.size, k * 3, none⟩ (.int .i64 n0)).setCell ⟨w.heap.size, k * 3 + 1, none⟩ (.int .i64 n1)).setCell ⟨w.heap.size, k * 3 + 2, none⟩ (.slice (some ⟨g2, 0, none⟩) d.length cp2)) none) := by
        have G := grownBy_trans HM.out.2.2.2.2.2 hG2; exact (grownBy_setNew (grownBy_setNew (grownBy_setNew G (Nat.le_refl _)) (Nat.le_refl _)) (Nat.le_refl _))
      clear hO2 hG2 hG2' hA2 hzk HK hg2 hg2'; go_wp2; go_roundw
      case rel => exact ⟨k + 1, by omega, by go_num, HR.out, HG3.out⟩
      case measure => simp [intOf]; omega
    · obtain rfl : k = n := by omega
      clear hG; go_wp2; go_ret
      have hall : ∀ i, i < k → ∃ x y, L[i]? = some x ∧ M[i]? = some y ∧ y.tell = x.tell ∧ y.o ≠ none := by
        intro i hi; obtain ⟨x, hx⟩ : ∃ x, L[i]? = some x := ⟨_, List.getElem?_eq_getElem (by rw [HN.out]; exact hi)⟩; obtain ⟨y, hy, e⟩ := HM.out.2.2.1 i x hi hx; exact ⟨x, y, hx, hy, e⟩
      refine ⟨M, rfl, HM.out.2.1, ?_, fun y hy => ?_, HM.out.2.2.2.2.1, HM.out.2.2.2.2.2⟩
      · refine List.ext_getElem? fun i => ?_
        rw [List.getElem?_map, List.getElem?_map]
        by_cases hi : i < k
        · obtain ⟨x, y, hx, hy, e, _⟩ := hall i hi; rw [hx, hy]
          simp [e]
        · rw [List.getElem?_eq_none (by rw [HM.out.1]; omega), List.getElem?_eq_none (by rw [HN.out]; omega)]
          try rfl
      · obtain ⟨i, hi⟩ := List.getElem?_of_mem hy
        have hil : i < k := by have := (List.getElem?_eq_some_iff.1 hi).1; have h2 := HM.out.1; omega
        obtain ⟨x, y', hx, hy', e, hne⟩ := hall i hil; rw [hy'] at hi; obtain rfl := Option.some.inj hi; exact hne
set_option maxRecDepth 4000 in
set_option maxHeartbeats 2000000 in
theorem cloneSessionS_any (g cap : Nat) (L : List El) (w : World) (h : ElAt w 74 3 g L) (hsome : elSome L) (hn : L.length ≤ 1048576) (hd : ∀ x ∈ L, x.d.length ≤ 1048576) :
    Calls Tryd.prog 57 #[.slice (some ⟨g, 0, none⟩) L.length cap, .func (.func 58) #[] #[]] w fun e w' => ∃ M, e = .returned (.slice (some ⟨w.heap.size, 0, none⟩) L.length L.length) ∧ ElAt w' 74 3 w.heap.size M ∧ M.map El.tell = L.map El.tell ∧ elSome M ∧ (∀ y ∈ M, ∀ b, y.o = some b → w.heap.size < b) ∧ w.grownBy w' none := by
  have HA : Hid (ElAt w 74 3 g L ∧ elSome L ∧ ∀ x ∈ L, x.d.length ≤ 1048576) := ⟨h, hsome, hd⟩; have hgl := h.lt; clear h hsome hd; obtain ⟨n, hnn⟩ : ∃ n, L.length = n := ⟨_, rfl⟩; have HN : Hid (L.length = n) := hnn; rw [hnn] at hn ⊢; clear hnn; obtain ⟨i0, hi, hz0, hz1, hz2⟩ := info_parts Tryd.infoSession
  go_enter Tryd.func57, Tryd.ntmps57
  go_wp2_with (at_make; refine wpList_make_full _ rfl (.tmp 9) (.tmp 9) 26 rfl w.heap.size 74 i0 (.agg #[.int .i64 0, .int .i64 0, .int .i64 0, .slice none 0 0]) 4 Tryd.underlying26 hi hz0 hz1 .i64 .i64 n n n rfl rfl rfl rfl ?cb ?cm (Nat.le_refl _) ?_)
  case cb => rw [hz2]; omega
  case cm => unfold maxLen; omega
  intro w1 hown hgrow
  have HO : Hid (ElAt w1 74 3 w.heap.size (List.replicate n (zEl 3))) := by
    rcases hown.2 with ⟨h0, _⟩ | ⟨g, cap', cur, h0, hb, hg, hc, hm, hs, htake⟩
    · simp at h0
    · simp only [Value.slice.injEq, Option.some.injEq, Addr.mk.injEq, and_true] at h0; obtain ⟨rfl, -, rfl⟩ := h0
      have hcur : ∀ i, i < n * 4 → cur[i]? = (#[.int .i64 0, .int .i64 0, .int .i64 0, .slice none 0 0] : Array Value)[i % 4]? := by
        intro i hi
        have h1 : cur.toList = (madeCells #[.int .i64 0, .int .i64 0, .int .i64 0, .slice none 0 0] (n * 4)).toList := by
          have h2 : cur.toList.take (n * 4) = cur.toList := List.take_of_length_le (by simp [hs]); rw [← h2]; exact htake
        have h3 := made_get #[.int .i64 0, .int .i64 0, .int .i64 0, .slice none 0 0] (n * 4) i hi (by decide); rw [← Array.getElem?_toList, h1, Array.getElem?_toList]; exact h3
      refine ⟨⟨cur, hg, fun i x hx => ?_⟩, fun i x hx => ?_, fun i j x y k hi hj hx hy => ?_⟩
      · obtain ⟨hin, hx'⟩ := List.getElem?_eq_some_iff.1 hx; simp only [List.length_replicate] at hin; rw [List.getElem_replicate] at hx'; subst hx'; refine ⟨fun j m hj => ?_, ?_⟩
        · have hjc := (List.getElem?_eq_some_iff.1 hj).1; simp only [zEl, List.length_replicate] at hjc; rw [hcur _ (by omega), show (i * (3 + 1) + j) % 4 = j by omega]; simp only [zEl] at hj; rw [List.getElem?_replicate, if_pos hjc] at hj
          cases hj
          rcases (show j = 0 ∨ j = 1 ∨ j = 2 by omega) with rfl | rfl | rfl <;> rfl
        · rw [hcur _ (by omega), show (i * (3 + 1) + 3) % 4 = 3 by omega]
          rfl
      · obtain ⟨hin, hx'⟩ := List.getElem?_eq_some_iff.1 hx; rw [List.getElem_replicate] at hx'; subst hx'; exact ⟨by simp [zEl], OwnS.none _ _, fun _ => rfl⟩
      · obtain ⟨hin, hx'⟩ := List.getElem?_eq_some_iff.1 hi; rw [List.getElem_replicate] at hx'; subst hx'
        cases hx
  have HG : Hid (w.grownBy w1 none) := hgrow; clear hown hgrow; go_wp2
  go_loopw [13] (fun i wr => ∃ k : Nat, k ≤ n ∧ i = .int .i64 (k : Int) ∧ (∃ M : List El, M.length = n ∧ ElAt wr 74 3 w.heap.size M ∧ (∀ i x, i < k → L[i]? = some x → ∃ y, M[i]? = some y ∧ y.tell = x.tell ∧ y.o ≠ none) ∧ (∀ i, k ≤ i → i < n → M[i]? = some (zEl 3)) ∧ ∀ y ∈ M, ∀ b, y.o = some b → w.heap.size < b) ∧ w.grownBy wr none) (fun i _ => n - (intOf i).toNat)
  case atStart => exact ⟨0, Nat.zero_le _, rfl, ⟨List.replicate n (zEl 3), by simp, HO.out, fun i x hi => absurd hi (by omega), fun i _ hi => by simp [hi], fun y hy b hb => by have := List.eq_of_mem_replicate hy; subst this; cases hb⟩, HG.out⟩
  case round =>
    clear HO HG; obtain ⟨k, hk, rfl, ⟨M, hMl, hM, hM1, hM2, hM3⟩, hG⟩ := hrel; have HM : Hid (M.length = n ∧ ElAt wr 74 3 w.heap.size M ∧ (∀ i x, i < k → L[i]? = some x → ∃ y, M[i]? = some y ∧ y.tell = x.tell ∧ y.o ≠ none) ∧ (∀ i, k ≤ i → i < n → M[i]? = some (zEl 3)) ∧ (∀ y ∈ M, ∀ b, y.o = some b → w.heap.size < b) ∧ w.grownBy wr none) := ⟨hMl, hM, hM1, hM2, hM3, hG⟩; clear hMl hM hM1 hM2 hM3
    by_cases hlt : k < n
    · obtain ⟨x, hx⟩ : ∃ x, L[k]? = some x := ⟨_, List.getElem?_eq_getElem (by rw [HN.out]; exact hlt)⟩; have hAr : ElAt wr 74 3 g L := HA.out.1.kept (fun j hj _ => hG.block j hj (by simp)); obtain ⟨n0, n1, n2, hhd, c0, c1, c2, cd⟩ := hAr.get3 hx; have hOw := (hAr.own k x hx).2.1; have hxs := HA.out.2.1 x (List.mem_of_getElem? hx); have hxl := HA.out.2.2 x (List.mem_of_getElem? hx); have HX : Hid (L[k]? = some x ∧ x.hd = [n0, n1, n2]) := ⟨hx, hhd⟩; obtain ⟨xh, d, o, cp⟩ := x
      obtain ⟨go, rfl⟩ : ∃ go, o = some go := by
        cases o with
        | none => exact absurd rfl hxs
        | some go => exact ⟨go, rfl⟩
      simp only at hhd cd hOw hxl; have hOg := ownS_blk hOw rfl
      have HK : Hid (∀ X : World, wr.grownBy X none → Calls Tryd.prog 58 #[.agg #[.int .i64 n0, .int .i64 n1, .int .i64 n2, .slice (some ⟨go, 0, none⟩) d.length cp]] X fun e w' => ∃ g cp', e = .returned (.agg #[.int .i64 n0, .int .i64 n1, .int .i64 n2, .slice (some ⟨g, 0, none⟩) d.length cp']) ∧ X.heap.size ≤ g ∧ Own w' 5 g d ∧ X.grownBy w' none) := fun X hX => sesClone_some n0 n1 n2 ⟨go, 0, none⟩ d.length cp d X ((hOg.sl d.length rfl).grown0 hX) (by omega)
      have cd' : wr.cell? ⟨g, k * 4 + 3, none⟩ = some (.slice (some ⟨go, 0, none⟩) d.length cp) := cd; clear hx hhd hOw hAr hOg hG cd
      have hkI : (k : Int) < (n : Int) := by omega
      go_wp2_with fail; refine (HK.out _ (World.grownBy_alloc _ _ _)).mono ?_; rintro e w2 ⟨g2, cp2, rfl, hg2, hO2, hG2'⟩; have hG2 : wr.grownBy w2 none := grownBy_trans (World.grownBy_alloc _ _ _) hG2'
      have hg2' : wr.heap.size < g2 := by simp at hg2; omega
      have hA2 : ElAt w2 74 3 w.heap.size M := HM.out.2.1.kept (fun j hj _ => hG2.block j hj (by simp)); have hzk := HM.out.2.2.2.1 k (Nat.le_refl _) hlt; have z0 : w2.cell? ⟨w.heap.size, k * 4, none⟩ = some (.int .i64 0) := hA2.cell hzk (j := 0) rfl; have f0 : w2.frozen? ⟨w.heap.size, k * 4, none⟩ = false := hA2.froz _; have z1 : w2.cell? ⟨w.heap.size, k * 4 + 1, none⟩ = some (.int .i64 0) := hA2.cell hzk (j := 1) rfl; have f1 : w2.frozen? ⟨w.heap.size, k * 4 + 1, none⟩ = false := hA2.froz _; have z2 : w2.cell? ⟨w.heap.size, k * 4 + 2, none⟩ = some (.int .i64 0) := hA2.cell hzk (j := 2) rfl; have f2 : w2.frozen? ⟨w.heap.size, k * 4 + 2, none⟩ = false := hA2.froz _; have zs : w2.cell? ⟨w.heap.size, k * 4 + 3, none⟩ = some (.slice none 0 0) := hA2.slice hzk; have fs : w2.frozen? ⟨w.heap.size, k * 4 + 3, none⟩ = false := hA2.froz _
      have HR : Hid (∃ M' : List El, M'.length = n ∧ ElAt ((((w2.setCell ⟨w.heap.size, k * 4, none⟩ (.int .i64 n0)).setCell ⟨w.heap.size, k * 4 + 1, none⟩ (.int .i64 n1)).setCell ⟨w.heap.size, k * 4 + 2, none⟩ (.int .i64 n2)).setCell ⟨w.heap.size, k * 4 + 3, none⟩ (.slice (some ⟨g2, 0, none⟩) d.length cp2)) 74 3 w.heap.size M' ∧ (∀ i x, i < k + 1 → L[i]? = some x → ∃ y, M'[i]? = some y ∧ y.tell = x.tell ∧ y.o ≠ none) ∧ (∀ i, k + 1 ≤ i → i < n → M'[i]? = some (zEl 3)) ∧ ∀ y ∈ M', ∀ b, y.o = some b → w.heap.size < b) := by
        have hfr : ∀ y ∈ M, y.o ≠ some g2 := fun y hy e => by
          obtain ⟨i, hi⟩ := List.getElem?_of_mem hy; have h1 := (ownS_blk (HM.out.2.1.own i y hi).2.1 e).lt
          omega
        have hkM : k < M.length := by rw [HM.out.1]; exact hlt
        have hgs : w.heap.size < g2 := by have := HM.out.2.1.lt; omega
        have h1 := hA2.setHd (by decide) hzk 0 (by decide) n0; have h2 := h1.setHd (by decide) (List.getElem?_set_self (by first | exact hkM | (simp only [List.length_set]; exact hkM))) 1 (by decide) n1; have h3 := h2.setHd (by decide) (List.getElem?_set_self (by first | exact hkM | (simp only [List.length_set]; exact hkM))) 2 (by decide) n2; have hO3 : Own (((w2.setCell ⟨w.heap.size, k * 4, none⟩ (.int .i64 n0)).setCell ⟨w.heap.size, k * 4 + 1, none⟩ (.int .i64 n1)).setCell ⟨w.heap.size, k * 4 + 2, none⟩ (.int .i64 n2)) 5 g2 d := (((hO2.setOther (by show g2 ≠ w.heap.size; omega)).setOther (by show g2 ≠ w.heap.size; omega)).setOther (by show g2 ≠ w.heap.size; omega))
        have h4 := h3.setO (by decide) (List.getElem?_set_self (by first | exact hkM | (simp only [List.length_set]; exact hkM))) g2 cp2 d hO3 (by
          intro y hy e; simp only [List.set_set] at hy
          rcases List.mem_or_eq_of_mem_set hy with h | h
          · exact hfr y h e
          · rw [h] at e; cases e)
        simp only [List.set_set, zEl, List.replicate, List.set_cons_zero, List.set_cons_succ] at h4; refine ⟨_, ?_, h4, fun i y hi hy => ?_, fun i hi hi2 => ?_, fun y hy b' hb' => ?_⟩
        · rw [List.length_set]; exact HM.out.1
        · by_cases hik : i = k
          · subst hik; refine ⟨_, List.getElem?_set_self hkM, ?_, by simp⟩; have h9 := HX.out.1; rw [h9] at hy; obtain rfl := Option.some.inj hy; simp only [El.tell]; have h8 := HX.out.2
            try simp only at h8
            rw [h8]
          · rw [List.getElem?_set_ne (Ne.symm hik)]; exact HM.out.2.2.1 i y (by omega) hy
        · rw [List.getElem?_set_ne (by omega)]; exact HM.out.2.2.2.1 i (by omega) hi2
        · rcases List.mem_or_eq_of_mem_set hy with h | h
          · exact HM.out.2.2.2.2.1 y h b' hb'
          · rw [h] at hb'; simp only [Option.some.injEq] at hb'
            omega
      have HG3 : Hid (w.grownBy ((((w2.setCell ⟨w.heap.size, k * 4, none⟩ (.int .i64 n0)).setCell ⟨w.heap.size, k * 4 + 1, none⟩ (.int .i64 n1)).setCell ⟨w.heap.size, k * 4 + 2, none⟩ (.int .i64 n2)).setCell ⟨w.heap.size, k * 4 + 3, none⟩ (.slice (some ⟨g2, 0, none⟩) d.length cp2)) none) := by
        have G := grownBy_trans HM.out.2.2.2.2.2 hG2; exact (grownBy_setNew (grownBy_setNew (grownBy_setNew (grownBy_setNew G (Nat.le_refl _)) (Nat.le_refl _)) (Nat.le_refl _)) (Nat.le_refl _))
      clear hO2 hG2 hG2' hA2 hzk HK hg2 hg2'; go_wp2; go_roundw
      case rel => exact ⟨k + 1, by omega, by go_num, HR.out, HG3.out⟩
      case measure => simp [intOf]; omega
    · obtain rfl : k = n := by omega
      clear hG; go_wp2; go_ret
      have hall : ∀ i, i < k → ∃ x y, L[i]? = some x ∧ M[i]? = some y ∧ y.tell = x.tell ∧ y.o ≠ none := by
        intro i hi; obtain ⟨x, hx⟩ : ∃ x, L[i]? = some x := ⟨_, List.getElem?_eq_getElem (by rw [HN.out]; exact hi)⟩; obtain ⟨y, hy, e⟩ := HM.out.2.2.1 i x hi hx; exact ⟨x, y, hx, hy, e⟩
      refine ⟨M, rfl, HM.out.2.1, ?_, fun y hy => ?_, HM.out.2.2.2.2.1, HM.out.2.2.2.2.2⟩
      · refine List.ext_getElem? fun i => ?_
        rw [List.getElem?_map, List.getElem?_map]
        by_cases hi : i < k
        · obtain ⟨x, y, hx, hy, e, _⟩ := hall i hi; rw [hx, hy]
          simp [e]
        · rw [List.getElem?_eq_none (by rw [HM.out.1]; omega), List.getElem?_eq_none (by rw [HN.out]; omega)]
          try rfl
      · obtain ⟨i, hi⟩ := List.getElem?_of_mem hy
        have hil : i < k := by have := (List.getElem?_eq_some_iff.1 hi).1; have h2 := HM.out.1; omega
        obtain ⟨x, y', hx, hy', e, hne⟩ := hall i hil; rw [hy'] at hi; obtain rfl := Option.some.inj hi; exact hne
end Go.Proofs.YtdajcpcajdhplaaDoor
