/-
  The laws' sz.. over the types of a report, walked.
-/
import Derived.Test.YtkjjglnbbahbkaaDoorShapes
import Derived.Test.YtkjjglnbbahbkaaDoorTot
import Derived.Test.YtkjjglnbbahbkaaDoorBytes2
namespace Go.Proofs.YtkjjglnbbahbkaaDoor
open Go.RowKit

theorem szByteS_any (a : Option Addr) (len p m : Nat) (w : World) (hb : len ≤ maxLen) (hm : m ≤ 1048576) :
    Calls Tryd.prog 49 #[.slice a len p, .int .i64 (m : Int)] w fun e w' => ∃ v : Int, e = .returned (.int .i64 v) ∧ ((len ≤ m ∧ v = (m : Int) - ((len : Nat) : Int)) ∨ (m < len ∧ v = -1)) ∧ w.grownBy w' none := by
  rcases Nat.lt_or_ge m len with h | h
  · refine (szByteS_big a len p m w h (by omega) hb).mono ?_
    rintro e w' ⟨rfl, rfl⟩
    exact ⟨_, rfl, .inr ⟨h, rfl⟩, grownBy_refl _ _⟩
  · refine (szByteS_ok a len p m w h (by omega)).mono ?_
    rintro e w' ⟨rfl, rfl⟩
    exact ⟨_, rfl, .inl ⟨h, rfl⟩, grownBy_refl _ _⟩
/-- a row whose elements are of numbers alone -/
theorem row_leaf_tot {w : World} {ks : List Ki} {a : Option Addr} {L : List (List Tr)} (h : RowOk w ks a L) (hk : ∀ k ∈ ks, k.leaf = true) : totR L = L.length := by
  have key : ∀ R : List (List Tr), (∀ e ∈ R, FitsL e ks) → tdRows (tellR R) = 0 := by
    intro R
    induction R with
    | nil => intro _; simp [tdRows]
    | cons e R ih =>
      intro hR
      have h1 : ∀ (e : List Tr) (ks : List Ki), (∀ k ∈ ks, k.leaf = true) → FitsL e ks → tdEl (e.map Tr.tell) = 0 := by
        intro e
        induction e with
        | nil => intro _ _ _; simp [tdEl]
        | cons y e ih2 =>
          intro ks hk hf
          cases ks with
          | nil => have := hf.1; simp at this
          | cons k ks =>
            obtain ⟨_, _, heq, hy, hrest⟩ := hf.cons
            obtain ⟨rfl, rfl⟩ := List.cons.inj heq
            have h2 := ih2 ks (fun k hk' => hk k (by simp [hk'])) hrest
            have h3 := hk k (by simp)
            simp only [List.map_cons, tdEl, h2]
            cases hy using Fits.elim with
            | int n => rfl
            | bool b => rfl
            | str s => simp [Ki.leaf] at h3
            | byt d a p => simp [Ki.leaf] at h3
            | row _ _ => simp [Ki.leaf] at h3
      simp only [tellR, List.map_cons, tdRows]
      rw [h1 e ks hk (hR e (by simp))]
      have := ih (fun e he => hR e (by simp [he]))
      simpa [tellR] using this
  unfold totR
  rw [key L (fun e he => by obtain ⟨i, hi⟩ := List.getElem?_of_mem he; exact (h i e hi).1)]
  rfl
set_option maxRecDepth 4000 in
set_option maxHeartbeats 4000000 in
theorem szEntry_any (n0 : Int) (d1 : List Nat) (a1 : Option Addr) (p1 : Nat) (m : Nat) (w : World) (b1 : d1.length ≤ maxLen) (hm : m ≤ 1048576) :
    Calls Tryd.prog 73 #[.agg #[.int .i64 n0, .slice a1 d1.length p1], .int .i64 (m : Int)] w fun e w' => ∃ v : Int, e = .returned (.int .i64 v) ∧ ((d1.length ≤ m ∧ v = (m : Int) - ((d1.length : Nat) : Int)) ∨ (m < d1.length ∧ v = -1)) ∧ w.grownBy w' none := by
  have C0 : Hid (∀ (Y : World) (z : Nat), w.grownBy Y none → z ≤ 1048576 → Calls Tryd.prog 49 #[.slice a1 d1.length p1, .int .i64 (z : Int)] Y fun e w' => ∃ v : Int, e = .returned (.int .i64 v) ∧ ((d1.length ≤ z ∧ v = (z : Int) - ((d1.length : Nat) : Int)) ∨ (z < d1.length ∧ v = -1)) ∧ Y.grownBy w' none) := fun Y z hY hz => szByteS_any a1 d1.length p1 z Y b1 hz
  have HW : Hid (∀ Y : World, (w.alloc (.cells #[.int .i64 n0, .slice a1 d1.length p1] 135)).grownBy Y none → Y.cell? ⟨w.heap.size, 1, none⟩ = some (.slice a1 d1.length p1)) := fun Y hY => by
    have x0 : Y.heap[w.heap.size]? = some (.cells #[.int .i64 n0, .slice a1 d1.length p1] 135 (0, 0)) := (hY.block _ (by simp) (by simp)).trans (heap_alloc_new w _)
    simp [World.cell?, x0]
  have HG : Hid (w.grownBy (w.alloc (.cells #[.int .i64 n0, .slice a1 d1.length p1] 135)) none) := World.grownBy_alloc _ _ _
  clear b1
  go_enter Tryd.func73, Tryd.ntmps73
  go_wp2_with fail
  refine (C0.out _ m HG.out hm).mono ?_
  rintro e w1 ⟨v0, rfl, hv0, hG1⟩
  have HY : Hid ((w.alloc (.cells #[.int .i64 n0, .slice a1 d1.length p1] 135)).grownBy w1 none) := hG1
  clear hG1
  have hC := HW.out w1 HY.out
  rcases hv0 with ⟨hle, rfl⟩ | ⟨hgt, rfl⟩
  rotate_left
  · have HX : Hid (m < d1.length) := hgt
    clear hgt
    go_wp2
    go_ret
    exact ⟨-1, rfl, .inr ⟨by have hx := HX.out;  omega, rfl⟩, grownBy_trans HG.out HY.out⟩
  obtain ⟨m0, hmm⟩ : ∃ z, m - (d1.length) = z := ⟨_, rfl⟩
  have hmi : (m : Int) - ((d1.length : Nat) : Int) = (m0 : Int) := by omega
  have hm0 : m0 ≤ 1048576 := by omega
  have E0 : Hid (d1.length ≤ m ∧ m - (d1.length) = m0) := ⟨hle, hmm⟩
  rw [hmi]
  clear hle hmm hmi
  go_wp2
  go_ret
  exact ⟨_, rfl, .inl ⟨by have e0 := E0.out; omega, by have e0 := E0.out; omega⟩, grownBy_trans HG.out HY.out⟩
set_option maxRecDepth 4000 in
set_option maxHeartbeats 4000000 in
theorem szEntryS_any (L : List (List Tr)) (a : Option Addr) (p m : Nat) (w : World) (h : RowOk w kEntry a L) (hb : L.length ≤ maxLen) (hm : m ≤ 1048576) :
    Calls Tryd.prog 64 #[.slice a L.length p, .int .i64 (m : Int)] w fun e w' => ∃ v : Int, e = .returned (.int .i64 v) ∧ ((totR L ≤ m ∧ v = (m : Int) - ((totR L : Nat) : Int)) ∨ (m < totR L ∧ v = -1)) ∧ w.grownBy w' none := by
  have HR : Hid (RowOk w kEntry a L) := h
  unfold maxLen at hb
  clear h
  obtain ⟨n, hn⟩ : ∃ n, L.length = n := ⟨_, rfl⟩
  have HN : Hid (L.length = n) := hn
  rw [hn] at hb ⊢
  clear hn
  by_cases hbig : m < n
  · have HB : Hid (m < totR L) := by have := totR_len L; have h2 := HN.out; show m < totR L; omega
    go_enter Tryd.func64, Tryd.ntmps64
    go_wp2
    go_ret
    exact ⟨-1, rfl, .inr ⟨HB.out, rfl⟩, grownBy_refl _ _⟩
  have H0 : Hid (totTo L 0 = n) := by show _ = _; rw [totTo_zero]; exact HN.out
  go_enter Tryd.func64, Tryd.ntmps64
  go_wp2
  go_loopw [1, 5] (fun q i wr => ∃ k : Nat, k ≤ n ∧ i = .int .i64 (k : Int) ∧ q = .int .i64 ((m : Int) - (totTo L k : Int)) ∧ totTo L k ≤ m ∧ w.grownBy wr none) (fun _ i _ => n - (intOf i).toNat)
  case atStart => exact ⟨0, Nat.zero_le _, rfl, by rw [H0.out], by rw [H0.out]; omega, grownBy_refl _ _⟩
  case round =>
    obtain ⟨k, hk, rfl, rfl, hle, hG⟩ := hrel
    have HG : Hid (w.grownBy wr none) := hG
    clear hG
    by_cases hlt : k < n
    · obtain ⟨e, he⟩ : ∃ e, L[k]? = some e := ⟨_, List.getElem?_eq_getElem (by rw [HN.out]; exact hlt)⟩
      have HS : Hid (totTo L (k + 1) = totTo L k + tdEl (e.map Tr.tell) ∧ totTo L (k + 1) ≤ totR L) := ⟨totTo_succ he, totTo_le L _⟩
      obtain ⟨hf, hrd, b, off, hab, hc⟩ := HR.out.grown0 HG.out k e he
      obtain ⟨n0, d1, a1, p1, rfl⟩ := fitEntry hf
      have HT : Hid (tdEl (List.map Tr.tell [.int n0, .byt d1 a1 p1]) = d1.length) := by show _ = _; simp only [List.map_cons, List.map_nil, tdEl]; omega
      subst hab
      have c0 : wr.cell? ⟨b, off + k * 2, none⟩ = some (.int .i64 n0) := hc 0 _ rfl
      have c1 : wr.cell? ⟨b, off + k * 2 + 1, none⟩ = some (.slice a1 d1.length p1) := hc 1 _ rfl
      obtain ⟨z, hz⟩ : ∃ z, m - totTo L k = z := ⟨_, rfl⟩
      have hzI : (m : Int) - (totTo L k : Int) = (z : Int) := by omega
      have HM : Hid (m - totTo L k = z ∧ totTo L k ≤ m) := ⟨hz, hle⟩
      have hzb : z ≤ 1048576 := by omega
      have HK : Hid (∀ X : World, wr.grownBy X none → Calls Tryd.prog 73 #[.agg #[.int .i64 n0, .slice a1 d1.length p1], .int .i64 (z : Int)] X fun e w' => ∃ v : Int, e = .returned (.int .i64 v) ∧ ((d1.length ≤ z ∧ v = (z : Int) - ((d1.length : Nat) : Int)) ∨ (z < d1.length ∧ v = -1)) ∧ X.grownBy w' none) := fun X hs => szEntry_any n0 d1 a1 p1 z X ((hrd (.byt d1 a1 p1) (by simp)).lenB) hzb
      rw [hzI]
      clear hz hzI hle hc hrd hf he
      have hkI : (k : Int) < (n : Int) := by omega
      go_wp2_with fail
      refine (HK.out _ (grownBy_refl _ _)).mono ?_
      rintro e w1 ⟨v, rfl, hv, hG1⟩
      have HG1 : Hid (w.grownBy w1 none) := grownBy_trans HG.out hG1
      clear hG1
      rcases hv with ⟨hle, rfl⟩ | ⟨hgt, rfl⟩
      · obtain ⟨y, hy⟩ : ∃ y, z - (d1.length) = y := ⟨_, rfl⟩
        have hyI : (z : Int) - ((d1.length : Nat) : Int) = (y : Int) := by omega
        have HYY : Hid (z - (d1.length) = y ∧ d1.length ≤ z) := ⟨hy, hle⟩
        have hyb : y ≤ 1048576 := by omega
        rw [hyI]
        clear hy hyI hle
        go_wp2
        go_roundw
        case rel => exact ⟨k + 1, by omega, by go_num, by have h1 := HS.out.1; rw [HT.out] at h1; have h2 := HM.out; have h3 := HYY.out; congr 1; omega, by have h1 := HS.out.1; rw [HT.out] at h1; have h2 := HM.out; have h3 := HYY.out; omega, HG1.out⟩
        case measure => simp [intOf]; omega
      · have HX : Hid (z < d1.length) := hgt
        clear hgt
        go_wp2
        go_ret
        exact ⟨-1, rfl, .inr ⟨by have h1 := HS.out; rw [HT.out] at h1; have h2 := HM.out; have h3 := HX.out; omega, rfl⟩, HG1.out⟩
    · obtain rfl : k = n := by omega
      have HT : Hid (totTo L k = totR L) := by show _ = _; rw [← totTo_all, HN.out]
      obtain ⟨t, ht⟩ : ∃ t, totTo L k = t := ⟨_, rfl⟩
      have HT2 : Hid (totTo L k = t) := ht
      obtain ⟨z, hz⟩ : ∃ z, m - totTo L k = z := ⟨_, rfl⟩
      have hzI : (m : Int) - (totTo L k : Int) = (z : Int) := by omega
      have HM : Hid (m - totTo L k = z ∧ totTo L k ≤ m) := ⟨hz, hle⟩
      have hzb : z ≤ 1048576 := by omega
      rw [hzI]
      clear hz hzI hle ht
      go_wp2
      go_ret
      exact ⟨_, rfl, .inl ⟨by rw [← HT.out]; exact HM.out.2, by rw [← HT.out]; have h2 := HM.out; omega⟩, HG.out⟩
set_option maxRecDepth 4000 in
set_option maxHeartbeats 4000000 in
theorem szMessage_any (n0 : Int) (n1 : Int) (n2 : Int) (n3 : Int) (n4 : Int) (n5 : Int) (n6 : Int) (b7 : Bool) (L8 : List (List Tr)) (a8 : Option Addr) (p8 : Nat) (d9 : List Nat) (a9 : Option Addr) (p9 : Nat) (m : Nat) (w : World) (h8 : RowOk w kEntry a8 L8) (b8 : L8.length ≤ maxLen) (b9 : d9.length ≤ maxLen) (hm : m ≤ 1048576) :
    Calls Tryd.prog 52 #[.agg #[.int .i64 n0, .int .i64 n1, .int .i64 n2, .int .i64 n3, .int .i64 n4, .int .i64 n5, .int .i64 n6, .bool b7, .slice a8 L8.length p8, .slice a9 d9.length p9], .int .i64 (m : Int)] w fun e w' => ∃ v : Int, e = .returned (.int .i64 v) ∧ ((totR L8 + d9.length ≤ m ∧ v = (m : Int) - ((totR L8 + d9.length : Nat) : Int)) ∨ (m < totR L8 + d9.length ∧ v = -1)) ∧ w.grownBy w' none := by
  have C0 : Hid (∀ (Y : World) (z : Nat), w.grownBy Y none → z ≤ 1048576 → Calls Tryd.prog 64 #[.slice a8 L8.length p8, .int .i64 (z : Int)] Y fun e w' => ∃ v : Int, e = .returned (.int .i64 v) ∧ ((totR L8 ≤ z ∧ v = (z : Int) - ((totR L8 : Nat) : Int)) ∨ (z < totR L8 ∧ v = -1)) ∧ Y.grownBy w' none) := fun Y z hY hz => szEntryS_any L8 a8 p8 z Y (h8.grown0 hY) b8 hz
  have C1 : Hid (∀ (Y : World) (z : Nat), w.grownBy Y none → z ≤ 1048576 → Calls Tryd.prog 49 #[.slice a9 d9.length p9, .int .i64 (z : Int)] Y fun e w' => ∃ v : Int, e = .returned (.int .i64 v) ∧ ((d9.length ≤ z ∧ v = (z : Int) - ((d9.length : Nat) : Int)) ∨ (z < d9.length ∧ v = -1)) ∧ Y.grownBy w' none) := fun Y z hY hz => szByteS_any a9 d9.length p9 z Y b9 hz
  have HW : Hid (∀ Y : World, (w.alloc (.cells #[.int .i64 n0, .int .i64 n1, .int .i64 n2, .int .i64 n3, .int .i64 n4, .int .i64 n5, .int .i64 n6, .bool b7, .slice a8 L8.length p8, .slice a9 d9.length p9] 107)).grownBy Y none → Y.cell? ⟨w.heap.size, 8, none⟩ = some (.slice a8 L8.length p8) ∧ Y.cell? ⟨w.heap.size, 9, none⟩ = some (.slice a9 d9.length p9)) := fun Y hY => by
    have x0 : Y.heap[w.heap.size]? = some (.cells #[.int .i64 n0, .int .i64 n1, .int .i64 n2, .int .i64 n3, .int .i64 n4, .int .i64 n5, .int .i64 n6, .bool b7, .slice a8 L8.length p8, .slice a9 d9.length p9] 107 (0, 0)) := (hY.block _ (by simp) (by simp)).trans (heap_alloc_new w _)
    simp [World.cell?, x0]
  have HG : Hid (w.grownBy (w.alloc (.cells #[.int .i64 n0, .int .i64 n1, .int .i64 n2, .int .i64 n3, .int .i64 n4, .int .i64 n5, .int .i64 n6, .bool b7, .slice a8 L8.length p8, .slice a9 d9.length p9] 107)) none) := World.grownBy_alloc _ _ _
  clear h8 b8 b9
  go_enter Tryd.func52, Tryd.ntmps52
  go_wp2_with fail
  refine (C0.out _ m HG.out hm).mono ?_
  rintro e w1 ⟨v0, rfl, hv0, hG1⟩
  have HY : Hid ((w.alloc (.cells #[.int .i64 n0, .int .i64 n1, .int .i64 n2, .int .i64 n3, .int .i64 n4, .int .i64 n5, .int .i64 n6, .bool b7, .slice a8 L8.length p8, .slice a9 d9.length p9] 107)).grownBy w1 none) := hG1
  clear hG1
  have hC := HW.out w1 HY.out
  rcases hv0 with ⟨hle, rfl⟩ | ⟨hgt, rfl⟩
  rotate_left
  · have HX : Hid (m < totR L8) := hgt
    clear hgt
    go_wp2
    go_ret
    exact ⟨-1, rfl, .inr ⟨by have hx := HX.out;  omega, rfl⟩, grownBy_trans HG.out HY.out⟩
  obtain ⟨m0, hmm⟩ : ∃ z, m - (totR L8) = z := ⟨_, rfl⟩
  have hmi : (m : Int) - ((totR L8 : Nat) : Int) = (m0 : Int) := by omega
  have hm0 : m0 ≤ 1048576 := by omega
  have E0 : Hid (totR L8 ≤ m ∧ m - (totR L8) = m0) := ⟨hle, hmm⟩
  rw [hmi]
  clear hle hmm hmi
  go_wp2_with fail
  refine (C1.out _ m0 (grownBy_trans HG.out HY.out) hm0).mono ?_
  rintro e w2 ⟨v1, rfl, hv1, hG2⟩
  have HY : Hid ((w.alloc (.cells #[.int .i64 n0, .int .i64 n1, .int .i64 n2, .int .i64 n3, .int .i64 n4, .int .i64 n5, .int .i64 n6, .bool b7, .slice a8 L8.length p8, .slice a9 d9.length p9] 107)).grownBy w2 none) := grownBy_trans HY.out hG2
  clear hG2 hC
  have hC := HW.out w2 HY.out
  rcases hv1 with ⟨hle, rfl⟩ | ⟨hgt, rfl⟩
  rotate_left
  · have HX : Hid (m0 < d9.length) := hgt
    clear hgt
    go_wp2
    go_ret
    exact ⟨-1, rfl, .inr ⟨by have hx := HX.out; have e0 := E0.out; omega, rfl⟩, grownBy_trans HG.out HY.out⟩
  obtain ⟨m1, hmm⟩ : ∃ z, m0 - (d9.length) = z := ⟨_, rfl⟩
  have hmi : (m0 : Int) - ((d9.length : Nat) : Int) = (m1 : Int) := by omega
  have hm1 : m1 ≤ 1048576 := by omega
  have E1 : Hid (d9.length ≤ m0 ∧ m0 - (d9.length) = m1) := ⟨hle, hmm⟩
  rw [hmi]
  clear hle hmm hmi
  go_wp2
  go_ret
  exact ⟨_, rfl, .inl ⟨by have e0 := E0.out; have e1 := E1.out; omega, by have e0 := E0.out; have e1 := E1.out; omega⟩, grownBy_trans HG.out HY.out⟩
set_option maxRecDepth 4000 in
set_option maxHeartbeats 4000000 in
theorem szMessageS_any (L : List (List Tr)) (a : Option Addr) (p m : Nat) (w : World) (h : RowOk w kMessage a L) (hb : L.length ≤ maxLen) (hm : m ≤ 1048576) :
    Calls Tryd.prog 35 #[.slice a L.length p, .int .i64 (m : Int)] w fun e w' => ∃ v : Int, e = .returned (.int .i64 v) ∧ ((totR L ≤ m ∧ v = (m : Int) - ((totR L : Nat) : Int)) ∨ (m < totR L ∧ v = -1)) ∧ w.grownBy w' none := by
  have HR : Hid (RowOk w kMessage a L) := h
  unfold maxLen at hb
  clear h
  obtain ⟨n, hn⟩ : ∃ n, L.length = n := ⟨_, rfl⟩
  have HN : Hid (L.length = n) := hn
  rw [hn] at hb ⊢
  clear hn
  by_cases hbig : m < n
  · have HB : Hid (m < totR L) := by have := totR_len L; have h2 := HN.out; show m < totR L; omega
    go_enter Tryd.func35, Tryd.ntmps35
    go_wp2
    go_ret
    exact ⟨-1, rfl, .inr ⟨HB.out, rfl⟩, grownBy_refl _ _⟩
  have H0 : Hid (totTo L 0 = n) := by show _ = _; rw [totTo_zero]; exact HN.out
  go_enter Tryd.func35, Tryd.ntmps35
  go_wp2
  go_loopw [1, 5] (fun q i wr => ∃ k : Nat, k ≤ n ∧ i = .int .i64 (k : Int) ∧ q = .int .i64 ((m : Int) - (totTo L k : Int)) ∧ totTo L k ≤ m ∧ w.grownBy wr none) (fun _ i _ => n - (intOf i).toNat)
  case atStart => exact ⟨0, Nat.zero_le _, rfl, by rw [H0.out], by rw [H0.out]; omega, grownBy_refl _ _⟩
  case round =>
    obtain ⟨k, hk, rfl, rfl, hle, hG⟩ := hrel
    have HG : Hid (w.grownBy wr none) := hG
    clear hG
    by_cases hlt : k < n
    · obtain ⟨e, he⟩ : ∃ e, L[k]? = some e := ⟨_, List.getElem?_eq_getElem (by rw [HN.out]; exact hlt)⟩
      have HS : Hid (totTo L (k + 1) = totTo L k + tdEl (e.map Tr.tell) ∧ totTo L (k + 1) ≤ totR L) := ⟨totTo_succ he, totTo_le L _⟩
      obtain ⟨hf, hrd, b, off, hab, hc⟩ := HR.out.grown0 HG.out k e he
      obtain ⟨n0, n1, n2, n3, n4, n5, n6, b7, L8, a8, p8, d9, a9, p9, rfl⟩ := fitMessage hf
      have HT : Hid (tdEl (List.map Tr.tell [.int n0, .int n1, .int n2, .int n3, .int n4, .int n5, .int n6, .bool b7, .row kEntry.length a8 p8 L8, .byt d9 a9 p9]) = totR L8 + d9.length) := by show _ = _; simp only [List.map_cons, List.map_nil, tdEl, totR, tellR, List.length_map]; omega
      subst hab
      have c0 : wr.cell? ⟨b, off + k * 10, none⟩ = some (.int .i64 n0) := hc 0 _ rfl
      have c1 : wr.cell? ⟨b, off + k * 10 + 1, none⟩ = some (.int .i64 n1) := hc 1 _ rfl
      have c2 : wr.cell? ⟨b, off + k * 10 + 2, none⟩ = some (.int .i64 n2) := hc 2 _ rfl
      have c3 : wr.cell? ⟨b, off + k * 10 + 3, none⟩ = some (.int .i64 n3) := hc 3 _ rfl
      have c4 : wr.cell? ⟨b, off + k * 10 + 4, none⟩ = some (.int .i64 n4) := hc 4 _ rfl
      have c5 : wr.cell? ⟨b, off + k * 10 + 5, none⟩ = some (.int .i64 n5) := hc 5 _ rfl
      have c6 : wr.cell? ⟨b, off + k * 10 + 6, none⟩ = some (.int .i64 n6) := hc 6 _ rfl
      have c7 : wr.cell? ⟨b, off + k * 10 + 7, none⟩ = some (.bool b7) := hc 7 _ rfl
      have c8 : wr.cell? ⟨b, off + k * 10 + 8, none⟩ = some (.slice a8 L8.length p8) := hc 8 _ rfl
      have c9 : wr.cell? ⟨b, off + k * 10 + 9, none⟩ = some (.slice a9 d9.length p9) := hc 9 _ rfl
      obtain ⟨z, hz⟩ : ∃ z, m - totTo L k = z := ⟨_, rfl⟩
      have hzI : (m : Int) - (totTo L k : Int) = (z : Int) := by omega
      have HM : Hid (m - totTo L k = z ∧ totTo L k ≤ m) := ⟨hz, hle⟩
      have hzb : z ≤ 1048576 := by omega
      have HK : Hid (∀ X : World, wr.grownBy X none → Calls Tryd.prog 52 #[.agg #[.int .i64 n0, .int .i64 n1, .int .i64 n2, .int .i64 n3, .int .i64 n4, .int .i64 n5, .int .i64 n6, .bool b7, .slice a8 L8.length p8, .slice a9 d9.length p9], .int .i64 (z : Int)] X fun e w' => ∃ v : Int, e = .returned (.int .i64 v) ∧ ((totR L8 + d9.length ≤ z ∧ v = (z : Int) - ((totR L8 + d9.length : Nat) : Int)) ∨ (z < totR L8 + d9.length ∧ v = -1)) ∧ X.grownBy w' none) := fun X hs => szMessage_any n0 n1 n2 n3 n4 n5 n6 b7 L8 a8 p8 d9 a9 p9 z X (((hrd (.row kEntry.length a8 p8 L8) (by simp)).rowOk ((hf.2 8 _ _ rfl rfl)) (by decide)).grown0 hs) ((hrd (.row kEntry.length a8 p8 L8) (by simp)).lenR) ((hrd (.byt d9 a9 p9) (by simp)).lenB) hzb
      rw [hzI]
      clear hz hzI hle hc hrd hf he
      have hkI : (k : Int) < (n : Int) := by omega
      go_wp2_with fail
      refine (HK.out _ (grownBy_refl _ _)).mono ?_
      rintro e w1 ⟨v, rfl, hv, hG1⟩
      have HG1 : Hid (w.grownBy w1 none) := grownBy_trans HG.out hG1
      clear hG1
      rcases hv with ⟨hle, rfl⟩ | ⟨hgt, rfl⟩
      · obtain ⟨y, hy⟩ : ∃ y, z - (totR L8 + d9.length) = y := ⟨_, rfl⟩
        have hyI : (z : Int) - ((totR L8 + d9.length : Nat) : Int) = (y : Int) := by omega
        have HYY : Hid (z - (totR L8 + d9.length) = y ∧ totR L8 + d9.length ≤ z) := ⟨hy, hle⟩
        have hyb : y ≤ 1048576 := by omega
        rw [hyI]
        clear hy hyI hle
        go_wp2
        go_roundw
        case rel => exact ⟨k + 1, by omega, by go_num, by have h1 := HS.out.1; rw [HT.out] at h1; have h2 := HM.out; have h3 := HYY.out; congr 1; omega, by have h1 := HS.out.1; rw [HT.out] at h1; have h2 := HM.out; have h3 := HYY.out; omega, HG1.out⟩
        case measure => simp [intOf]; omega
      · have HX : Hid (z < totR L8 + d9.length) := hgt
        clear hgt
        go_wp2
        go_ret
        exact ⟨-1, rfl, .inr ⟨by have h1 := HS.out; rw [HT.out] at h1; have h2 := HM.out; have h3 := HX.out; omega, rfl⟩, HG1.out⟩
    · obtain rfl : k = n := by omega
      have HT : Hid (totTo L k = totR L) := by show _ = _; rw [← totTo_all, HN.out]
      obtain ⟨t, ht⟩ : ∃ t, totTo L k = t := ⟨_, rfl⟩
      have HT2 : Hid (totTo L k = t) := ht
      obtain ⟨z, hz⟩ : ∃ z, m - totTo L k = z := ⟨_, rfl⟩
      have hzI : (m : Int) - (totTo L k : Int) = (z : Int) := by omega
      have HM : Hid (m - totTo L k = z ∧ totTo L k ≤ m) := ⟨hz, hle⟩
      have hzb : z ≤ 1048576 := by omega
      rw [hzI]
      clear hz hzI hle ht
      go_wp2
      go_ret
      exact ⟨_, rfl, .inl ⟨by rw [← HT.out]; exact HM.out.2, by rw [← HT.out]; have h2 := HM.out; omega⟩, HG.out⟩
set_option maxRecDepth 4000 in
set_option maxHeartbeats 4000000 in
theorem szAckS_any (L : List (List Tr)) (a : Option Addr) (p m : Nat) (w : World) (h : RowOk w kAck a L) (hb : L.length ≤ maxLen) (hm : m ≤ 1048576) :
    Calls Tryd.prog 34 #[.slice a L.length p, .int .i64 (m : Int)] w fun e w' => ∃ v : Int, e = .returned (.int .i64 v) ∧ ((totR L ≤ m ∧ v = (m : Int) - ((totR L : Nat) : Int)) ∨ (m < totR L ∧ v = -1)) ∧ w.grownBy w' none := by
  have HR : Hid (RowOk w kAck a L) := h
  unfold maxLen at hb
  clear h
  obtain ⟨n, hn⟩ : ∃ n, L.length = n := ⟨_, rfl⟩
  have HN : Hid (L.length = n) := hn
  rw [hn] at hb ⊢
  clear hn
  by_cases hbig : m < n
  · have HB : Hid (m < totR L) := by have := totR_len L; have h2 := HN.out; show m < totR L; omega
    go_enter Tryd.func34, Tryd.ntmps34
    go_wp2
    go_ret
    exact ⟨-1, rfl, .inr ⟨HB.out, rfl⟩, grownBy_refl _ _⟩
  have HT : Hid (totR L = n) := (row_leaf_tot HR.out (by decide)).trans HN.out
  clear HR
  go_enter Tryd.func34, Tryd.ntmps34
  go_wp2
  go_ret
  exact ⟨_, rfl, .inl ⟨by rw [HT.out]; omega, by rw [HT.out]⟩, grownBy_refl _ _⟩
set_option maxRecDepth 4000 in
set_option maxHeartbeats 4000000 in
theorem szItem_any (n0 : Int) (n1 : Int) (d2 : List Nat) (a2 : Option Addr) (p2 : Nat) (m : Nat) (w : World) (b2 : d2.length ≤ maxLen) (hm : m ≤ 1048576) :
    Calls Tryd.prog 32 #[.agg #[.int .i64 n0, .int .i64 n1, .slice a2 d2.length p2], .int .i64 (m : Int)] w fun e w' => ∃ v : Int, e = .returned (.int .i64 v) ∧ ((d2.length ≤ m ∧ v = (m : Int) - ((d2.length : Nat) : Int)) ∨ (m < d2.length ∧ v = -1)) ∧ w.grownBy w' none := by
  have C0 : Hid (∀ (Y : World) (z : Nat), w.grownBy Y none → z ≤ 1048576 → Calls Tryd.prog 49 #[.slice a2 d2.length p2, .int .i64 (z : Int)] Y fun e w' => ∃ v : Int, e = .returned (.int .i64 v) ∧ ((d2.length ≤ z ∧ v = (z : Int) - ((d2.length : Nat) : Int)) ∨ (z < d2.length ∧ v = -1)) ∧ Y.grownBy w' none) := fun Y z hY hz => szByteS_any a2 d2.length p2 z Y b2 hz
  have HW : Hid (∀ Y : World, (w.alloc (.cells #[.int .i64 n0, .int .i64 n1, .slice a2 d2.length p2] 60)).grownBy Y none → Y.cell? ⟨w.heap.size, 2, none⟩ = some (.slice a2 d2.length p2)) := fun Y hY => by
    have x0 : Y.heap[w.heap.size]? = some (.cells #[.int .i64 n0, .int .i64 n1, .slice a2 d2.length p2] 60 (0, 0)) := (hY.block _ (by simp) (by simp)).trans (heap_alloc_new w _)
    simp [World.cell?, x0]
  have HG : Hid (w.grownBy (w.alloc (.cells #[.int .i64 n0, .int .i64 n1, .slice a2 d2.length p2] 60)) none) := World.grownBy_alloc _ _ _
  clear b2
  go_enter Tryd.func32, Tryd.ntmps32
  go_wp2_with fail
  refine (C0.out _ m HG.out hm).mono ?_
  rintro e w1 ⟨v0, rfl, hv0, hG1⟩
  have HY : Hid ((w.alloc (.cells #[.int .i64 n0, .int .i64 n1, .slice a2 d2.length p2] 60)).grownBy w1 none) := hG1
  clear hG1
  have hC := HW.out w1 HY.out
  rcases hv0 with ⟨hle, rfl⟩ | ⟨hgt, rfl⟩
  rotate_left
  · have HX : Hid (m < d2.length) := hgt
    clear hgt
    go_wp2
    go_ret
    exact ⟨-1, rfl, .inr ⟨by have hx := HX.out;  omega, rfl⟩, grownBy_trans HG.out HY.out⟩
  obtain ⟨m0, hmm⟩ : ∃ z, m - (d2.length) = z := ⟨_, rfl⟩
  have hmi : (m : Int) - ((d2.length : Nat) : Int) = (m0 : Int) := by omega
  have hm0 : m0 ≤ 1048576 := by omega
  have E0 : Hid (d2.length ≤ m ∧ m - (d2.length) = m0) := ⟨hle, hmm⟩
  rw [hmi]
  clear hle hmm hmi
  go_wp2
  go_ret
  exact ⟨_, rfl, .inl ⟨by have e0 := E0.out; omega, by have e0 := E0.out; omega⟩, grownBy_trans HG.out HY.out⟩
set_option maxRecDepth 4000 in
set_option maxHeartbeats 4000000 in
theorem szItemS_any (L : List (List Tr)) (a : Option Addr) (p m : Nat) (w : World) (h : RowOk w kItem a L) (hb : L.length ≤ maxLen) (hm : m ≤ 1048576) :
    Calls Tryd.prog 50 #[.slice a L.length p, .int .i64 (m : Int)] w fun e w' => ∃ v : Int, e = .returned (.int .i64 v) ∧ ((totR L ≤ m ∧ v = (m : Int) - ((totR L : Nat) : Int)) ∨ (m < totR L ∧ v = -1)) ∧ w.grownBy w' none := by
  have HR : Hid (RowOk w kItem a L) := h
  unfold maxLen at hb
  clear h
  obtain ⟨n, hn⟩ : ∃ n, L.length = n := ⟨_, rfl⟩
  have HN : Hid (L.length = n) := hn
  rw [hn] at hb ⊢
  clear hn
  by_cases hbig : m < n
  · have HB : Hid (m < totR L) := by have := totR_len L; have h2 := HN.out; show m < totR L; omega
    go_enter Tryd.func50, Tryd.ntmps50
    go_wp2
    go_ret
    exact ⟨-1, rfl, .inr ⟨HB.out, rfl⟩, grownBy_refl _ _⟩
  have H0 : Hid (totTo L 0 = n) := by show _ = _; rw [totTo_zero]; exact HN.out
  go_enter Tryd.func50, Tryd.ntmps50
  go_wp2
  go_loopw [1, 5] (fun q i wr => ∃ k : Nat, k ≤ n ∧ i = .int .i64 (k : Int) ∧ q = .int .i64 ((m : Int) - (totTo L k : Int)) ∧ totTo L k ≤ m ∧ w.grownBy wr none) (fun _ i _ => n - (intOf i).toNat)
  case atStart => exact ⟨0, Nat.zero_le _, rfl, by rw [H0.out], by rw [H0.out]; omega, grownBy_refl _ _⟩
  case round =>
    obtain ⟨k, hk, rfl, rfl, hle, hG⟩ := hrel
    have HG : Hid (w.grownBy wr none) := hG
    clear hG
    by_cases hlt : k < n
    · obtain ⟨e, he⟩ : ∃ e, L[k]? = some e := ⟨_, List.getElem?_eq_getElem (by rw [HN.out]; exact hlt)⟩
      have HS : Hid (totTo L (k + 1) = totTo L k + tdEl (e.map Tr.tell) ∧ totTo L (k + 1) ≤ totR L) := ⟨totTo_succ he, totTo_le L _⟩
      obtain ⟨hf, hrd, b, off, hab, hc⟩ := HR.out.grown0 HG.out k e he
      obtain ⟨n0, n1, d2, a2, p2, rfl⟩ := fitItem hf
      have HT : Hid (tdEl (List.map Tr.tell [.int n0, .int n1, .byt d2 a2 p2]) = d2.length) := by show _ = _; simp only [List.map_cons, List.map_nil, tdEl]; omega
      subst hab
      have c0 : wr.cell? ⟨b, off + k * 3, none⟩ = some (.int .i64 n0) := hc 0 _ rfl
      have c1 : wr.cell? ⟨b, off + k * 3 + 1, none⟩ = some (.int .i64 n1) := hc 1 _ rfl
      have c2 : wr.cell? ⟨b, off + k * 3 + 2, none⟩ = some (.slice a2 d2.length p2) := hc 2 _ rfl
      obtain ⟨z, hz⟩ : ∃ z, m - totTo L k = z := ⟨_, rfl⟩
      have hzI : (m : Int) - (totTo L k : Int) = (z : Int) := by omega
      have HM : Hid (m - totTo L k = z ∧ totTo L k ≤ m) := ⟨hz, hle⟩
      have hzb : z ≤ 1048576 := by omega
      have HK : Hid (∀ X : World, wr.grownBy X none → Calls Tryd.prog 32 #[.agg #[.int .i64 n0, .int .i64 n1, .slice a2 d2.length p2], .int .i64 (z : Int)] X fun e w' => ∃ v : Int, e = .returned (.int .i64 v) ∧ ((d2.length ≤ z ∧ v = (z : Int) - ((d2.length : Nat) : Int)) ∨ (z < d2.length ∧ v = -1)) ∧ X.grownBy w' none) := fun X hs => szItem_any n0 n1 d2 a2 p2 z X ((hrd (.byt d2 a2 p2) (by simp)).lenB) hzb
      rw [hzI]
      clear hz hzI hle hc hrd hf he
      have hkI : (k : Int) < (n : Int) := by omega
      go_wp2_with fail
      refine (HK.out _ (grownBy_refl _ _)).mono ?_
      rintro e w1 ⟨v, rfl, hv, hG1⟩
      have HG1 : Hid (w.grownBy w1 none) := grownBy_trans HG.out hG1
      clear hG1
      rcases hv with ⟨hle, rfl⟩ | ⟨hgt, rfl⟩
      · obtain ⟨y, hy⟩ : ∃ y, z - (d2.length) = y := ⟨_, rfl⟩
        have hyI : (z : Int) - ((d2.length : Nat) : Int) = (y : Int) := by omega
        have HYY : Hid (z - (d2.length) = y ∧ d2.length ≤ z) := ⟨hy, hle⟩
        have hyb : y ≤ 1048576 := by omega
        rw [hyI]
        clear hy hyI hle
        go_wp2
        go_roundw
        case rel => exact ⟨k + 1, by omega, by go_num, by have h1 := HS.out.1; rw [HT.out] at h1; have h2 := HM.out; have h3 := HYY.out; congr 1; omega, by have h1 := HS.out.1; rw [HT.out] at h1; have h2 := HM.out; have h3 := HYY.out; omega, HG1.out⟩
        case measure => simp [intOf]; omega
      · have HX : Hid (z < d2.length) := hgt
        clear hgt
        go_wp2
        go_ret
        exact ⟨-1, rfl, .inr ⟨by have h1 := HS.out; rw [HT.out] at h1; have h2 := HM.out; have h3 := HX.out; omega, rfl⟩, HG1.out⟩
    · obtain rfl : k = n := by omega
      have HT : Hid (totTo L k = totR L) := by show _ = _; rw [← totTo_all, HN.out]
      obtain ⟨t, ht⟩ : ∃ t, totTo L k = t := ⟨_, rfl⟩
      have HT2 : Hid (totTo L k = t) := ht
      obtain ⟨z, hz⟩ : ∃ z, m - totTo L k = z := ⟨_, rfl⟩
      have hzI : (m : Int) - (totTo L k : Int) = (z : Int) := by omega
      have HM : Hid (m - totTo L k = z ∧ totTo L k ≤ m) := ⟨hz, hle⟩
      have hzb : z ≤ 1048576 := by omega
      rw [hzI]
      clear hz hzI hle ht
      go_wp2
      go_ret
      exact ⟨_, rfl, .inl ⟨by rw [← HT.out]; exact HM.out.2, by rw [← HT.out]; have h2 := HM.out; omega⟩, HG.out⟩
set_option maxRecDepth 4000 in
set_option maxHeartbeats 4000000 in
theorem szSession_any (n0 : Int) (n1 : Int) (n2 : Int) (d3 : List Nat) (a3 : Option Addr) (p3 : Nat) (m : Nat) (w : World) (b3 : d3.length ≤ maxLen) (hm : m ≤ 1048576) :
    Calls Tryd.prog 63 #[.agg #[.int .i64 n0, .int .i64 n1, .int .i64 n2, .slice a3 d3.length p3], .int .i64 (m : Int)] w fun e w' => ∃ v : Int, e = .returned (.int .i64 v) ∧ ((d3.length ≤ m ∧ v = (m : Int) - ((d3.length : Nat) : Int)) ∨ (m < d3.length ∧ v = -1)) ∧ w.grownBy w' none := by
  have C0 : Hid (∀ (Y : World) (z : Nat), w.grownBy Y none → z ≤ 1048576 → Calls Tryd.prog 49 #[.slice a3 d3.length p3, .int .i64 (z : Int)] Y fun e w' => ∃ v : Int, e = .returned (.int .i64 v) ∧ ((d3.length ≤ z ∧ v = (z : Int) - ((d3.length : Nat) : Int)) ∨ (z < d3.length ∧ v = -1)) ∧ Y.grownBy w' none) := fun Y z hY hz => szByteS_any a3 d3.length p3 z Y b3 hz
  have HW : Hid (∀ Y : World, (w.alloc (.cells #[.int .i64 n0, .int .i64 n1, .int .i64 n2, .slice a3 d3.length p3] 122)).grownBy Y none → Y.cell? ⟨w.heap.size, 3, none⟩ = some (.slice a3 d3.length p3)) := fun Y hY => by
    have x0 : Y.heap[w.heap.size]? = some (.cells #[.int .i64 n0, .int .i64 n1, .int .i64 n2, .slice a3 d3.length p3] 122 (0, 0)) := (hY.block _ (by simp) (by simp)).trans (heap_alloc_new w _)
    simp [World.cell?, x0]
  have HG : Hid (w.grownBy (w.alloc (.cells #[.int .i64 n0, .int .i64 n1, .int .i64 n2, .slice a3 d3.length p3] 122)) none) := World.grownBy_alloc _ _ _
  clear b3
  go_enter Tryd.func63, Tryd.ntmps63
  go_wp2_with fail
  refine (C0.out _ m HG.out hm).mono ?_
  rintro e w1 ⟨v0, rfl, hv0, hG1⟩
  have HY : Hid ((w.alloc (.cells #[.int .i64 n0, .int .i64 n1, .int .i64 n2, .slice a3 d3.length p3] 122)).grownBy w1 none) := hG1
  clear hG1
  have hC := HW.out w1 HY.out
  rcases hv0 with ⟨hle, rfl⟩ | ⟨hgt, rfl⟩
  rotate_left
  · have HX : Hid (m < d3.length) := hgt
    clear hgt
    go_wp2
    go_ret
    exact ⟨-1, rfl, .inr ⟨by have hx := HX.out;  omega, rfl⟩, grownBy_trans HG.out HY.out⟩
  obtain ⟨m0, hmm⟩ : ∃ z, m - (d3.length) = z := ⟨_, rfl⟩
  have hmi : (m : Int) - ((d3.length : Nat) : Int) = (m0 : Int) := by omega
  have hm0 : m0 ≤ 1048576 := by omega
  have E0 : Hid (d3.length ≤ m ∧ m - (d3.length) = m0) := ⟨hle, hmm⟩
  rw [hmi]
  clear hle hmm hmi
  go_wp2
  go_ret
  exact ⟨_, rfl, .inl ⟨by have e0 := E0.out; omega, by have e0 := E0.out; omega⟩, grownBy_trans HG.out HY.out⟩
set_option maxRecDepth 4000 in
set_option maxHeartbeats 4000000 in
theorem szSessionS_any (L : List (List Tr)) (a : Option Addr) (p m : Nat) (w : World) (h : RowOk w kSession a L) (hb : L.length ≤ maxLen) (hm : m ≤ 1048576) :
    Calls Tryd.prog 51 #[.slice a L.length p, .int .i64 (m : Int)] w fun e w' => ∃ v : Int, e = .returned (.int .i64 v) ∧ ((totR L ≤ m ∧ v = (m : Int) - ((totR L : Nat) : Int)) ∨ (m < totR L ∧ v = -1)) ∧ w.grownBy w' none := by
  have HR : Hid (RowOk w kSession a L) := h
  unfold maxLen at hb
  clear h
  obtain ⟨n, hn⟩ : ∃ n, L.length = n := ⟨_, rfl⟩
  have HN : Hid (L.length = n) := hn
  rw [hn] at hb ⊢
  clear hn
  by_cases hbig : m < n
  · have HB : Hid (m < totR L) := by have := totR_len L; have h2 := HN.out; show m < totR L; omega
    go_enter Tryd.func51, Tryd.ntmps51
    go_wp2
    go_ret
    exact ⟨-1, rfl, .inr ⟨HB.out, rfl⟩, grownBy_refl _ _⟩
  have H0 : Hid (totTo L 0 = n) := by show _ = _; rw [totTo_zero]; exact HN.out
  go_enter Tryd.func51, Tryd.ntmps51
  go_wp2
  go_loopw [1, 5] (fun q i wr => ∃ k : Nat, k ≤ n ∧ i = .int .i64 (k : Int) ∧ q = .int .i64 ((m : Int) - (totTo L k : Int)) ∧ totTo L k ≤ m ∧ w.grownBy wr none) (fun _ i _ => n - (intOf i).toNat)
  case atStart => exact ⟨0, Nat.zero_le _, rfl, by rw [H0.out], by rw [H0.out]; omega, grownBy_refl _ _⟩
  case round =>
    obtain ⟨k, hk, rfl, rfl, hle, hG⟩ := hrel
    have HG : Hid (w.grownBy wr none) := hG
    clear hG
    by_cases hlt : k < n
    · obtain ⟨e, he⟩ : ∃ e, L[k]? = some e := ⟨_, List.getElem?_eq_getElem (by rw [HN.out]; exact hlt)⟩
      have HS : Hid (totTo L (k + 1) = totTo L k + tdEl (e.map Tr.tell) ∧ totTo L (k + 1) ≤ totR L) := ⟨totTo_succ he, totTo_le L _⟩
      obtain ⟨hf, hrd, b, off, hab, hc⟩ := HR.out.grown0 HG.out k e he
      obtain ⟨n0, n1, n2, d3, a3, p3, rfl⟩ := fitSession hf
      have HT : Hid (tdEl (List.map Tr.tell [.int n0, .int n1, .int n2, .byt d3 a3 p3]) = d3.length) := by show _ = _; simp only [List.map_cons, List.map_nil, tdEl]; omega
      subst hab
      have c0 : wr.cell? ⟨b, off + k * 4, none⟩ = some (.int .i64 n0) := hc 0 _ rfl
      have c1 : wr.cell? ⟨b, off + k * 4 + 1, none⟩ = some (.int .i64 n1) := hc 1 _ rfl
      have c2 : wr.cell? ⟨b, off + k * 4 + 2, none⟩ = some (.int .i64 n2) := hc 2 _ rfl
      have c3 : wr.cell? ⟨b, off + k * 4 + 3, none⟩ = some (.slice a3 d3.length p3) := hc 3 _ rfl
      obtain ⟨z, hz⟩ : ∃ z, m - totTo L k = z := ⟨_, rfl⟩
      have hzI : (m : Int) - (totTo L k : Int) = (z : Int) := by omega
      have HM : Hid (m - totTo L k = z ∧ totTo L k ≤ m) := ⟨hz, hle⟩
      have hzb : z ≤ 1048576 := by omega
      have HK : Hid (∀ X : World, wr.grownBy X none → Calls Tryd.prog 63 #[.agg #[.int .i64 n0, .int .i64 n1, .int .i64 n2, .slice a3 d3.length p3], .int .i64 (z : Int)] X fun e w' => ∃ v : Int, e = .returned (.int .i64 v) ∧ ((d3.length ≤ z ∧ v = (z : Int) - ((d3.length : Nat) : Int)) ∨ (z < d3.length ∧ v = -1)) ∧ X.grownBy w' none) := fun X hs => szSession_any n0 n1 n2 d3 a3 p3 z X ((hrd (.byt d3 a3 p3) (by simp)).lenB) hzb
      rw [hzI]
      clear hz hzI hle hc hrd hf he
      have hkI : (k : Int) < (n : Int) := by omega
      go_wp2_with fail
      refine (HK.out _ (grownBy_refl _ _)).mono ?_
      rintro e w1 ⟨v, rfl, hv, hG1⟩
      have HG1 : Hid (w.grownBy w1 none) := grownBy_trans HG.out hG1
      clear hG1
      rcases hv with ⟨hle, rfl⟩ | ⟨hgt, rfl⟩
      · obtain ⟨y, hy⟩ : ∃ y, z - (d3.length) = y := ⟨_, rfl⟩
        have hyI : (z : Int) - ((d3.length : Nat) : Int) = (y : Int) := by omega
        have HYY : Hid (z - (d3.length) = y ∧ d3.length ≤ z) := ⟨hy, hle⟩
        have hyb : y ≤ 1048576 := by omega
        rw [hyI]
        clear hy hyI hle
        go_wp2
        go_roundw
        case rel => exact ⟨k + 1, by omega, by go_num, by have h1 := HS.out.1; rw [HT.out] at h1; have h2 := HM.out; have h3 := HYY.out; congr 1; omega, by have h1 := HS.out.1; rw [HT.out] at h1; have h2 := HM.out; have h3 := HYY.out; omega, HG1.out⟩
        case measure => simp [intOf]; omega
      · have HX : Hid (z < d3.length) := hgt
        clear hgt
        go_wp2
        go_ret
        exact ⟨-1, rfl, .inr ⟨by have h1 := HS.out; rw [HT.out] at h1; have h2 := HM.out; have h3 := HX.out; omega, rfl⟩, HG1.out⟩
    · obtain rfl : k = n := by omega
      have HT : Hid (totTo L k = totR L) := by show _ = _; rw [← totTo_all, HN.out]
      obtain ⟨t, ht⟩ : ∃ t, totTo L k = t := ⟨_, rfl⟩
      have HT2 : Hid (totTo L k = t) := ht
      obtain ⟨z, hz⟩ : ∃ z, m - totTo L k = z := ⟨_, rfl⟩
      have hzI : (m : Int) - (totTo L k : Int) = (z : Int) := by omega
      have HM : Hid (m - totTo L k = z ∧ totTo L k ≤ m) := ⟨hz, hle⟩
      have hzb : z ≤ 1048576 := by omega
      rw [hzI]
      clear hz hzI hle ht
      go_wp2
      go_ret
      exact ⟨_, rfl, .inl ⟨by rw [← HT.out]; exact HM.out.2, by rw [← HT.out]; have h2 := HM.out; omega⟩, HG.out⟩
set_option maxRecDepth 4000 in
set_option maxHeartbeats 4000000 in
theorem szService_any (n0 : Int) (L1 : List (List Tr)) (a1 : Option Addr) (p1 : Nat) (L2 : List (List Tr)) (a2 : Option Addr) (p2 : Nat) (m : Nat) (w : World) (h1 : RowOk w kItem a1 L1) (b1 : L1.length ≤ maxLen) (h2 : RowOk w kSession a2 L2) (b2 : L2.length ≤ maxLen) (hm : m ≤ 1048576) :
    Calls Tryd.prog 33 #[.agg #[.int .i64 n0, .slice a1 L1.length p1, .slice a2 L2.length p2], .int .i64 (m : Int)] w fun e w' => ∃ v : Int, e = .returned (.int .i64 v) ∧ ((totR L1 + totR L2 ≤ m ∧ v = (m : Int) - ((totR L1 + totR L2 : Nat) : Int)) ∨ (m < totR L1 + totR L2 ∧ v = -1)) ∧ w.grownBy w' none := by
  have C0 : Hid (∀ (Y : World) (z : Nat), w.grownBy Y none → z ≤ 1048576 → Calls Tryd.prog 50 #[.slice a1 L1.length p1, .int .i64 (z : Int)] Y fun e w' => ∃ v : Int, e = .returned (.int .i64 v) ∧ ((totR L1 ≤ z ∧ v = (z : Int) - ((totR L1 : Nat) : Int)) ∨ (z < totR L1 ∧ v = -1)) ∧ Y.grownBy w' none) := fun Y z hY hz => szItemS_any L1 a1 p1 z Y (h1.grown0 hY) b1 hz
  have C1 : Hid (∀ (Y : World) (z : Nat), w.grownBy Y none → z ≤ 1048576 → Calls Tryd.prog 51 #[.slice a2 L2.length p2, .int .i64 (z : Int)] Y fun e w' => ∃ v : Int, e = .returned (.int .i64 v) ∧ ((totR L2 ≤ z ∧ v = (z : Int) - ((totR L2 : Nat) : Int)) ∨ (z < totR L2 ∧ v = -1)) ∧ Y.grownBy w' none) := fun Y z hY hz => szSessionS_any L2 a2 p2 z Y (h2.grown0 hY) b2 hz
  have HW : Hid (∀ Y : World, (w.alloc (.cells #[.int .i64 n0, .slice a1 L1.length p1, .slice a2 L2.length p2] 64)).grownBy Y none → Y.cell? ⟨w.heap.size, 1, none⟩ = some (.slice a1 L1.length p1) ∧ Y.cell? ⟨w.heap.size, 2, none⟩ = some (.slice a2 L2.length p2)) := fun Y hY => by
    have x0 : Y.heap[w.heap.size]? = some (.cells #[.int .i64 n0, .slice a1 L1.length p1, .slice a2 L2.length p2] 64 (0, 0)) := (hY.block _ (by simp) (by simp)).trans (heap_alloc_new w _)
    simp [World.cell?, x0]
  have HG : Hid (w.grownBy (w.alloc (.cells #[.int .i64 n0, .slice a1 L1.length p1, .slice a2 L2.length p2] 64)) none) := World.grownBy_alloc _ _ _
  clear h1 b1 h2 b2
  go_enter Tryd.func33, Tryd.ntmps33
  go_wp2_with fail
  refine (C0.out _ m HG.out hm).mono ?_
  rintro e w1 ⟨v0, rfl, hv0, hG1⟩
  have HY : Hid ((w.alloc (.cells #[.int .i64 n0, .slice a1 L1.length p1, .slice a2 L2.length p2] 64)).grownBy w1 none) := hG1
  clear hG1
  have hC := HW.out w1 HY.out
  rcases hv0 with ⟨hle, rfl⟩ | ⟨hgt, rfl⟩
  rotate_left
  · have HX : Hid (m < totR L1) := hgt
    clear hgt
    go_wp2
    go_ret
    exact ⟨-1, rfl, .inr ⟨by have hx := HX.out;  omega, rfl⟩, grownBy_trans HG.out HY.out⟩
  obtain ⟨m0, hmm⟩ : ∃ z, m - (totR L1) = z := ⟨_, rfl⟩
  have hmi : (m : Int) - ((totR L1 : Nat) : Int) = (m0 : Int) := by omega
  have hm0 : m0 ≤ 1048576 := by omega
  have E0 : Hid (totR L1 ≤ m ∧ m - (totR L1) = m0) := ⟨hle, hmm⟩
  rw [hmi]
  clear hle hmm hmi
  go_wp2_with fail
  refine (C1.out _ m0 (grownBy_trans HG.out HY.out) hm0).mono ?_
  rintro e w2 ⟨v1, rfl, hv1, hG2⟩
  have HY : Hid ((w.alloc (.cells #[.int .i64 n0, .slice a1 L1.length p1, .slice a2 L2.length p2] 64)).grownBy w2 none) := grownBy_trans HY.out hG2
  clear hG2 hC
  have hC := HW.out w2 HY.out
  rcases hv1 with ⟨hle, rfl⟩ | ⟨hgt, rfl⟩
  rotate_left
  · have HX : Hid (m0 < totR L2) := hgt
    clear hgt
    go_wp2
    go_ret
    exact ⟨-1, rfl, .inr ⟨by have hx := HX.out; have e0 := E0.out; omega, rfl⟩, grownBy_trans HG.out HY.out⟩
  obtain ⟨m1, hmm⟩ : ∃ z, m0 - (totR L2) = z := ⟨_, rfl⟩
  have hmi : (m0 : Int) - ((totR L2 : Nat) : Int) = (m1 : Int) := by omega
  have hm1 : m1 ≤ 1048576 := by omega
  have E1 : Hid (totR L2 ≤ m0 ∧ m0 - (totR L2) = m1) := ⟨hle, hmm⟩
  rw [hmi]
  clear hle hmm hmi
  go_wp2
  go_ret
  exact ⟨_, rfl, .inl ⟨by have e0 := E0.out; have e1 := E1.out; omega, by have e0 := E0.out; have e1 := E1.out; omega⟩, grownBy_trans HG.out HY.out⟩
end Go.Proofs.YtkjjglnbbahbkaaDoor
