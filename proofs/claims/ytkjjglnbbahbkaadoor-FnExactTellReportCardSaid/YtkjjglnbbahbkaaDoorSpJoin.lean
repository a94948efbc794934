/-
  The model's l7Join, walked.
-/
import Derived.Test.YtkjjglnbbahbkaaDoorSpDecT
namespace Go.Proofs.YtkjjglnbbahbkaaDoor
open Go.RowKit

/-- numerals with the mark between them -/
def joinB (mark : Nat) (ns : List Int) : List Nat := (numB mark ns).drop 1
theorem joinB_cons (mark : Nat) (x : Int) (ns : List Int) : joinB mark (x :: ns) = decI x ++ numB mark ns := by simp [joinB, numB]
theorem joinB_mark (mark : Nat) (x : Int) (ns : List Int) : mark :: joinB mark (x :: ns) = numB mark (x :: ns) := by simp [joinB, numB]
theorem joinB_snoc0 (mark : Nat) (ns : List Int) (x : Int) (h : ns[0]? = some x) : joinB mark (ns.take 1) = decI x := by
  rw [joinB, numB_snoc mark ns 0 x h]; simp [numB]
theorem joinB_snoc (mark : Nat) (ns : List Int) (k : Nat) (x : Int) (h : ns[k]? = some x) (hk : 0 < k) : joinB mark (ns.take (k + 1)) = joinB mark (ns.take k) ++ ([mark] ++ decI x) := by
  have hl : k < ns.length := (List.getElem?_eq_some_iff.1 h).1
  rw [joinB, numB_snoc mark ns k x h, joinB]
  rw [List.drop_append_of_le_length]
  · rfl
  · cases ns with
    | nil => simp at hl
    | cons y ns =>
      cases k with
      | zero => omega
      | succ k => simp [numB]
theorem joinB_len {mark : Nat} {ns : List Int} (h : ∀ x ∈ ns, I64 x) : (joinB mark ns).length ≤ 22 * ns.length := by
  have := numB_len (mark := mark) h
  rw [joinB, List.length_drop]; omega
set_option maxRecDepth 4000 in
set_option maxHeartbeats 4000000 in
theorem l7Join_out {B : Nat} {w : World} {v : Value} {zs : List Nat} (ho : Out B w v zs) (mark : Nat) (hmk : mark < 256) (s : Nat) (ns : List Int) (hs : w.heap[s]? = some (.cells (ns.map (Value.int .i64)).toArray 3 (0, 0))) (hI : ∀ x ∈ ns, I64 x) (hnl : ns.length ≤ 64) (hB : B ≤ w.heap.size) (hl : zs.length ≤ 4294967296) :
    Calls Tryd.prog 15 #[v, .int .u8 (mark : Int), .slice (some ⟨s, 0, none⟩) ns.length ns.length] w fun e w' => ∃ v', e = .returned v' ∧ Out B w' v' (zs ++ joinB mark ns) ∧ Ex B w w' := by
  have HO : Hid (Out B w v zs ∧ w.heap[s]? = some (.cells (ns.map (Value.int .i64)).toArray 3 (0, 0)) ∧ (∀ x ∈ ns, I64 x) ∧ B ≤ w.heap.size) := ⟨ho, hs, hI, hB⟩
  clear ho hs hI hB
  obtain ⟨n, hn⟩ : ∃ n, ns.length = n := ⟨_, rfl⟩
  have HN : Hid (ns.length = n) := hn
  rw [hn] at hnl ⊢
  clear hn
  go_enter Tryd.func15, Tryd.ntmps15
  go_wp2
  go_loopw [0, 11] (fun v i wr => ∃ k : Nat, k ≤ n ∧ i = .int .i64 (k : Int) ∧ Out B wr v (zs ++ joinB mark (ns.take k)) ∧ Ex B w wr) (fun _ i _ => n - (intOf i).toNat)
  case atStart => exact ⟨0, Nat.zero_le _, rfl, by simpa [joinB, numB] using HO.out.1, Ex.refl _ _⟩
  case round =>
    obtain ⟨k, hk, rfl, hOr, hE⟩ := hrel
    have HR : Hid (Out B wr u0 (zs ++ joinB mark (ns.take k)) ∧ Ex B w wr) := ⟨hOr, hE⟩
    clear hOr hE
    by_cases hlt : k < n
    · obtain ⟨x, hx⟩ : ∃ x, ns[k]? = some x := ⟨_, List.getElem?_eq_getElem (by rw [HN.out]; exact hlt)⟩
      have c0 : wr.cell? ⟨s, k, none⟩ = some (.int .i64 x) := by
        rw [cell_of_row wr s k _ _ _ (HR.out.2.blk HO.out.2.1 (by decide))]
        simp [hx]
      have hsz : B ≤ wr.heap.size := HR.out.2.size HO.out.2.2.2
      have hlen : (zs ++ joinB mark (ns.take k)).length ≤ 4294967296 + 22 * 64 := by
        rw [List.length_append]
        have h1 := joinB_len (mark := mark) (ns := ns.take k) (fun y hy => HO.out.2.2.1 y (List.mem_of_mem_take hy))
        have h2 : (ns.take k).length ≤ 64 := by rw [List.length_take]; have := HN.out; omega
        omega
      have HX : Hid (ns[k]? = some x ∧ I64 x) := ⟨hx, HO.out.2.2.1 x (List.mem_of_getElem? hx)⟩
      clear hx
      obtain ⟨L, hL⟩ : ∃ L, (zs ++ joinB mark (ns.take k)).length = L := ⟨_, rfl⟩
      have HL : Hid ((zs ++ joinB mark (ns.take k)).length = L) := hL
      rw [hL] at hlen
      clear hL
      have hkI : (k : Int) < (n : Int) := by omega
      by_cases hk0 : 0 < k
      · have hkz : (0 : Int) < (k : Int) := by omega
        go_wp2_with (at_builtin; refine wpList_out_b (by rfl) (.tmp 18) (.tmp 20) (by rfl) (B := B) (zs := zs ++ joinB mark (ns.take k)) (by rfl) (by exact HR.out.1.alloc _) (oa := some ⟨wr.heap.size, 0, none⟩) (m := 1) (c := 1) (ys := [mark]) (by rfl) (by exact one_byte wr mark hmk _) (by decide) (by rw [HL.out]; omega) (by simp; omega) ?_; intro v1 w1 H1)
        have E1 : Hid (Ex B w w1) := (HR.out.2.alloc hsz _).trans H1.out.2
        go_wp2_with fail
        refine (l7Dec_any x HX.out.2 w1).mono ?_
        rintro e w2 ⟨g2, c2, rfl, hS2, hG2⟩
        obtain ⟨D, hD⟩ : ∃ D, (decI x).length = D := ⟨_, rfl⟩
        have hDb : D ≤ 21 ∧ 0 < D := by rw [← hD]; exact ⟨decI_len HX.out.2, decI_pos x⟩
        have H2 : Hid (SlB w2 (some ⟨g2, 0, none⟩) D (decI x) ∧ Ex B w w2 ∧ Out B w2 v1 (zs ++ joinB mark (ns.take k) ++ [mark]) ∧ (zs ++ joinB mark (ns.take k) ++ [mark]).length = L + 1) := ⟨by rw [← hD]; exact hS2, E1.out.grown hG2 (E1.out.size HO.out.2.2.2), H1.out.1.grown hG2, by rw [List.length_append, HL.out]; rfl⟩
        rw [hD]
        clear hS2 hG2 H1 hD
        go_wp2_with (at_builtin; refine wpList_out_b (by rfl) (.tmp 22) (.tmp 24) (by rfl) (B := B) (zs := zs ++ joinB mark (ns.take k) ++ [mark]) (by rfl) (by exact H2.out.2.2.1) (oa := some ⟨g2, 0, none⟩) (m := D) (c := c2) (ys := decI x) (by rfl) (by exact H2.out.1) (by omega) (by rw [H2.out.2.2.2]; omega) (by exact H2.out.2.1.size HO.out.2.2.2) ?_; intro v3 w3 H3)
        have H4 : Hid (Out B w3 v3 (zs ++ joinB mark (ns.take (k + 1))) ∧ Ex B w w3) := by
          refine ⟨?_, H2.out.2.1.trans H3.out.2⟩
          rw [joinB_snoc mark ns k x HX.out.1 hk0]
          simpa using H3.out.1
        clear H3
        go_wp2
        go_roundw
        case rel => exact ⟨k + 1, by omega, by go_num, H4.out.1, H4.out.2⟩
        case measure => simp [intOf]; omega
      · obtain rfl : k = 0 := by omega
        go_wp2_with fail
        refine (l7Dec_any x HX.out.2 wr).mono ?_
        rintro e w2 ⟨g2, c2, rfl, hS2, hG2⟩
        obtain ⟨D, hD⟩ : ∃ D, (decI x).length = D := ⟨_, rfl⟩
        have hDb : D ≤ 21 ∧ 0 < D := by rw [← hD]; exact ⟨decI_len HX.out.2, decI_pos x⟩
        have H2 : Hid (SlB w2 (some ⟨g2, 0, none⟩) D (decI x) ∧ Ex B w w2 ∧ Out B w2 u0 (zs ++ joinB mark (ns.take 0)) ∧ (zs ++ joinB mark (ns.take 0)).length = L) := ⟨by rw [← hD]; exact hS2, HR.out.2.grown hG2 hsz, HR.out.1.grown hG2, HL.out⟩
        rw [hD]
        clear hS2 hG2 hD
        go_wp2_with (at_builtin; refine wpList_out_b (by rfl) (.tmp 22) (.tmp 24) (by rfl) (B := B) (zs := zs ++ joinB mark (ns.take 0)) (by rfl) (by exact H2.out.2.2.1) (oa := some ⟨g2, 0, none⟩) (m := D) (c := c2) (ys := decI x) (by rfl) (by exact H2.out.1) (by omega) (by rw [H2.out.2.2.2]; omega) (by exact H2.out.2.1.size HO.out.2.2.2) ?_; intro v3 w3 H3)
        have H4 : Hid (Out B w3 v3 (zs ++ joinB mark (ns.take 1)) ∧ Ex B w w3) := by
          refine ⟨?_, H2.out.2.1.trans H3.out.2⟩
          rw [joinB_snoc0 mark ns x HX.out.1]
          simpa [joinB, numB] using H3.out.1
        clear H3
        go_wp2
        go_roundw
        case rel => exact ⟨1, by omega, by go_num, H4.out.1, H4.out.2⟩
        case measure => simp [intOf]; omega
    · obtain rfl : k = n := by omega
      go_wp2
      go_ret
      refine ⟨_, rfl, ?_, HR.out.2⟩
      have h1 := HR.out.1
      rw [← HN.out, List.take_length] at h1
      exact h1
end Go.Proofs.YtkjjglnbbahbkaaDoor
