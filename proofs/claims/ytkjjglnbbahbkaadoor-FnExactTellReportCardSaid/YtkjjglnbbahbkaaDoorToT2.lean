/-
  The laws' to.. over the types of a report, walked: what comes is new, and tells the same.
-/
import Derived.Test.YtkjjglnbbahbkaaDoorShapes
import Derived.Test.YtkjjglnbbahbkaaDoorMadeT
import Derived.Test.YtkjjglnbbahbkaaDoorToT
import Derived.Deep.DeepCutAuto
import Derived.Deep.CutRange
namespace Go.Proofs.YtkjjglnbbahbkaaDoor
open Go.RowKit

set_option maxRecDepth 8000 in
set_option maxHeartbeats 8000000 in
theorem toMessage_any (n0 : Int) (n1 : Int) (n2 : Int) (n3 : Int) (n4 : Int) (n5 : Int) (n6 : Int) (b7 : Bool) (L8 : List (List Tr)) (a8 : Option Addr) (p8 : Nat) (d9 : List Nat) (a9 : Option Addr) (p9 : Nat) (w : World) (h8 : RowOk w kEntry a8 L8) (s8 : totR L8 ≤ 1048576) (h9 : SlB w a9 d9.length d9) (s9 : d9.length ≤ 1048576) :
    Calls Tryd.prog 57 #[.agg #[.int .i64 n0, .int .i64 n1, .int .i64 n2, .int .i64 n3, .int .i64 n4, .int .i64 n5, .int .i64 n6, .bool b7, .slice a8 L8.length p8, .slice a9 d9.length p9]] w fun e w' => ∃ (L8' : List (List Tr)) (a8' : Option Addr) (p8' : Nat) (a9' : Option Addr) (p9' : Nat), e = .returned (.agg #[.int .i64 n0, .int .i64 n1, .int .i64 n2, .int .i64 n3, .int .i64 n4, .int .i64 n5, .int .i64 n6, .bool b7, .slice a8' L8'.length p8', .slice a9' d9.length p9']) ∧ (Made w' w.heap.size (.row kEntry.length a8' p8' L8') ∧ Fits (.row kEntry.length a8' p8' L8') (.row kEntry) ∧ tellR L8' = tellR L8) ∧ Made w' w.heap.size (.byt d9 a9' p9') ∧ w.grownBy w' none := by
  have C0 : Hid (∀ Y : World, w.grownBy Y none → Calls Tryd.prog 66 #[.slice a8 L8.length p8] Y fun e w' => ∃ (L8' : List (List Tr)) (a8' : Option Addr) (p8' : Nat), e = .returned (.slice a8' L8'.length p8') ∧ (Made w' Y.heap.size (.row kEntry.length a8' p8' L8') ∧ Fits (.row kEntry.length a8' p8' L8') (.row kEntry) ∧ tellR L8' = tellR L8) ∧ Y.grownBy w' none) := fun Y hY => toEntryS_any L8 a8 p8 Y (h8.grown0 hY) s8
  have C1 : Hid (∀ Y : World, w.grownBy Y none → Calls Tryd.prog 53 #[.slice a9 d9.length p9] Y fun e w' => ∃ (a9' : Option Addr) (p9' : Nat), e = .returned (.slice a9' d9.length p9') ∧ Made w' Y.heap.size (.byt d9 a9' p9') ∧ Y.grownBy w' none) := fun Y hY => toByteS_made d9 a9 p9 Y (h9.grown0 hY) s9
  clear h8 s8 h9 s9
  go_enter Tryd.func57, Tryd.ntmps57
  go_wp2_with fail
  refine (C0.out _ (grownBy_alloc (grownBy_alloc (World.grownBy_alloc _ _ _) _) _)).mono ?_
  rintro e w1 ⟨L8', a8', p8', rfl, m8, hG⟩
  have h3 := heap3 w (.cells #[.int .i64 n0, .int .i64 n1, .int .i64 n2, .int .i64 n3, .int .i64 n4, .int .i64 n5, .int .i64 n6, .bool b7, .slice a8 L8.length p8, .slice a9 d9.length p9] 107 (0, 0)) (.cells #[.int .i64 0, .int .i64 0, .int .i64 0, .int .i64 0, .int .i64 0, .int .i64 0, .int .i64 0, .bool false, .slice none 0 0, .slice none 0 0] 100 (0, 0)) (.cells #[.int .i64 n0, .int .i64 n1, .int .i64 n2, .int .i64 n3, .int .i64 n4, .int .i64 n5, .int .i64 n6, .bool b7, .slice none 0 0, .slice none 0 0] 100 (0, 0))
  have B1 : Hid (w1.heap[w.heap.size]? = some (.cells #[.int .i64 n0, .int .i64 n1, .int .i64 n2, .int .i64 n3, .int .i64 n4, .int .i64 n5, .int .i64 n6, .bool b7, .slice a8 L8.length p8, .slice a9 d9.length p9] 107 (0, 0)) ∧ w1.heap[w.heap.size + 1]? = some (.cells #[.int .i64 0, .int .i64 0, .int .i64 0, .int .i64 0, .int .i64 0, .int .i64 0, .int .i64 0, .bool false, .slice none 0 0, .slice none 0 0] 100 (0, 0)) ∧ w1.heap[w.heap.size + 1 + 1]? = some (.cells #[.int .i64 n0, .int .i64 n1, .int .i64 n2, .int .i64 n3, .int .i64 n4, .int .i64 n5, .int .i64 n6, .bool b7, .slice none 0 0, .slice none 0 0] 100 (0, 0))) := ⟨grown_blk hG h3.1, grown_blk hG h3.2.1, grown_blk hG h3.2.2⟩
  have G1 : Hid (w.grownBy w1 none ∧ w.heap.size + 1 + 1 + 1 ≤ w1.heap.size) := ⟨grownBy_trans (grownBy_alloc (grownBy_alloc (World.grownBy_alloc _ _ _) _) _) hG, by have := hG.size; simpa using this⟩
  have M8 : Hid ((Made w1 (w.heap.size + 1 + 1 + 1) (.row kEntry.length a8' p8' L8') ∧ Fits (.row kEntry.length a8' p8' L8') (.row kEntry) ∧ tellR L8' = tellR L8)) := ⟨m8.1.low (by simp), m8.2⟩
  clear hG h3 m8
  have hC : w1.cell? ⟨w.heap.size + 1 + 1, 8, none⟩ = some (.slice none 0 0) ∧ w1.frozen? ⟨w.heap.size + 1 + 1, 8, none⟩ = false ∧ w1.cell? ⟨w.heap.size, 9, none⟩ = some (.slice a9 d9.length p9) := by
    obtain ⟨x0, -, x2⟩ := B1.out
    simp [World.cell?, World.frozen?, x0, x2]
  go_wp2_with fail
  refine (C1.out _ (grownBy_setNew G1.out.1 (Nat.le_trans (Nat.le_succ _) (Nat.le_succ _)))).mono ?_
  rintro e w2 ⟨a9', p9', rfl, m9, hG⟩
  have B2 : Hid (w2.heap[w.heap.size]? = some (.cells #[.int .i64 n0, .int .i64 n1, .int .i64 n2, .int .i64 n3, .int .i64 n4, .int .i64 n5, .int .i64 n6, .bool b7, .slice a8 L8.length p8, .slice a9 d9.length p9] 107 (0, 0)) ∧ w2.heap[w.heap.size + 1]? = some (.cells #[.int .i64 0, .int .i64 0, .int .i64 0, .int .i64 0, .int .i64 0, .int .i64 0, .int .i64 0, .bool false, .slice none 0 0, .slice none 0 0] 100 (0, 0)) ∧ w2.heap[w.heap.size + 1 + 1]? = some (.cells #[.int .i64 n0, .int .i64 n1, .int .i64 n2, .int .i64 n3, .int .i64 n4, .int .i64 n5, .int .i64 n6, .bool b7, .slice a8' L8'.length p8', .slice none 0 0] 100 (0, 0))) := ⟨grown_blk hG (set_oth 8 _ (by omega) B1.out.1), grown_blk hG (set_oth 8 _ (by omega) B1.out.2.1), grown_blk hG (set_blkL 8 _ B1.out.2.2)⟩
  have G2 : Hid (w.grownBy w2 none ∧ w.heap.size + 1 + 1 + 1 ≤ w2.heap.size) := ⟨grownBy_trans (grownBy_setNew G1.out.1 (Nat.le_trans (Nat.le_succ _) (Nat.le_succ _))) hG, by have h1 := hG.size; have h2 := G1.out.2; simp at h1; omega⟩
  have M8 : Hid ((Made w2 (w.heap.size + 1 + 1 + 1) (.row kEntry.length a8' p8' L8') ∧ Fits (.row kEntry.length a8' p8' L8') (.row kEntry) ∧ tellR L8' = tellR L8)) := ⟨((M8.out.1).set1 (by omega)).grown0 hG, M8.out.2⟩
  have M9 : Hid (Made w2 (w.heap.size + 1 + 1 + 1) (.byt d9 a9' p9')) := m9.low (by have h2 := G1.out.2; simp; omega)
  clear hG hC m9
  have hC : w2.cell? ⟨w.heap.size + 1 + 1, 9, none⟩ = some (.slice none 0 0) ∧ w2.frozen? ⟨w.heap.size + 1 + 1, 9, none⟩ = false := by
    obtain ⟨-, -, x2⟩ := B2.out
    simp [World.cell?, World.frozen?, x2]
  go_upto_region 12 with fail
  generalize hW : (w2).setCell ⟨w.heap.size + 1 + 1, 9, none⟩ (.slice a9' d9.length p9') = W
  have BF : Hid (W.heap[w.heap.size + 1]? = some (.cells #[.int .i64 0, .int .i64 0, .int .i64 0, .int .i64 0, .int .i64 0, .int .i64 0, .int .i64 0, .bool false, .slice none 0 0, .slice none 0 0] 100 (0, 0)) ∧ W.heap[w.heap.size + 1 + 1]? = some (.cells #[.int .i64 n0, .int .i64 n1, .int .i64 n2, .int .i64 n3, .int .i64 n4, .int .i64 n5, .int .i64 n6, .bool b7, .slice a8' L8'.length p8', .slice a9' d9.length p9'] 100 (0, 0)) ∧ w.grownBy W none ∧ (Made W (w.heap.size + 1 + 1 + 1) (.row kEntry.length a8' p8' L8') ∧ Fits (.row kEntry.length a8' p8' L8') (.row kEntry) ∧ tellR L8' = tellR L8) ∧ Made W (w.heap.size + 1 + 1 + 1) (.byt d9 a9' p9')) := by
    subst hW
    exact ⟨(set_oth 9 _ (by omega) B2.out.2.1), (set_blkL 9 _ B2.out.2.2), (grownBy_setNew G2.out.1 (Nat.le_trans (Nat.le_succ _) (Nat.le_succ _))), ⟨(M8.out.1).set1 (by omega), M8.out.2⟩, (M9.out).set1 (by omega)⟩
  clear hW hC
  as_aux_lemma =>
    have hR : W.rangeAt (w.heap.size + 1 + 1) 0 [.int .i64 n0, .int .i64 n1, .int .i64 n2, .int .i64 n3, .int .i64 n4, .int .i64 n5, .int .i64 n6, .bool b7, .slice a8' L8'.length p8', .slice a9' d9.length p9'] := by
      have h9 := World.rangeAt_of_block BF.out.2.1 0 10
      exact h9
    have hT : W.there (w.heap.size + 1) 0 10 := (there_of_block BF.out.1 (by simp)).1
    go_wp2_with (refine wpList_load_mid (by rfl) 100 (.tmp 3) (by rfl) (w.heap.size + 1 + 1) 0 (by rfl) [.int .i64 n0, .int .i64 n1, .int .i64 n2, .int .i64 n3, .int .i64 n4, .int .i64 n5, .int .i64 n6, .bool b7, .slice a8' L8'.length p8', .slice a9' d9.length p9'] _ hR Tryd.underlying100 rfl (by kernel_rfl) ?_; simp only [Act.put, List.setIfInBounds_toArray, List.set_cons_zero, List.set_cons_succ]; refine wpList_store_mid (by rfl) _ _ _ (by rfl) _ _ _ (by rfl) (by rfl) ?sa ?sb ?sc ?sd; exact hT; show _ = some 10; kernel_rfl; exact all_oneCell_toArray (List.all_eq_true.1 rfl); simp only [Act.put])
    have hld : (loadVar 100 ⟨w.heap.size + 1, 0, none⟩).run Tryd.prog (W.setCells (w.heap.size + 1) 0 [.int .i64 n0, .int .i64 n1, .int .i64 n2, .int .i64 n3, .int .i64 n4, .int .i64 n5, .int .i64 n6, .bool b7, .slice a8' L8'.length p8', .slice a9' d9.length p9']) = .ok (.agg #[.int .i64 n0, .int .i64 n1, .int .i64 n2, .int .i64 n3, .int .i64 n4, .int .i64 n5, .int .i64 n6, .bool b7, .slice a8' L8'.length p8', .slice a9' d9.length p9']) (W.setCells (w.heap.size + 1) 0 [.int .i64 n0, .int .i64 n1, .int .i64 n2, .int .i64 n3, .int .i64 n4, .int .i64 n5, .int .i64 n6, .bool b7, .slice a8' L8'.length p8', .slice a9' d9.length p9']) := run_loadVar_mid _ (w.heap.size + 1) 0 100 [.int .i64 n0, .int .i64 n1, .int .i64 n2, .int .i64 n3, .int .i64 n4, .int .i64 n5, .int .i64 n6, .bool b7, .slice a8' L8'.length p8', .slice a9' d9.length p9'] _ (World.rangeAt_setCells_same _ _ _ _ hT) Tryd.underlying100 rfl (by kernel_rfl)
    refine bodyPost_ret (v := .agg #[.int .i64 n0, .int .i64 n1, .int .i64 n2, .int .i64 n3, .int .i64 n4, .int .i64 n5, .int .i64 n6, .bool b7, .slice a8' L8'.length p8', .slice a9' d9.length p9']) ?_ rfl ⟨_, _, _, _, _, rfl, ⟨((BF.out.2.2.2.1.1).setCells (by omega)).low (by omega), BF.out.2.2.2.1.2⟩, ((BF.out.2.2.2.2).setCells (by omega)).low (by omega), (grownBy_setCellsN (Nat.le_succ _) _ _ _ BF.out.2.2.1)⟩
    exact results_ret rfl rfl hld
theorem Tryd.infoMessage : (Tryd.prog.info? 100).map (fun i => (i.zero, i.size, i.bytes)) = some (some (.agg #[.int .i64 0, .int .i64 0, .int .i64 0, .int .i64 0, .int .i64 0, .int .i64 0, .int .i64 0, .bool false, .slice none 0 0, .slice none 0 0]), 10, 112) := by kernel_rfl
set_option maxRecDepth 8000 in
set_option maxHeartbeats 8000000 in
theorem toMessageS_any (L : List (List Tr)) (a : Option Addr) (p : Nat) (w : World) (h : RowOk w kMessage a L) (s : totR L ≤ 1048576) :
    Calls Tryd.prog 39 #[.slice a L.length p] w fun e w' => ∃ (L' : List (List Tr)) (a' : Option Addr) (p' : Nat), e = .returned (.slice a' L'.length p') ∧ (Made w' w.heap.size (.row kMessage.length a' p' L') ∧ Fits (.row kMessage.length a' p' L') (.row kMessage) ∧ tellR L' = tellR L) ∧ w.grownBy w' none := by
  have hn : L.length ≤ 1048576 := Nat.le_trans (totR_len L) s
  have HR : Hid (RowOk w kMessage a L ∧ totR L ≤ 1048576) := ⟨h, s⟩
  clear h s
  obtain ⟨n, hnn⟩ : ∃ n, L.length = n := ⟨_, rfl⟩
  have HN : Hid (L.length = n) := hnn
  rw [hnn] at hn ⊢
  clear hnn
  obtain ⟨i0, hi, hz0, hz1, hz2⟩ := info_parts Tryd.infoMessage
  go_enter Tryd.func39, Tryd.ntmps39
  go_wp2_with (at_make; refine wpList_make_full _ rfl (.tmp 6) (.tmp 6) 46 rfl w.heap.size 100 i0 (.agg #[.int .i64 0, .int .i64 0, .int .i64 0, .int .i64 0, .int .i64 0, .int .i64 0, .int .i64 0, .bool false, .slice none 0 0, .slice none 0 0]) 10 Tryd.underlying46 hi hz0 hz1 .i64 .i64 n n n rfl rfl rfl rfl ?cb ?cm (Nat.le_refl _) ?_)
  case cb => rw [hz2]; omega
  case cm => unfold maxLen; omega
  intro w1 hown hgrow
  have HO : Hid (Fill w w1 w.heap.size n 10 L [] kMessage) := by
    rcases hown.2 with ⟨h0, _⟩ | ⟨g, cap', cur, h0, hb, hg, hc, hm, hs, htake⟩
    · simp at h0
    · simp only [Value.slice.injEq, Option.some.injEq, Addr.mk.injEq, and_true] at h0
      obtain ⟨rfl, -, rfl⟩ := h0
      obtain ⟨ht, hf⟩ := there_of_block (n := n * 10) hg (by rw [hs]; exact Nat.le_refl _)
      exact ⟨(Array.getElem?_eq_some_iff.1 hg).1, ht, hf, by simp, by simp, by simp, by simp, hgrow⟩
  clear hown hgrow hi hz0 hz1 hz2 i0
  go_wp2
  go_loopw [4] (fun i wr => ∃ (k : Nat) (M : List (List Tr)), k ≤ n ∧ i = .int .i64 (k : Int) ∧ M.length = k ∧ Fill w wr w.heap.size n 10 L M kMessage) (fun i _ => n - (intOf i).toNat)
  case atStart => exact ⟨0, [], Nat.zero_le _, rfl, rfl, HO.out⟩
  case round =>
    obtain ⟨k, M, hk, rfl, hM, hF⟩ := hrel
    have HF : Hid (M.length = k ∧ Fill w wr w.heap.size n 10 L M kMessage) := ⟨hM, hF⟩
    clear hM hF HO
    by_cases hlt : k < n
    · obtain ⟨e, he⟩ : ∃ e, L[k]? = some e := ⟨_, List.getElem?_eq_getElem (by rw [HN.out]; exact hlt)⟩
      obtain ⟨hf, hrd, b, off, hab, hc⟩ := HR.out.1.grown0 HF.out.2.grown k e he
      have htot := HR.out.2
      obtain ⟨n0, n1, n2, n3, n4, n5, n6, b7, L8, a8, p8, d9, a9, p9, rfl⟩ := fitMessage hf
      subst hab
      have c0 : wr.cell? ⟨b, off + k * 10, none⟩ = some (.int .i64 n0) := hc 0 _ rfl
      have c1 : wr.cell? ⟨b, off + k * 10 + 1, none⟩ = some (.int .i64 n1) := hc 1 _ rfl
      have c2 : wr.cell? ⟨b, off + k * 10 + 2, none⟩ = some (.int .i64 n2) := hc 2 _ rfl
      have c3 : wr.cell? ⟨b, off + k * 10 + 3, none⟩ = some (.int .i64 n3) := hc 3 _ rfl
      have c4 : wr.cell? ⟨b, off + k * 10 + 4, none⟩ = some (.int .i64 n4) := hc 4 _ rfl
      have c5 : wr.cell? ⟨b, off + k * 10 + 5, none⟩ = some (.int .i64 n5) := hc 5 _ rfl
      have c6 : wr.cell? ⟨b, off + k * 10 + 6, none⟩ = some (.int .i64 n6) := hc 6 _ rfl
      have c7 : wr.cell? ⟨b, off + k * 10 + 7, none⟩ = some (.bool b7) := hc 7 _ rfl
      have c8 : wr.cell? ⟨b, off + k * 10 + 8, none⟩ = some (.slice a8 L8.length p8) := hc 8 _ rfl
      have c9 : wr.cell? ⟨b, off + k * 10 + 9, none⟩ = some (.slice a9 d9.length p9) := hc 9 _ rfl
      have HK : Hid (∀ X : World, wr.grownBy X none → Calls Tryd.prog 57 #[.agg #[.int .i64 n0, .int .i64 n1, .int .i64 n2, .int .i64 n3, .int .i64 n4, .int .i64 n5, .int .i64 n6, .bool b7, .slice a8 L8.length p8, .slice a9 d9.length p9]] X fun e w' => ∃ (L8' : List (List Tr)) (a8' : Option Addr) (p8' : Nat) (a9' : Option Addr) (p9' : Nat), e = .returned (.agg #[.int .i64 n0, .int .i64 n1, .int .i64 n2, .int .i64 n3, .int .i64 n4, .int .i64 n5, .int .i64 n6, .bool b7, .slice a8' L8'.length p8', .slice a9' d9.length p9']) ∧ (Made w' X.heap.size (.row kEntry.length a8' p8' L8') ∧ Fits (.row kEntry.length a8' p8' L8') (.row kEntry) ∧ tellR L8' = tellR L8) ∧ Made w' X.heap.size (.byt d9 a9' p9') ∧ X.grownBy w' none) := fun X hs => toMessage_any n0 n1 n2 n3 n4 n5 n6 b7 L8 a8 p8 d9 a9 p9 X (((hrd (.row kEntry.length a8 p8 L8) (by simp)).rowOk ((hf.2 8 _ _ rfl rfl)) (by decide)).grown0 hs) (by have h1 := tot_sub (y := .row kEntry.length a8 p8 L8) (j := 8) he rfl; rw [tot_row] at h1; omega) ((hrd (.byt d9 a9 p9) (by simp)).isByt.grown0 hs) (by have h1 := tot_sub (y := .byt d9 a9 p9) (j := 9) he rfl; rw [tot_byt] at h1; omega)
      have R0 : Hid (I64 n0) := (hrd (.int n0) (by simp)).isInt
      have R1 : Hid (I64 n1) := (hrd (.int n1) (by simp)).isInt
      have R2 : Hid (I64 n2) := (hrd (.int n2) (by simp)).isInt
      have R3 : Hid (I64 n3) := (hrd (.int n3) (by simp)).isInt
      have R4 : Hid (I64 n4) := (hrd (.int n4) (by simp)).isInt
      have R5 : Hid (I64 n5) := (hrd (.int n5) (by simp)).isInt
      have R6 : Hid (I64 n6) := (hrd (.int n6) (by simp)).isInt
      have HE : Hid (L[k]? = some [.int n0, .int n1, .int n2, .int n3, .int n4, .int n5, .int n6, .bool b7, .row kEntry.length a8 p8 L8, .byt d9 a9 p9]) := he
      clear hc hrd hf he htot
      have hkI : (k : Int) < (n : Int) := by omega
      go_wp2_with fail
      refine (HK.out _ (grownBy_refl _ _)).mono ?_
      rintro e w2 ⟨L8', a8', p8', a9', p9', rfl, m8, m9, hG2⟩
      have HS : Hid (Fill w (w2.setCells w.heap.size (k * 10) [.int .i64 n0, .int .i64 n1, .int .i64 n2, .int .i64 n3, .int .i64 n4, .int .i64 n5, .int .i64 n6, .bool b7, .slice a8' L8'.length p8', .slice a9' d9.length p9']) w.heap.size n 10 L (M ++ [[.int n0, .int n1, .int n2, .int n3, .int n4, .int n5, .int n6, .bool b7, .row kEntry.length a8' p8' L8', .byt d9 a9' p9']]) kMessage) := by
        obtain ⟨rfl, hF⟩ := HF.out
        refine hF.step (e' := [.int n0, .int n1, .int n2, .int n3, .int n4, .int n5, .int n6, .bool b7, .row kEntry.length a8' p8' L8', .byt d9 a9' p9']) (Nat.le_refl _) rfl hG2 HE.out hlt ?_ ?_ ?_
        · exact ⟨rfl, fits_Message m8.2.1⟩
        · intro y hy
          simp only [List.mem_cons, List.not_mem_nil, or_false] at hy
          rcases hy with rfl | rfl | rfl | rfl | rfl | rfl | rfl | rfl | rfl | rfl
          · exact .int R0.out
          · exact .int R1.out
          · exact .int R2.out
          · exact .int R3.out
          · exact .int R4.out
          · exact .int R5.out
          · exact .int R6.out
          · exact .bool _
          · exact m8.1.low (by have := hF.lt; omega)
          · exact m9.low (by have := hF.lt; omega)
        · simp only [List.map_cons, List.map_nil]
          rw [show (List.map (fun e => List.map Tr.tell e) L8') = List.map (fun e => List.map Tr.tell e) L8 from m8.2.2]
      have hth : w2.there w.heap.size (k * 10) 10 := by
        obtain ⟨rfl, hF⟩ := HF.out
        refine there_sub (n := n * 10) (fun j hj => ?_) (by have h9 := Nat.mul_le_mul_right 10 (show M.length + 1 ≤ n by omega); rw [Nat.succ_mul] at h9; exact h9)
        obtain ⟨h1, h2⟩ := hF.there j hj
        exact ⟨by rw [(bcell hG2).1 _ _ hF.lt]; exact h1, by rw [(bcell hG2).2 _ _ hF.lt]; exact h2⟩
      obtain ⟨u0, q0⟩ : ∃ u, w2.cell? ⟨w.heap.size, k * 10, none⟩ = some u := Option.isSome_iff_exists.1 (hth 0 (by omega)).1
      have f0 : w2.frozen? ⟨w.heap.size, k * 10, none⟩ = false := (hth 0 (by omega)).2
      obtain ⟨u1, q1⟩ : ∃ u, w2.cell? ⟨w.heap.size, k * 10 + 1, none⟩ = some u := Option.isSome_iff_exists.1 (hth 1 (by omega)).1
      have f1 : w2.frozen? ⟨w.heap.size, k * 10 + 1, none⟩ = false := (hth 1 (by omega)).2
      obtain ⟨u2, q2⟩ : ∃ u, w2.cell? ⟨w.heap.size, k * 10 + 2, none⟩ = some u := Option.isSome_iff_exists.1 (hth 2 (by omega)).1
      have f2 : w2.frozen? ⟨w.heap.size, k * 10 + 2, none⟩ = false := (hth 2 (by omega)).2
      obtain ⟨u3, q3⟩ : ∃ u, w2.cell? ⟨w.heap.size, k * 10 + 3, none⟩ = some u := Option.isSome_iff_exists.1 (hth 3 (by omega)).1
      have f3 : w2.frozen? ⟨w.heap.size, k * 10 + 3, none⟩ = false := (hth 3 (by omega)).2
      obtain ⟨u4, q4⟩ : ∃ u, w2.cell? ⟨w.heap.size, k * 10 + 4, none⟩ = some u := Option.isSome_iff_exists.1 (hth 4 (by omega)).1
      have f4 : w2.frozen? ⟨w.heap.size, k * 10 + 4, none⟩ = false := (hth 4 (by omega)).2
      obtain ⟨u5, q5⟩ : ∃ u, w2.cell? ⟨w.heap.size, k * 10 + 5, none⟩ = some u := Option.isSome_iff_exists.1 (hth 5 (by omega)).1
      have f5 : w2.frozen? ⟨w.heap.size, k * 10 + 5, none⟩ = false := (hth 5 (by omega)).2
      obtain ⟨u6, q6⟩ : ∃ u, w2.cell? ⟨w.heap.size, k * 10 + 6, none⟩ = some u := Option.isSome_iff_exists.1 (hth 6 (by omega)).1
      have f6 : w2.frozen? ⟨w.heap.size, k * 10 + 6, none⟩ = false := (hth 6 (by omega)).2
      obtain ⟨u7, q7⟩ : ∃ u, w2.cell? ⟨w.heap.size, k * 10 + 7, none⟩ = some u := Option.isSome_iff_exists.1 (hth 7 (by omega)).1
      have f7 : w2.frozen? ⟨w.heap.size, k * 10 + 7, none⟩ = false := (hth 7 (by omega)).2
      obtain ⟨u8, q8⟩ : ∃ u, w2.cell? ⟨w.heap.size, k * 10 + 8, none⟩ = some u := Option.isSome_iff_exists.1 (hth 8 (by omega)).1
      have f8 : w2.frozen? ⟨w.heap.size, k * 10 + 8, none⟩ = false := (hth 8 (by omega)).2
      obtain ⟨u9, q9⟩ : ∃ u, w2.cell? ⟨w.heap.size, k * 10 + 9, none⟩ = some u := Option.isSome_iff_exists.1 (hth 9 (by omega)).1
      have f9 : w2.frozen? ⟨w.heap.size, k * 10 + 9, none⟩ = false := (hth 9 (by omega)).2
      clear hth hG2 m8 m9
      go_wp2
      go_roundw
      case rel => exact ⟨k + 1, M ++ [([.int n0, .int n1, .int n2, .int n3, .int n4, .int n5, .int n6, .bool b7, .row kEntry.length a8' p8' L8', .byt d9 a9' p9'] : List Tr)], by omega, by go_num, by rw [List.length_append, HF.out.1]; rfl, by exact HS.out⟩
      case measure => simp [intOf]; omega
    · obtain rfl : k = n := by omega
      go_wp2
      go_ret
      have hA := HF.out.2.all (cp := k) rfl HF.out.1 HN.out hn
      refine ⟨M, some ⟨w.heap.size, 0, none⟩, k, by rw [HF.out.1]; rfl, hA, HF.out.2.grown⟩
set_option maxRecDepth 8000 in
set_option maxHeartbeats 8000000 in
theorem toService_any (n0 : Int) (L1 : List (List Tr)) (a1 : Option Addr) (p1 : Nat) (L2 : List (List Tr)) (a2 : Option Addr) (p2 : Nat) (w : World) (h1 : RowOk w kItem a1 L1) (s1 : totR L1 ≤ 1048576) (h2 : RowOk w kSession a2 L2) (s2 : totR L2 ≤ 1048576) :
    Calls Tryd.prog 37 #[.agg #[.int .i64 n0, .slice a1 L1.length p1, .slice a2 L2.length p2]] w fun e w' => ∃ (L1' : List (List Tr)) (a1' : Option Addr) (p1' : Nat) (L2' : List (List Tr)) (a2' : Option Addr) (p2' : Nat), e = .returned (.agg #[.int .i64 n0, .slice a1' L1'.length p1', .slice a2' L2'.length p2']) ∧ (Made w' w.heap.size (.row kItem.length a1' p1' L1') ∧ Fits (.row kItem.length a1' p1' L1') (.row kItem) ∧ tellR L1' = tellR L1) ∧ (Made w' w.heap.size (.row kSession.length a2' p2' L2') ∧ Fits (.row kSession.length a2' p2' L2') (.row kSession) ∧ tellR L2' = tellR L2) ∧ w.grownBy w' none := by
  have C0 : Hid (∀ Y : World, w.grownBy Y none → Calls Tryd.prog 54 #[.slice a1 L1.length p1] Y fun e w' => ∃ (L1' : List (List Tr)) (a1' : Option Addr) (p1' : Nat), e = .returned (.slice a1' L1'.length p1') ∧ (Made w' Y.heap.size (.row kItem.length a1' p1' L1') ∧ Fits (.row kItem.length a1' p1' L1') (.row kItem) ∧ tellR L1' = tellR L1) ∧ Y.grownBy w' none) := fun Y hY => toItemS_any L1 a1 p1 Y (h1.grown0 hY) s1
  have C1 : Hid (∀ Y : World, w.grownBy Y none → Calls Tryd.prog 55 #[.slice a2 L2.length p2] Y fun e w' => ∃ (L2' : List (List Tr)) (a2' : Option Addr) (p2' : Nat), e = .returned (.slice a2' L2'.length p2') ∧ (Made w' Y.heap.size (.row kSession.length a2' p2' L2') ∧ Fits (.row kSession.length a2' p2' L2') (.row kSession) ∧ tellR L2' = tellR L2) ∧ Y.grownBy w' none) := fun Y hY => toSessionS_any L2 a2 p2 Y (h2.grown0 hY) s2
  clear h1 s1 h2 s2
  go_enter Tryd.func37, Tryd.ntmps37
  go_wp2_with fail
  refine (C0.out _ (grownBy_alloc (grownBy_alloc (World.grownBy_alloc _ _ _) _) _)).mono ?_
  rintro e w1 ⟨L1', a1', p1', rfl, m1, hG⟩
  have h3 := heap3 w (.cells #[.int .i64 n0, .slice a1 L1.length p1, .slice a2 L2.length p2] 64 (0, 0)) (.cells #[.int .i64 0, .slice none 0 0, .slice none 0 0] 44 (0, 0)) (.cells #[.int .i64 n0, .slice none 0 0, .slice none 0 0] 44 (0, 0))
  have B1 : Hid (w1.heap[w.heap.size]? = some (.cells #[.int .i64 n0, .slice a1 L1.length p1, .slice a2 L2.length p2] 64 (0, 0)) ∧ w1.heap[w.heap.size + 1]? = some (.cells #[.int .i64 0, .slice none 0 0, .slice none 0 0] 44 (0, 0)) ∧ w1.heap[w.heap.size + 1 + 1]? = some (.cells #[.int .i64 n0, .slice none 0 0, .slice none 0 0] 44 (0, 0))) := ⟨grown_blk hG h3.1, grown_blk hG h3.2.1, grown_blk hG h3.2.2⟩
  have G1 : Hid (w.grownBy w1 none ∧ w.heap.size + 1 + 1 + 1 ≤ w1.heap.size) := ⟨grownBy_trans (grownBy_alloc (grownBy_alloc (World.grownBy_alloc _ _ _) _) _) hG, by have := hG.size; simpa using this⟩
  have M1 : Hid ((Made w1 (w.heap.size + 1 + 1 + 1) (.row kItem.length a1' p1' L1') ∧ Fits (.row kItem.length a1' p1' L1') (.row kItem) ∧ tellR L1' = tellR L1)) := ⟨m1.1.low (by simp), m1.2⟩
  clear hG h3 m1
  have hC : w1.cell? ⟨w.heap.size + 1 + 1, 1, none⟩ = some (.slice none 0 0) ∧ w1.frozen? ⟨w.heap.size + 1 + 1, 1, none⟩ = false ∧ w1.cell? ⟨w.heap.size, 2, none⟩ = some (.slice a2 L2.length p2) := by
    obtain ⟨x0, -, x2⟩ := B1.out
    simp [World.cell?, World.frozen?, x0, x2]
  go_wp2_with fail
  refine (C1.out _ (grownBy_setNew G1.out.1 (Nat.le_trans (Nat.le_succ _) (Nat.le_succ _)))).mono ?_
  rintro e w2 ⟨L2', a2', p2', rfl, m2, hG⟩
  have B2 : Hid (w2.heap[w.heap.size]? = some (.cells #[.int .i64 n0, .slice a1 L1.length p1, .slice a2 L2.length p2] 64 (0, 0)) ∧ w2.heap[w.heap.size + 1]? = some (.cells #[.int .i64 0, .slice none 0 0, .slice none 0 0] 44 (0, 0)) ∧ w2.heap[w.heap.size + 1 + 1]? = some (.cells #[.int .i64 n0, .slice a1' L1'.length p1', .slice none 0 0] 44 (0, 0))) := ⟨grown_blk hG (set_oth 1 _ (by omega) B1.out.1), grown_blk hG (set_oth 1 _ (by omega) B1.out.2.1), grown_blk hG (set_blkL 1 _ B1.out.2.2)⟩
  have G2 : Hid (w.grownBy w2 none ∧ w.heap.size + 1 + 1 + 1 ≤ w2.heap.size) := ⟨grownBy_trans (grownBy_setNew G1.out.1 (Nat.le_trans (Nat.le_succ _) (Nat.le_succ _))) hG, by have h1 := hG.size; have h2 := G1.out.2; simp at h1; omega⟩
  have M1 : Hid ((Made w2 (w.heap.size + 1 + 1 + 1) (.row kItem.length a1' p1' L1') ∧ Fits (.row kItem.length a1' p1' L1') (.row kItem) ∧ tellR L1' = tellR L1)) := ⟨((M1.out.1).set1 (by omega)).grown0 hG, M1.out.2⟩
  have M2 : Hid ((Made w2 (w.heap.size + 1 + 1 + 1) (.row kSession.length a2' p2' L2') ∧ Fits (.row kSession.length a2' p2' L2') (.row kSession) ∧ tellR L2' = tellR L2)) := ⟨m2.1.low (by have h2 := G1.out.2; simp; omega), m2.2⟩
  clear hG hC m2
  have hC : w2.cell? ⟨w.heap.size + 1 + 1, 2, none⟩ = some (.slice none 0 0) ∧ w2.frozen? ⟨w.heap.size + 1 + 1, 2, none⟩ = false := by
    obtain ⟨-, -, x2⟩ := B2.out
    simp [World.cell?, World.frozen?, x2]
  go_upto_region 5 with fail
  generalize hW : (w2).setCell ⟨w.heap.size + 1 + 1, 2, none⟩ (.slice a2' L2'.length p2') = W
  have BF : Hid (W.heap[w.heap.size + 1]? = some (.cells #[.int .i64 0, .slice none 0 0, .slice none 0 0] 44 (0, 0)) ∧ W.heap[w.heap.size + 1 + 1]? = some (.cells #[.int .i64 n0, .slice a1' L1'.length p1', .slice a2' L2'.length p2'] 44 (0, 0)) ∧ w.grownBy W none ∧ (Made W (w.heap.size + 1 + 1 + 1) (.row kItem.length a1' p1' L1') ∧ Fits (.row kItem.length a1' p1' L1') (.row kItem) ∧ tellR L1' = tellR L1) ∧ (Made W (w.heap.size + 1 + 1 + 1) (.row kSession.length a2' p2' L2') ∧ Fits (.row kSession.length a2' p2' L2') (.row kSession) ∧ tellR L2' = tellR L2)) := by
    subst hW
    exact ⟨(set_oth 2 _ (by omega) B2.out.2.1), (set_blkL 2 _ B2.out.2.2), (grownBy_setNew G2.out.1 (Nat.le_trans (Nat.le_succ _) (Nat.le_succ _))), ⟨(M1.out.1).set1 (by omega), M1.out.2⟩, ⟨(M2.out.1).set1 (by omega), M2.out.2⟩⟩
  clear hW hC
  as_aux_lemma =>
    have hR : W.rangeAt (w.heap.size + 1 + 1) 0 [.int .i64 n0, .slice a1' L1'.length p1', .slice a2' L2'.length p2'] := by
      have h9 := World.rangeAt_of_block BF.out.2.1 0 3
      exact h9
    have hT : W.there (w.heap.size + 1) 0 3 := (there_of_block BF.out.1 (by simp)).1
    go_wp2_with (refine wpList_load_mid (by rfl) 44 (.tmp 3) (by rfl) (w.heap.size + 1 + 1) 0 (by rfl) [.int .i64 n0, .slice a1' L1'.length p1', .slice a2' L2'.length p2'] _ hR Tryd.underlying44 rfl (by kernel_rfl) ?_; simp only [Act.put, List.setIfInBounds_toArray, List.set_cons_zero, List.set_cons_succ]; refine wpList_store_mid (by rfl) _ _ _ (by rfl) _ _ _ (by rfl) (by rfl) ?sa ?sb ?sc ?sd; exact hT; show _ = some 3; kernel_rfl; exact all_oneCell_toArray (List.all_eq_true.1 rfl); simp only [Act.put])
    have hld : (loadVar 44 ⟨w.heap.size + 1, 0, none⟩).run Tryd.prog (W.setCells (w.heap.size + 1) 0 [.int .i64 n0, .slice a1' L1'.length p1', .slice a2' L2'.length p2']) = .ok (.agg #[.int .i64 n0, .slice a1' L1'.length p1', .slice a2' L2'.length p2']) (W.setCells (w.heap.size + 1) 0 [.int .i64 n0, .slice a1' L1'.length p1', .slice a2' L2'.length p2']) := run_loadVar_mid _ (w.heap.size + 1) 0 44 [.int .i64 n0, .slice a1' L1'.length p1', .slice a2' L2'.length p2'] _ (World.rangeAt_setCells_same _ _ _ _ hT) Tryd.underlying44 rfl (by kernel_rfl)
    refine bodyPost_ret (v := .agg #[.int .i64 n0, .slice a1' L1'.length p1', .slice a2' L2'.length p2']) ?_ rfl ⟨_, _, _, _, _, _, rfl, ⟨((BF.out.2.2.2.1.1).setCells (by omega)).low (by omega), BF.out.2.2.2.1.2⟩, ⟨((BF.out.2.2.2.2.1).setCells (by omega)).low (by omega), BF.out.2.2.2.2.2⟩, (grownBy_setCellsN (Nat.le_succ _) _ _ _ BF.out.2.2.1)⟩
    exact results_ret rfl rfl hld
set_option maxRecDepth 8000 in
set_option maxHeartbeats 8000000 in
theorem toView_any (n0 : Int) (n1 : Int) (n2 : Int) (n3 : Int) (n4 : Int) (n5 : Int) (n6 : Int) (n7 : Int) (w : World)  :
    Calls Tryd.prog 40 #[.agg #[.int .i64 n0, .int .i64 n1, .int .i64 n2, .int .i64 n3, .int .i64 n4, .int .i64 n5, .int .i64 n6, .int .i64 n7]] w fun e w' => e = .returned (.agg #[.int .i64 n0, .int .i64 n1, .int .i64 n2, .int .i64 n3, .int .i64 n4, .int .i64 n5, .int .i64 n6, .int .i64 n7]) ∧ w.grownBy w' none := by
  go_enter Tryd.func40, Tryd.ntmps40
  go_upto_region 10 with fail
  generalize hW : ((w.alloc (.cells #[.int .i64 n0, .int .i64 n1, .int .i64 n2, .int .i64 n3, .int .i64 n4, .int .i64 n5, .int .i64 n6, .int .i64 n7] 67)).alloc (.cells #[.int .i64 0, .int .i64 0, .int .i64 0, .int .i64 0, .int .i64 0, .int .i64 0, .int .i64 0, .int .i64 0] 48)).alloc (.cells #[.int .i64 n0, .int .i64 n1, .int .i64 n2, .int .i64 n3, .int .i64 n4, .int .i64 n5, .int .i64 n6, .int .i64 n7] 48) = W
  have BF : Hid (W.heap[w.heap.size + 1]? = some (.cells #[.int .i64 0, .int .i64 0, .int .i64 0, .int .i64 0, .int .i64 0, .int .i64 0, .int .i64 0, .int .i64 0] 48 (0, 0)) ∧ W.heap[w.heap.size + 1 + 1]? = some (.cells #[.int .i64 n0, .int .i64 n1, .int .i64 n2, .int .i64 n3, .int .i64 n4, .int .i64 n5, .int .i64 n6, .int .i64 n7] 48 (0, 0)) ∧ w.grownBy W none) := by
    subst hW
    have h3 := heap3 w (.cells #[.int .i64 n0, .int .i64 n1, .int .i64 n2, .int .i64 n3, .int .i64 n4, .int .i64 n5, .int .i64 n6, .int .i64 n7] 67 (0, 0)) (.cells #[.int .i64 0, .int .i64 0, .int .i64 0, .int .i64 0, .int .i64 0, .int .i64 0, .int .i64 0, .int .i64 0] 48 (0, 0)) (.cells #[.int .i64 n0, .int .i64 n1, .int .i64 n2, .int .i64 n3, .int .i64 n4, .int .i64 n5, .int .i64 n6, .int .i64 n7] 48 (0, 0))
    exact ⟨h3.2.1, h3.2.2, grownBy_alloc (grownBy_alloc (World.grownBy_alloc _ _ _) _) _⟩
  clear hW
  as_aux_lemma =>
    have hR : W.rangeAt (w.heap.size + 1 + 1) 0 [.int .i64 n0, .int .i64 n1, .int .i64 n2, .int .i64 n3, .int .i64 n4, .int .i64 n5, .int .i64 n6, .int .i64 n7] := by
      have h9 := World.rangeAt_of_block BF.out.2.1 0 8
      exact h9
    have hT : W.there (w.heap.size + 1) 0 8 := (there_of_block BF.out.1 (by simp)).1
    go_wp2_with (refine wpList_load_mid (by rfl) 48 (.tmp 3) (by rfl) (w.heap.size + 1 + 1) 0 (by rfl) [.int .i64 n0, .int .i64 n1, .int .i64 n2, .int .i64 n3, .int .i64 n4, .int .i64 n5, .int .i64 n6, .int .i64 n7] _ hR Tryd.underlying48 rfl (by kernel_rfl) ?_; simp only [Act.put, List.setIfInBounds_toArray, List.set_cons_zero, List.set_cons_succ]; refine wpList_store_mid (by rfl) _ _ _ (by rfl) _ _ _ (by rfl) (by rfl) ?sa ?sb ?sc ?sd; exact hT; show _ = some 8; kernel_rfl; exact all_oneCell_toArray (List.all_eq_true.1 rfl); simp only [Act.put])
    have hld : (loadVar 48 ⟨w.heap.size + 1, 0, none⟩).run Tryd.prog (W.setCells (w.heap.size + 1) 0 [.int .i64 n0, .int .i64 n1, .int .i64 n2, .int .i64 n3, .int .i64 n4, .int .i64 n5, .int .i64 n6, .int .i64 n7]) = .ok (.agg #[.int .i64 n0, .int .i64 n1, .int .i64 n2, .int .i64 n3, .int .i64 n4, .int .i64 n5, .int .i64 n6, .int .i64 n7]) (W.setCells (w.heap.size + 1) 0 [.int .i64 n0, .int .i64 n1, .int .i64 n2, .int .i64 n3, .int .i64 n4, .int .i64 n5, .int .i64 n6, .int .i64 n7]) := run_loadVar_mid _ (w.heap.size + 1) 0 48 [.int .i64 n0, .int .i64 n1, .int .i64 n2, .int .i64 n3, .int .i64 n4, .int .i64 n5, .int .i64 n6, .int .i64 n7] _ (World.rangeAt_setCells_same _ _ _ _ hT) Tryd.underlying48 rfl (by kernel_rfl)
    refine bodyPost_ret (v := .agg #[.int .i64 n0, .int .i64 n1, .int .i64 n2, .int .i64 n3, .int .i64 n4, .int .i64 n5, .int .i64 n6, .int .i64 n7]) ?_ rfl ⟨rfl, (grownBy_setCellsN (Nat.le_succ _) _ _ _ BF.out.2.2)⟩
    exact results_ret rfl rfl hld
end Go.Proofs.YtkjjglnbbahbkaaDoor
