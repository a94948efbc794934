/-
  The laws' to.. over the types of a report, walked: what comes is new, and tells the same.
-/
import Derived.Test.YtkjjglnbbahbkaaDoorShapes
import Derived.Test.YtkjjglnbbahbkaaDoorMadeT
import Derived.Test.YtkjjglnbbahbkaaDoorBytes
import Derived.Deep.DeepCutAuto
import Derived.Deep.CutRange
namespace Go.Proofs.YtkjjglnbbahbkaaDoor
open Go.RowKit

theorem heap3 (w : World) (a b c : Obj) : (((w.alloc a).alloc b).alloc c).heap[w.heap.size]? = some a ∧ (((w.alloc a).alloc b).alloc c).heap[w.heap.size + 1]? = some b ∧ (((w.alloc a).alloc b).alloc c).heap[w.heap.size + 1 + 1]? = some c := by
  exact ⟨(Below.heap_alloc _ _ _ (by simp; omega)).trans ((Below.heap_alloc _ _ _ (by simp)).trans (heap_alloc_new w _)), (Below.heap_alloc _ _ _ (by simp)).trans (heap_two w _ _), by have h := heap_alloc_new ((w.alloc a).alloc b) c; simpa using h⟩
theorem Made.set1 {w : World} {lo b j : Nat} {v : Value} {x : Tr} (h : Made w lo x) (hb : b < lo) : Made (w.setCell ⟨b, j, none⟩ v) lo x :=
  h.keep (by simp [World.setCell]) (fun k hk _ => heap_setCell_other w _ k v (show k ≠ b by omega))
theorem toByteS_made (d : List Nat) (a : Option Addr) (p : Nat) (w : World) (h : SlB w a d.length d) (hd : d.length ≤ 1048576) :
    Calls Tryd.prog 53 #[.slice a d.length p] w fun e w' => ∃ (a' : Option Addr) (p' : Nat), e = .returned (.slice a' d.length p') ∧ Made w' w.heap.size (.byt d a' p') ∧ w.grownBy w' none := by
  refine (toByteS_any a d.length p d w h (by omega)).mono ?_
  rintro e w' ⟨rfl, hO, hG⟩
  exact ⟨_, _, rfl, .byt (Nat.le_refl _) hd hO rfl, hG⟩
theorem fits_Entry {n0 : Int} {d1 : List Nat} {a1 : Option Addr} {p1 : Nat}  : ∀ (j : Nat) (y : Tr) (k : Ki), [.int n0, .byt d1 a1 p1][j]? = some y → kEntry[j]? = some k → Fits y k := by
  intro j y k hj hk
  match j with
  | 0 => obtain rfl := Option.some.inj hj; obtain rfl := Option.some.inj hk; exact .int _
  | 1 => obtain rfl := Option.some.inj hj; obtain rfl := Option.some.inj hk; exact .byt _ _ _
  | j + 2 => cases hk
theorem fits_Message {n0 : Int} {n1 : Int} {n2 : Int} {n3 : Int} {n4 : Int} {n5 : Int} {n6 : Int} {b7 : Bool} {L8 : List (List Tr)} {a8 : Option Addr} {p8 : Nat} {d9 : List Nat} {a9 : Option Addr} {p9 : Nat} (r8 : Fits (.row kEntry.length a8 p8 L8) (.row kEntry)) : ∀ (j : Nat) (y : Tr) (k : Ki), [.int n0, .int n1, .int n2, .int n3, .int n4, .int n5, .int n6, .bool b7, .row kEntry.length a8 p8 L8, .byt d9 a9 p9][j]? = some y → kMessage[j]? = some k → Fits y k := by
  intro j y k hj hk
  match j with
  | 0 => obtain rfl := Option.some.inj hj; obtain rfl := Option.some.inj hk; exact .int _
  | 1 => obtain rfl := Option.some.inj hj; obtain rfl := Option.some.inj hk; exact .int _
  | 2 => obtain rfl := Option.some.inj hj; obtain rfl := Option.some.inj hk; exact .int _
  | 3 => obtain rfl := Option.some.inj hj; obtain rfl := Option.some.inj hk; exact .int _
  | 4 => obtain rfl := Option.some.inj hj; obtain rfl := Option.some.inj hk; exact .int _
  | 5 => obtain rfl := Option.some.inj hj; obtain rfl := Option.some.inj hk; exact .int _
  | 6 => obtain rfl := Option.some.inj hj; obtain rfl := Option.some.inj hk; exact .int _
  | 7 => obtain rfl := Option.some.inj hj; obtain rfl := Option.some.inj hk; exact .bool _
  | 8 => obtain rfl := Option.some.inj hj; obtain rfl := Option.some.inj hk; exact r8
  | 9 => obtain rfl := Option.some.inj hj; obtain rfl := Option.some.inj hk; exact .byt _ _ _
  | j + 10 => cases hk
theorem fits_Ack {n0 : Int} {n1 : Int} {n2 : Int} {n3 : Int} {n4 : Int}  : ∀ (j : Nat) (y : Tr) (k : Ki), [.int n0, .int n1, .int n2, .int n3, .int n4][j]? = some y → kAck[j]? = some k → Fits y k := by
  intro j y k hj hk
  match j with
  | 0 => obtain rfl := Option.some.inj hj; obtain rfl := Option.some.inj hk; exact .int _
  | 1 => obtain rfl := Option.some.inj hj; obtain rfl := Option.some.inj hk; exact .int _
  | 2 => obtain rfl := Option.some.inj hj; obtain rfl := Option.some.inj hk; exact .int _
  | 3 => obtain rfl := Option.some.inj hj; obtain rfl := Option.some.inj hk; exact .int _
  | 4 => obtain rfl := Option.some.inj hj; obtain rfl := Option.some.inj hk; exact .int _
  | j + 5 => cases hk
theorem fits_Item {n0 : Int} {n1 : Int} {d2 : List Nat} {a2 : Option Addr} {p2 : Nat}  : ∀ (j : Nat) (y : Tr) (k : Ki), [.int n0, .int n1, .byt d2 a2 p2][j]? = some y → kItem[j]? = some k → Fits y k := by
  intro j y k hj hk
  match j with
  | 0 => obtain rfl := Option.some.inj hj; obtain rfl := Option.some.inj hk; exact .int _
  | 1 => obtain rfl := Option.some.inj hj; obtain rfl := Option.some.inj hk; exact .int _
  | 2 => obtain rfl := Option.some.inj hj; obtain rfl := Option.some.inj hk; exact .byt _ _ _
  | j + 3 => cases hk
theorem fits_Session {n0 : Int} {n1 : Int} {n2 : Int} {d3 : List Nat} {a3 : Option Addr} {p3 : Nat}  : ∀ (j : Nat) (y : Tr) (k : Ki), [.int n0, .int n1, .int n2, .byt d3 a3 p3][j]? = some y → kSession[j]? = some k → Fits y k := by
  intro j y k hj hk
  match j with
  | 0 => obtain rfl := Option.some.inj hj; obtain rfl := Option.some.inj hk; exact .int _
  | 1 => obtain rfl := Option.some.inj hj; obtain rfl := Option.some.inj hk; exact .int _
  | 2 => obtain rfl := Option.some.inj hj; obtain rfl := Option.some.inj hk; exact .int _
  | 3 => obtain rfl := Option.some.inj hj; obtain rfl := Option.some.inj hk; exact .byt _ _ _
  | j + 4 => cases hk
set_option maxRecDepth 8000 in
set_option maxHeartbeats 8000000 in
theorem toEntry_any (n0 : Int) (d1 : List Nat) (a1 : Option Addr) (p1 : Nat) (w : World) (h1 : SlB w a1 d1.length d1) (s1 : d1.length ≤ 1048576) :
    Calls Tryd.prog 74 #[.agg #[.int .i64 n0, .slice a1 d1.length p1]] w fun e w' => ∃ (a1' : Option Addr) (p1' : Nat), e = .returned (.agg #[.int .i64 n0, .slice a1' d1.length p1']) ∧ Made w' w.heap.size (.byt d1 a1' p1') ∧ w.grownBy w' none := by
  have C0 : Hid (∀ Y : World, w.grownBy Y none → Calls Tryd.prog 53 #[.slice a1 d1.length p1] Y fun e w' => ∃ (a1' : Option Addr) (p1' : Nat), e = .returned (.slice a1' d1.length p1') ∧ Made w' Y.heap.size (.byt d1 a1' p1') ∧ Y.grownBy w' none) := fun Y hY => toByteS_made d1 a1 p1 Y (h1.grown0 hY) s1
  clear h1 s1
  go_enter Tryd.func74, Tryd.ntmps74
  go_wp2_with fail
  refine (C0.out _ (grownBy_alloc (grownBy_alloc (World.grownBy_alloc _ _ _) _) _)).mono ?_
  rintro e w1 ⟨a1', p1', rfl, m1, hG⟩
  have h3 := heap3 w (.cells #[.int .i64 n0, .slice a1 d1.length p1] 135 (0, 0)) (.cells #[.int .i64 0, .slice none 0 0] 120 (0, 0)) (.cells #[.int .i64 n0, .slice none 0 0] 120 (0, 0))
  have B1 : Hid (w1.heap[w.heap.size]? = some (.cells #[.int .i64 n0, .slice a1 d1.length p1] 135 (0, 0)) ∧ w1.heap[w.heap.size + 1]? = some (.cells #[.int .i64 0, .slice none 0 0] 120 (0, 0)) ∧ w1.heap[w.heap.size + 1 + 1]? = some (.cells #[.int .i64 n0, .slice none 0 0] 120 (0, 0))) := ⟨grown_blk hG h3.1, grown_blk hG h3.2.1, grown_blk hG h3.2.2⟩
  have G1 : Hid (w.grownBy w1 none ∧ w.heap.size + 1 + 1 + 1 ≤ w1.heap.size) := ⟨grownBy_trans (grownBy_alloc (grownBy_alloc (World.grownBy_alloc _ _ _) _) _) hG, by have := hG.size; simpa using this⟩
  have M1 : Hid (Made w1 (w.heap.size + 1 + 1 + 1) (.byt d1 a1' p1')) := m1.low (by simp)
  clear hG h3 m1
  have hC : w1.cell? ⟨w.heap.size + 1 + 1, 1, none⟩ = some (.slice none 0 0) ∧ w1.frozen? ⟨w.heap.size + 1 + 1, 1, none⟩ = false := by
    obtain ⟨-, -, x2⟩ := B1.out
    simp [World.cell?, World.frozen?, x2]
  go_upto_region 4 with fail
  generalize hW : (w1).setCell ⟨w.heap.size + 1 + 1, 1, none⟩ (.slice a1' d1.length p1') = W
  have BF : Hid (W.heap[w.heap.size + 1]? = some (.cells #[.int .i64 0, .slice none 0 0] 120 (0, 0)) ∧ W.heap[w.heap.size + 1 + 1]? = some (.cells #[.int .i64 n0, .slice a1' d1.length p1'] 120 (0, 0)) ∧ w.grownBy W none ∧ Made W (w.heap.size + 1 + 1 + 1) (.byt d1 a1' p1')) := by
    subst hW
    exact ⟨(set_oth 1 _ (by omega) B1.out.2.1), (set_blkL 1 _ B1.out.2.2), (grownBy_setNew G1.out.1 (Nat.le_trans (Nat.le_succ _) (Nat.le_succ _))), (M1.out).set1 (by omega)⟩
  clear hW hC
  as_aux_lemma =>
    have hR : W.rangeAt (w.heap.size + 1 + 1) 0 [.int .i64 n0, .slice a1' d1.length p1'] := by
      have h9 := World.rangeAt_of_block BF.out.2.1 0 2
      exact h9
    have hT : W.there (w.heap.size + 1) 0 2 := (there_of_block BF.out.1 (by simp)).1
    go_wp2_with (refine wpList_load_mid (by rfl) 120 (.tmp 3) (by rfl) (w.heap.size + 1 + 1) 0 (by rfl) [.int .i64 n0, .slice a1' d1.length p1'] _ hR Tryd.underlying120 rfl (by kernel_rfl) ?_; simp only [Act.put, List.setIfInBounds_toArray, List.set_cons_zero, List.set_cons_succ]; refine wpList_store_mid (by rfl) _ _ _ (by rfl) _ _ _ (by rfl) (by rfl) ?sa ?sb ?sc ?sd; exact hT; show _ = some 2; kernel_rfl; exact all_oneCell_toArray (List.all_eq_true.1 rfl); simp only [Act.put])
    have hld : (loadVar 120 ⟨w.heap.size + 1, 0, none⟩).run Tryd.prog (W.setCells (w.heap.size + 1) 0 [.int .i64 n0, .slice a1' d1.length p1']) = .ok (.agg #[.int .i64 n0, .slice a1' d1.length p1']) (W.setCells (w.heap.size + 1) 0 [.int .i64 n0, .slice a1' d1.length p1']) := run_loadVar_mid _ (w.heap.size + 1) 0 120 [.int .i64 n0, .slice a1' d1.length p1'] _ (World.rangeAt_setCells_same _ _ _ _ hT) Tryd.underlying120 rfl (by kernel_rfl)
    refine bodyPost_ret (v := .agg #[.int .i64 n0, .slice a1' d1.length p1']) ?_ rfl ⟨_, _, rfl, ((BF.out.2.2.2).setCells (by omega)).low (by omega), (grownBy_setCellsN (Nat.le_succ _) _ _ _ BF.out.2.2.1)⟩
    exact results_ret rfl rfl hld
theorem Tryd.infoEntry : (Tryd.prog.info? 120).map (fun i => (i.zero, i.size, i.bytes)) = some (some (.agg #[.int .i64 0, .slice none 0 0]), 2, 32) := by kernel_rfl
set_option maxRecDepth 8000 in
set_option maxHeartbeats 8000000 in
theorem toEntryS_any (L : List (List Tr)) (a : Option Addr) (p : Nat) (w : World) (h : RowOk w kEntry a L) (s : totR L ≤ 1048576) :
    Calls Tryd.prog 66 #[.slice a L.length p] w fun e w' => ∃ (L' : List (List Tr)) (a' : Option Addr) (p' : Nat), e = .returned (.slice a' L'.length p') ∧ (Made w' w.heap.size (.row kEntry.length a' p' L') ∧ Fits (.row kEntry.length a' p' L') (.row kEntry) ∧ tellR L' = tellR L) ∧ w.grownBy w' none := by
  have hn : L.length ≤ 1048576 := Nat.le_trans (totR_len L) s
  have HR : Hid (RowOk w kEntry a L ∧ totR L ≤ 1048576) := ⟨h, s⟩
  clear h s
  obtain ⟨n, hnn⟩ : ∃ n, L.length = n := ⟨_, rfl⟩
  have HN : Hid (L.length = n) := hnn
  rw [hnn] at hn ⊢
  clear hnn
  obtain ⟨i0, hi, hz0, hz1, hz2⟩ := info_parts Tryd.infoEntry
  go_enter Tryd.func66, Tryd.ntmps66
  go_wp2_with (at_make; refine wpList_make_full _ rfl (.tmp 6) (.tmp 6) 98 rfl w.heap.size 120 i0 (.agg #[.int .i64 0, .slice none 0 0]) 2 Tryd.underlying98 hi hz0 hz1 .i64 .i64 n n n rfl rfl rfl rfl ?cb ?cm (Nat.le_refl _) ?_)
  case cb => rw [hz2]; omega
  case cm => unfold maxLen; omega
  intro w1 hown hgrow
  have HO : Hid (Fill w w1 w.heap.size n 2 L [] kEntry) := by
    rcases hown.2 with ⟨h0, _⟩ | ⟨g, cap', cur, h0, hb, hg, hc, hm, hs, htake⟩
    · simp at h0
    · simp only [Value.slice.injEq, Option.some.injEq, Addr.mk.injEq, and_true] at h0
      obtain ⟨rfl, -, rfl⟩ := h0
      obtain ⟨ht, hf⟩ := there_of_block (n := n * 2) hg (by rw [hs]; exact Nat.le_refl _)
      exact ⟨(Array.getElem?_eq_some_iff.1 hg).1, ht, hf, by simp, by simp, by simp, by simp, hgrow⟩
  clear hown hgrow hi hz0 hz1 hz2 i0
  go_wp2
  go_loopw [4] (fun i wr => ∃ (k : Nat) (M : List (List Tr)), k ≤ n ∧ i = .int .i64 (k : Int) ∧ M.length = k ∧ Fill w wr w.heap.size n 2 L M kEntry) (fun i _ => n - (intOf i).toNat)
  case atStart => exact ⟨0, [], Nat.zero_le _, rfl, rfl, HO.out⟩
  case round =>
    obtain ⟨k, M, hk, rfl, hM, hF⟩ := hrel
    have HF : Hid (M.length = k ∧ Fill w wr w.heap.size n 2 L M kEntry) := ⟨hM, hF⟩
    clear hM hF HO
    by_cases hlt : k < n
    · obtain ⟨e, he⟩ : ∃ e, L[k]? = some e := ⟨_, List.getElem?_eq_getElem (by rw [HN.out]; exact hlt)⟩
      obtain ⟨hf, hrd, b, off, hab, hc⟩ := HR.out.1.grown0 HF.out.2.grown k e he
      have htot := HR.out.2
      obtain ⟨n0, d1, a1, p1, rfl⟩ := fitEntry hf
      subst hab
      have c0 : wr.cell? ⟨b, off + k * 2, none⟩ = some (.int .i64 n0) := hc 0 _ rfl
      have c1 : wr.cell? ⟨b, off + k * 2 + 1, none⟩ = some (.slice a1 d1.length p1) := hc 1 _ rfl
      have HK : Hid (∀ X : World, wr.grownBy X none → Calls Tryd.prog 74 #[.agg #[.int .i64 n0, .slice a1 d1.length p1]] X fun e w' => ∃ (a1' : Option Addr) (p1' : Nat), e = .returned (.agg #[.int .i64 n0, .slice a1' d1.length p1']) ∧ Made w' X.heap.size (.byt d1 a1' p1') ∧ X.grownBy w' none) := fun X hs => toEntry_any n0 d1 a1 p1 X ((hrd (.byt d1 a1 p1) (by simp)).isByt.grown0 hs) (by have h1 := tot_sub (y := .byt d1 a1 p1) (j := 1) he rfl; rw [tot_byt] at h1; omega)
      have R0 : Hid (I64 n0) := (hrd (.int n0) (by simp)).isInt
      have HE : Hid (L[k]? = some [.int n0, .byt d1 a1 p1]) := he
      clear hc hrd hf he htot
      have hkI : (k : Int) < (n : Int) := by omega
      go_wp2_with fail
      refine (HK.out _ (grownBy_refl _ _)).mono ?_
      rintro e w2 ⟨a1', p1', rfl, m1, hG2⟩
      have HS : Hid (Fill w (w2.setCells w.heap.size (k * 2) [.int .i64 n0, .slice a1' d1.length p1']) w.heap.size n 2 L (M ++ [[.int n0, .byt d1 a1' p1']]) kEntry) := by
        obtain ⟨rfl, hF⟩ := HF.out
        refine hF.step (e' := [.int n0, .byt d1 a1' p1']) (Nat.le_refl _) rfl hG2 HE.out hlt ?_ ?_ ?_
        · exact ⟨rfl, fits_Entry⟩
        · intro y hy
          simp only [List.mem_cons, List.not_mem_nil, or_false] at hy
          rcases hy with rfl | rfl
          · exact .int R0.out
          · exact m1.low (by have := hF.lt; omega)
        · simp only [List.map_cons, List.map_nil]
      have hth : w2.there w.heap.size (k * 2) 2 := by
        obtain ⟨rfl, hF⟩ := HF.out
        refine there_sub (n := n * 2) (fun j hj => ?_) (by have h9 := Nat.mul_le_mul_right 2 (show M.length + 1 ≤ n by omega); rw [Nat.succ_mul] at h9; exact h9)
        obtain ⟨h1, h2⟩ := hF.there j hj
        exact ⟨by rw [(bcell hG2).1 _ _ hF.lt]; exact h1, by rw [(bcell hG2).2 _ _ hF.lt]; exact h2⟩
      obtain ⟨u0, q0⟩ : ∃ u, w2.cell? ⟨w.heap.size, k * 2, none⟩ = some u := Option.isSome_iff_exists.1 (hth 0 (by omega)).1
      have f0 : w2.frozen? ⟨w.heap.size, k * 2, none⟩ = false := (hth 0 (by omega)).2
      obtain ⟨u1, q1⟩ : ∃ u, w2.cell? ⟨w.heap.size, k * 2 + 1, none⟩ = some u := Option.isSome_iff_exists.1 (hth 1 (by omega)).1
      have f1 : w2.frozen? ⟨w.heap.size, k * 2 + 1, none⟩ = false := (hth 1 (by omega)).2
      clear hth hG2 m1
      go_wp2
      go_roundw
      case rel => exact ⟨k + 1, M ++ [([.int n0, .byt d1 a1' p1'] : List Tr)], by omega, by go_num, by rw [List.length_append, HF.out.1]; rfl, by exact HS.out⟩
      case measure => simp [intOf]; omega
    · obtain rfl : k = n := by omega
      go_wp2
      go_ret
      have hA := HF.out.2.all (cp := k) rfl HF.out.1 HN.out hn
      refine ⟨M, some ⟨w.heap.size, 0, none⟩, k, by rw [HF.out.1]; rfl, hA, HF.out.2.grown⟩
set_option maxRecDepth 8000 in
set_option maxHeartbeats 8000000 in
theorem toAck_any (n0 : Int) (n1 : Int) (n2 : Int) (n3 : Int) (n4 : Int) (w : World)  :
    Calls Tryd.prog 56 #[.agg #[.int .i64 n0, .int .i64 n1, .int .i64 n2, .int .i64 n3, .int .i64 n4]] w fun e w' => e = .returned (.agg #[.int .i64 n0, .int .i64 n1, .int .i64 n2, .int .i64 n3, .int .i64 n4]) ∧ w.grownBy w' none := by
  go_enter Tryd.func56, Tryd.ntmps56
  go_upto_region 7 with fail
  generalize hW : ((w.alloc (.cells #[.int .i64 n0, .int .i64 n1, .int .i64 n2, .int .i64 n3, .int .i64 n4] 111)).alloc (.cells #[.int .i64 0, .int .i64 0, .int .i64 0, .int .i64 0, .int .i64 0] 53)).alloc (.cells #[.int .i64 n0, .int .i64 n1, .int .i64 n2, .int .i64 n3, .int .i64 n4] 53) = W
  have BF : Hid (W.heap[w.heap.size + 1]? = some (.cells #[.int .i64 0, .int .i64 0, .int .i64 0, .int .i64 0, .int .i64 0] 53 (0, 0)) ∧ W.heap[w.heap.size + 1 + 1]? = some (.cells #[.int .i64 n0, .int .i64 n1, .int .i64 n2, .int .i64 n3, .int .i64 n4] 53 (0, 0)) ∧ w.grownBy W none) := by
    subst hW
    have h3 := heap3 w (.cells #[.int .i64 n0, .int .i64 n1, .int .i64 n2, .int .i64 n3, .int .i64 n4] 111 (0, 0)) (.cells #[.int .i64 0, .int .i64 0, .int .i64 0, .int .i64 0, .int .i64 0] 53 (0, 0)) (.cells #[.int .i64 n0, .int .i64 n1, .int .i64 n2, .int .i64 n3, .int .i64 n4] 53 (0, 0))
    exact ⟨h3.2.1, h3.2.2, grownBy_alloc (grownBy_alloc (World.grownBy_alloc _ _ _) _) _⟩
  clear hW
  as_aux_lemma =>
    have hR : W.rangeAt (w.heap.size + 1 + 1) 0 [.int .i64 n0, .int .i64 n1, .int .i64 n2, .int .i64 n3, .int .i64 n4] := by
      have h9 := World.rangeAt_of_block BF.out.2.1 0 5
      exact h9
    have hT : W.there (w.heap.size + 1) 0 5 := (there_of_block BF.out.1 (by simp)).1
    go_wp2_with (refine wpList_load_mid (by rfl) 53 (.tmp 3) (by rfl) (w.heap.size + 1 + 1) 0 (by rfl) [.int .i64 n0, .int .i64 n1, .int .i64 n2, .int .i64 n3, .int .i64 n4] _ hR Tryd.underlying53 rfl (by kernel_rfl) ?_; simp only [Act.put, List.setIfInBounds_toArray, List.set_cons_zero, List.set_cons_succ]; refine wpList_store_mid (by rfl) _ _ _ (by rfl) _ _ _ (by rfl) (by rfl) ?sa ?sb ?sc ?sd; exact hT; show _ = some 5; kernel_rfl; exact all_oneCell_toArray (List.all_eq_true.1 rfl); simp only [Act.put])
    have hld : (loadVar 53 ⟨w.heap.size + 1, 0, none⟩).run Tryd.prog (W.setCells (w.heap.size + 1) 0 [.int .i64 n0, .int .i64 n1, .int .i64 n2, .int .i64 n3, .int .i64 n4]) = .ok (.agg #[.int .i64 n0, .int .i64 n1, .int .i64 n2, .int .i64 n3, .int .i64 n4]) (W.setCells (w.heap.size + 1) 0 [.int .i64 n0, .int .i64 n1, .int .i64 n2, .int .i64 n3, .int .i64 n4]) := run_loadVar_mid _ (w.heap.size + 1) 0 53 [.int .i64 n0, .int .i64 n1, .int .i64 n2, .int .i64 n3, .int .i64 n4] _ (World.rangeAt_setCells_same _ _ _ _ hT) Tryd.underlying53 rfl (by kernel_rfl)
    refine bodyPost_ret (v := .agg #[.int .i64 n0, .int .i64 n1, .int .i64 n2, .int .i64 n3, .int .i64 n4]) ?_ rfl ⟨rfl, (grownBy_setCellsN (Nat.le_succ _) _ _ _ BF.out.2.2)⟩
    exact results_ret rfl rfl hld
theorem Tryd.infoAck : (Tryd.prog.info? 53).map (fun i => (i.zero, i.size, i.bytes)) = some (some (.agg #[.int .i64 0, .int .i64 0, .int .i64 0, .int .i64 0, .int .i64 0]), 5, 40) := by kernel_rfl
set_option maxRecDepth 8000 in
set_option maxHeartbeats 8000000 in
theorem toAckS_any (L : List (List Tr)) (a : Option Addr) (p : Nat) (w : World) (h : RowOk w kAck a L) (s : totR L ≤ 1048576) :
    Calls Tryd.prog 38 #[.slice a L.length p] w fun e w' => ∃ (L' : List (List Tr)) (a' : Option Addr) (p' : Nat), e = .returned (.slice a' L'.length p') ∧ (Made w' w.heap.size (.row kAck.length a' p' L') ∧ Fits (.row kAck.length a' p' L') (.row kAck) ∧ tellR L' = tellR L) ∧ w.grownBy w' none := by
  have hn : L.length ≤ 1048576 := Nat.le_trans (totR_len L) s
  have HR : Hid (RowOk w kAck a L ∧ totR L ≤ 1048576) := ⟨h, s⟩
  clear h s
  obtain ⟨n, hnn⟩ : ∃ n, L.length = n := ⟨_, rfl⟩
  have HN : Hid (L.length = n) := hnn
  rw [hnn] at hn ⊢
  clear hnn
  obtain ⟨i0, hi, hz0, hz1, hz2⟩ := info_parts Tryd.infoAck
  go_enter Tryd.func38, Tryd.ntmps38
  go_wp2_with (at_make; refine wpList_make_full _ rfl (.tmp 6) (.tmp 6) 45 rfl w.heap.size 53 i0 (.agg #[.int .i64 0, .int .i64 0, .int .i64 0, .int .i64 0, .int .i64 0]) 5 Tryd.underlying45 hi hz0 hz1 .i64 .i64 n n n rfl rfl rfl rfl ?cb ?cm (Nat.le_refl _) ?_)
  case cb => rw [hz2]; omega
  case cm => unfold maxLen; omega
  intro w1 hown hgrow
  have HO : Hid (Fill w w1 w.heap.size n 5 L [] kAck) := by
    rcases hown.2 with ⟨h0, _⟩ | ⟨g, cap', cur, h0, hb, hg, hc, hm, hs, htake⟩
    · simp at h0
    · simp only [Value.slice.injEq, Option.some.injEq, Addr.mk.injEq, and_true] at h0
      obtain ⟨rfl, -, rfl⟩ := h0
      obtain ⟨ht, hf⟩ := there_of_block (n := n * 5) hg (by rw [hs]; exact Nat.le_refl _)
      exact ⟨(Array.getElem?_eq_some_iff.1 hg).1, ht, hf, by simp, by simp, by simp, by simp, hgrow⟩
  clear hown hgrow hi hz0 hz1 hz2 i0
  go_wp2
  go_loopw [4] (fun i wr => ∃ (k : Nat) (M : List (List Tr)), k ≤ n ∧ i = .int .i64 (k : Int) ∧ M.length = k ∧ Fill w wr w.heap.size n 5 L M kAck) (fun i _ => n - (intOf i).toNat)
  case atStart => exact ⟨0, [], Nat.zero_le _, rfl, rfl, HO.out⟩
  case round =>
    obtain ⟨k, M, hk, rfl, hM, hF⟩ := hrel
    have HF : Hid (M.length = k ∧ Fill w wr w.heap.size n 5 L M kAck) := ⟨hM, hF⟩
    clear hM hF HO
    by_cases hlt : k < n
    · obtain ⟨e, he⟩ : ∃ e, L[k]? = some e := ⟨_, List.getElem?_eq_getElem (by rw [HN.out]; exact hlt)⟩
      obtain ⟨hf, hrd, b, off, hab, hc⟩ := HR.out.1.grown0 HF.out.2.grown k e he
      have htot := HR.out.2
      obtain ⟨n0, n1, n2, n3, n4, rfl⟩ := fitAck hf
      subst hab
      have c0 : wr.cell? ⟨b, off + k * 5, none⟩ = some (.int .i64 n0) := hc 0 _ rfl
      have c1 : wr.cell? ⟨b, off + k * 5 + 1, none⟩ = some (.int .i64 n1) := hc 1 _ rfl
      have c2 : wr.cell? ⟨b, off + k * 5 + 2, none⟩ = some (.int .i64 n2) := hc 2 _ rfl
      have c3 : wr.cell? ⟨b, off + k * 5 + 3, none⟩ = some (.int .i64 n3) := hc 3 _ rfl
      have c4 : wr.cell? ⟨b, off + k * 5 + 4, none⟩ = some (.int .i64 n4) := hc 4 _ rfl
      have HK : Hid (∀ X : World, wr.grownBy X none → Calls Tryd.prog 56 #[.agg #[.int .i64 n0, .int .i64 n1, .int .i64 n2, .int .i64 n3, .int .i64 n4]] X fun e w' => e = .returned (.agg #[.int .i64 n0, .int .i64 n1, .int .i64 n2, .int .i64 n3, .int .i64 n4]) ∧ X.grownBy w' none) := fun X _ => toAck_any n0 n1 n2 n3 n4 X 
      have R0 : Hid (I64 n0) := (hrd (.int n0) (by simp)).isInt
      have R1 : Hid (I64 n1) := (hrd (.int n1) (by simp)).isInt
      have R2 : Hid (I64 n2) := (hrd (.int n2) (by simp)).isInt
      have R3 : Hid (I64 n3) := (hrd (.int n3) (by simp)).isInt
      have R4 : Hid (I64 n4) := (hrd (.int n4) (by simp)).isInt
      have HE : Hid (L[k]? = some [.int n0, .int n1, .int n2, .int n3, .int n4]) := he
      clear hc hrd hf he htot
      have hkI : (k : Int) < (n : Int) := by omega
      go_wp2_with fail
      refine (HK.out _ (grownBy_refl _ _)).mono ?_
      rintro e w2 ⟨rfl, hG2⟩
      have HS : Hid (Fill w (w2.setCells w.heap.size (k * 5) [.int .i64 n0, .int .i64 n1, .int .i64 n2, .int .i64 n3, .int .i64 n4]) w.heap.size n 5 L (M ++ [[.int n0, .int n1, .int n2, .int n3, .int n4]]) kAck) := by
        obtain ⟨rfl, hF⟩ := HF.out
        refine hF.step (e' := [.int n0, .int n1, .int n2, .int n3, .int n4]) (Nat.le_refl _) rfl hG2 HE.out hlt ?_ ?_ ?_
        · exact ⟨rfl, fits_Ack⟩
        · intro y hy
          simp only [List.mem_cons, List.not_mem_nil, or_false] at hy
          rcases hy with rfl | rfl | rfl | rfl | rfl
          · exact .int R0.out
          · exact .int R1.out
          · exact .int R2.out
          · exact .int R3.out
          · exact .int R4.out
        · simp only [List.map_cons, List.map_nil]
      have hth : w2.there w.heap.size (k * 5) 5 := by
        obtain ⟨rfl, hF⟩ := HF.out
        refine there_sub (n := n * 5) (fun j hj => ?_) (by have h9 := Nat.mul_le_mul_right 5 (show M.length + 1 ≤ n by omega); rw [Nat.succ_mul] at h9; exact h9)
        obtain ⟨h1, h2⟩ := hF.there j hj
        exact ⟨by rw [(bcell hG2).1 _ _ hF.lt]; exact h1, by rw [(bcell hG2).2 _ _ hF.lt]; exact h2⟩
      obtain ⟨u0, q0⟩ : ∃ u, w2.cell? ⟨w.heap.size, k * 5, none⟩ = some u := Option.isSome_iff_exists.1 (hth 0 (by omega)).1
      have f0 : w2.frozen? ⟨w.heap.size, k * 5, none⟩ = false := (hth 0 (by omega)).2
      obtain ⟨u1, q1⟩ : ∃ u, w2.cell? ⟨w.heap.size, k * 5 + 1, none⟩ = some u := Option.isSome_iff_exists.1 (hth 1 (by omega)).1
      have f1 : w2.frozen? ⟨w.heap.size, k * 5 + 1, none⟩ = false := (hth 1 (by omega)).2
      obtain ⟨u2, q2⟩ : ∃ u, w2.cell? ⟨w.heap.size, k * 5 + 2, none⟩ = some u := Option.isSome_iff_exists.1 (hth 2 (by omega)).1
      have f2 : w2.frozen? ⟨w.heap.size, k * 5 + 2, none⟩ = false := (hth 2 (by omega)).2
      obtain ⟨u3, q3⟩ : ∃ u, w2.cell? ⟨w.heap.size, k * 5 + 3, none⟩ = some u := Option.isSome_iff_exists.1 (hth 3 (by omega)).1
      have f3 : w2.frozen? ⟨w.heap.size, k * 5 + 3, none⟩ = false := (hth 3 (by omega)).2
      obtain ⟨u4, q4⟩ : ∃ u, w2.cell? ⟨w.heap.size, k * 5 + 4, none⟩ = some u := Option.isSome_iff_exists.1 (hth 4 (by omega)).1
      have f4 : w2.frozen? ⟨w.heap.size, k * 5 + 4, none⟩ = false := (hth 4 (by omega)).2
      clear hth hG2
      go_wp2
      go_roundw
      case rel => exact ⟨k + 1, M ++ [([.int n0, .int n1, .int n2, .int n3, .int n4] : List Tr)], by omega, by go_num, by rw [List.length_append, HF.out.1]; rfl, by exact HS.out⟩
      case measure => simp [intOf]; omega
    · obtain rfl : k = n := by omega
      go_wp2
      go_ret
      have hA := HF.out.2.all (cp := k) rfl HF.out.1 HN.out hn
      refine ⟨M, some ⟨w.heap.size, 0, none⟩, k, by rw [HF.out.1]; rfl, hA, HF.out.2.grown⟩
set_option maxRecDepth 8000 in
set_option maxHeartbeats 8000000 in
theorem toItem_any (n0 : Int) (n1 : Int) (d2 : List Nat) (a2 : Option Addr) (p2 : Nat) (w : World) (h2 : SlB w a2 d2.length d2) (s2 : d2.length ≤ 1048576) :
    Calls Tryd.prog 36 #[.agg #[.int .i64 n0, .int .i64 n1, .slice a2 d2.length p2]] w fun e w' => ∃ (a2' : Option Addr) (p2' : Nat), e = .returned (.agg #[.int .i64 n0, .int .i64 n1, .slice a2' d2.length p2']) ∧ Made w' w.heap.size (.byt d2 a2' p2') ∧ w.grownBy w' none := by
  have C0 : Hid (∀ Y : World, w.grownBy Y none → Calls Tryd.prog 53 #[.slice a2 d2.length p2] Y fun e w' => ∃ (a2' : Option Addr) (p2' : Nat), e = .returned (.slice a2' d2.length p2') ∧ Made w' Y.heap.size (.byt d2 a2' p2') ∧ Y.grownBy w' none) := fun Y hY => toByteS_made d2 a2 p2 Y (h2.grown0 hY) s2
  clear h2 s2
  go_enter Tryd.func36, Tryd.ntmps36
  go_wp2_with fail
  refine (C0.out _ (grownBy_alloc (grownBy_alloc (World.grownBy_alloc _ _ _) _) _)).mono ?_
  rintro e w1 ⟨a2', p2', rfl, m2, hG⟩
  have h3 := heap3 w (.cells #[.int .i64 n0, .int .i64 n1, .slice a2 d2.length p2] 60 (0, 0)) (.cells #[.int .i64 0, .int .i64 0, .slice none 0 0] 40 (0, 0)) (.cells #[.int .i64 n0, .int .i64 n1, .slice none 0 0] 40 (0, 0))
  have B1 : Hid (w1.heap[w.heap.size]? = some (.cells #[.int .i64 n0, .int .i64 n1, .slice a2 d2.length p2] 60 (0, 0)) ∧ w1.heap[w.heap.size + 1]? = some (.cells #[.int .i64 0, .int .i64 0, .slice none 0 0] 40 (0, 0)) ∧ w1.heap[w.heap.size + 1 + 1]? = some (.cells #[.int .i64 n0, .int .i64 n1, .slice none 0 0] 40 (0, 0))) := ⟨grown_blk hG h3.1, grown_blk hG h3.2.1, grown_blk hG h3.2.2⟩
  have G1 : Hid (w.grownBy w1 none ∧ w.heap.size + 1 + 1 + 1 ≤ w1.heap.size) := ⟨grownBy_trans (grownBy_alloc (grownBy_alloc (World.grownBy_alloc _ _ _) _) _) hG, by have := hG.size; simpa using this⟩
  have M2 : Hid (Made w1 (w.heap.size + 1 + 1 + 1) (.byt d2 a2' p2')) := m2.low (by simp)
  clear hG h3 m2
  have hC : w1.cell? ⟨w.heap.size + 1 + 1, 2, none⟩ = some (.slice none 0 0) ∧ w1.frozen? ⟨w.heap.size + 1 + 1, 2, none⟩ = false := by
    obtain ⟨-, -, x2⟩ := B1.out
    simp [World.cell?, World.frozen?, x2]
  go_upto_region 5 with fail
  generalize hW : (w1).setCell ⟨w.heap.size + 1 + 1, 2, none⟩ (.slice a2' d2.length p2') = W
  have BF : Hid (W.heap[w.heap.size + 1]? = some (.cells #[.int .i64 0, .int .i64 0, .slice none 0 0] 40 (0, 0)) ∧ W.heap[w.heap.size + 1 + 1]? = some (.cells #[.int .i64 n0, .int .i64 n1, .slice a2' d2.length p2'] 40 (0, 0)) ∧ w.grownBy W none ∧ Made W (w.heap.size + 1 + 1 + 1) (.byt d2 a2' p2')) := by
    subst hW
    exact ⟨(set_oth 2 _ (by omega) B1.out.2.1), (set_blkL 2 _ B1.out.2.2), (grownBy_setNew G1.out.1 (Nat.le_trans (Nat.le_succ _) (Nat.le_succ _))), (M2.out).set1 (by omega)⟩
  clear hW hC
  as_aux_lemma =>
    have hR : W.rangeAt (w.heap.size + 1 + 1) 0 [.int .i64 n0, .int .i64 n1, .slice a2' d2.length p2'] := by
      have h9 := World.rangeAt_of_block BF.out.2.1 0 3
      exact h9
    have hT : W.there (w.heap.size + 1) 0 3 := (there_of_block BF.out.1 (by simp)).1
    go_wp2_with (refine wpList_load_mid (by rfl) 40 (.tmp 3) (by rfl) (w.heap.size + 1 + 1) 0 (by rfl) [.int .i64 n0, .int .i64 n1, .slice a2' d2.length p2'] _ hR Tryd.underlying40 rfl (by kernel_rfl) ?_; simp only [Act.put, List.setIfInBounds_toArray, List.set_cons_zero, List.set_cons_succ]; refine wpList_store_mid (by rfl) _ _ _ (by rfl) _ _ _ (by rfl) (by rfl) ?sa ?sb ?sc ?sd; exact hT; show _ = some 3; kernel_rfl; exact all_oneCell_toArray (List.all_eq_true.1 rfl); simp only [Act.put])
    have hld : (loadVar 40 ⟨w.heap.size + 1, 0, none⟩).run Tryd.prog (W.setCells (w.heap.size + 1) 0 [.int .i64 n0, .int .i64 n1, .slice a2' d2.length p2']) = .ok (.agg #[.int .i64 n0, .int .i64 n1, .slice a2' d2.length p2']) (W.setCells (w.heap.size + 1) 0 [.int .i64 n0, .int .i64 n1, .slice a2' d2.length p2']) := run_loadVar_mid _ (w.heap.size + 1) 0 40 [.int .i64 n0, .int .i64 n1, .slice a2' d2.length p2'] _ (World.rangeAt_setCells_same _ _ _ _ hT) Tryd.underlying40 rfl (by kernel_rfl)
    refine bodyPost_ret (v := .agg #[.int .i64 n0, .int .i64 n1, .slice a2' d2.length p2']) ?_ rfl ⟨_, _, rfl, ((BF.out.2.2.2).setCells (by omega)).low (by omega), (grownBy_setCellsN (Nat.le_succ _) _ _ _ BF.out.2.2.1)⟩
    exact results_ret rfl rfl hld
theorem Tryd.infoItem : (Tryd.prog.info? 40).map (fun i => (i.zero, i.size, i.bytes)) = some (some (.agg #[.int .i64 0, .int .i64 0, .slice none 0 0]), 3, 40) := by kernel_rfl
set_option maxRecDepth 8000 in
set_option maxHeartbeats 8000000 in
theorem toItemS_any (L : List (List Tr)) (a : Option Addr) (p : Nat) (w : World) (h : RowOk w kItem a L) (s : totR L ≤ 1048576) :
    Calls Tryd.prog 54 #[.slice a L.length p] w fun e w' => ∃ (L' : List (List Tr)) (a' : Option Addr) (p' : Nat), e = .returned (.slice a' L'.length p') ∧ (Made w' w.heap.size (.row kItem.length a' p' L') ∧ Fits (.row kItem.length a' p' L') (.row kItem) ∧ tellR L' = tellR L) ∧ w.grownBy w' none := by
  have hn : L.length ≤ 1048576 := Nat.le_trans (totR_len L) s
  have HR : Hid (RowOk w kItem a L ∧ totR L ≤ 1048576) := ⟨h, s⟩
  clear h s
  obtain ⟨n, hnn⟩ : ∃ n, L.length = n := ⟨_, rfl⟩
  have HN : Hid (L.length = n) := hnn
  rw [hnn] at hn ⊢
  clear hnn
  obtain ⟨i0, hi, hz0, hz1, hz2⟩ := info_parts Tryd.infoItem
  go_enter Tryd.func54, Tryd.ntmps54
  go_wp2_with (at_make; refine wpList_make_full _ rfl (.tmp 6) (.tmp 6) 41 rfl w.heap.size 40 i0 (.agg #[.int .i64 0, .int .i64 0, .slice none 0 0]) 3 Tryd.underlying41 hi hz0 hz1 .i64 .i64 n n n rfl rfl rfl rfl ?cb ?cm (Nat.le_refl _) ?_)
  case cb => rw [hz2]; omega
  case cm => unfold maxLen; omega
  intro w1 hown hgrow
  have HO : Hid (Fill w w1 w.heap.size n 3 L [] kItem) := by
    rcases hown.2 with ⟨h0, _⟩ | ⟨g, cap', cur, h0, hb, hg, hc, hm, hs, htake⟩
    · simp at h0
    · simp only [Value.slice.injEq, Option.some.injEq, Addr.mk.injEq, and_true] at h0
      obtain ⟨rfl, -, rfl⟩ := h0
      obtain ⟨ht, hf⟩ := there_of_block (n := n * 3) hg (by rw [hs]; exact Nat.le_refl _)
      exact ⟨(Array.getElem?_eq_some_iff.1 hg).1, ht, hf, by simp, by simp, by simp, by simp, hgrow⟩
  clear hown hgrow hi hz0 hz1 hz2 i0
  go_wp2
  go_loopw [4] (fun i wr => ∃ (k : Nat) (M : List (List Tr)), k ≤ n ∧ i = .int .i64 (k : Int) ∧ M.length = k ∧ Fill w wr w.heap.size n 3 L M kItem) (fun i _ => n - (intOf i).toNat)
  case atStart => exact ⟨0, [], Nat.zero_le _, rfl, rfl, HO.out⟩
  case round =>
    obtain ⟨k, M, hk, rfl, hM, hF⟩ := hrel
    have HF : Hid (M.length = k ∧ Fill w wr w.heap.size n 3 L M kItem) := ⟨hM, hF⟩
    clear hM hF HO
    by_cases hlt : k < n
    · obtain ⟨e, he⟩ : ∃ e, L[k]? = some e := ⟨_, List.getElem?_eq_getElem (by rw [HN.out]; exact hlt)⟩
      obtain ⟨hf, hrd, b, off, hab, hc⟩ := HR.out.1.grown0 HF.out.2.grown k e he
      have htot := HR.out.2
      obtain ⟨n0, n1, d2, a2, p2, rfl⟩ := fitItem hf
      subst hab
      have c0 : wr.cell? ⟨b, off + k * 3, none⟩ = some (.int .i64 n0) := hc 0 _ rfl
      have c1 : wr.cell? ⟨b, off + k * 3 + 1, none⟩ = some (.int .i64 n1) := hc 1 _ rfl
      have c2 : wr.cell? ⟨b, off + k * 3 + 2, none⟩ = some (.slice a2 d2.length p2) := hc 2 _ rfl
      have HK : Hid (∀ X : World, wr.grownBy X none → Calls Tryd.prog 36 #[.agg #[.int .i64 n0, .int .i64 n1, .slice a2 d2.length p2]] X fun e w' => ∃ (a2' : Option Addr) (p2' : Nat), e = .returned (.agg #[.int .i64 n0, .int .i64 n1, .slice a2' d2.length p2']) ∧ Made w' X.heap.size (.byt d2 a2' p2') ∧ X.grownBy w' none) := fun X hs => toItem_any n0 n1 d2 a2 p2 X ((hrd (.byt d2 a2 p2) (by simp)).isByt.grown0 hs) (by have h1 := tot_sub (y := .byt d2 a2 p2) (j := 2) he rfl; rw [tot_byt] at h1; omega)
      have R0 : Hid (I64 n0) := (hrd (.int n0) (by simp)).isInt
      have R1 : Hid (I64 n1) := (hrd (.int n1) (by simp)).isInt
      have HE : Hid (L[k]? = some [.int n0, .int n1, .byt d2 a2 p2]) := he
      clear hc hrd hf he htot
      have hkI : (k : Int) < (n : Int) := by omega
      go_wp2_with fail
      refine (HK.out _ (grownBy_refl _ _)).mono ?_
      rintro e w2 ⟨a2', p2', rfl, m2, hG2⟩
      have HS : Hid (Fill w (w2.setCells w.heap.size (k * 3) [.int .i64 n0, .int .i64 n1, .slice a2' d2.length p2']) w.heap.size n 3 L (M ++ [[.int n0, .int n1, .byt d2 a2' p2']]) kItem) := by
        obtain ⟨rfl, hF⟩ := HF.out
        refine hF.step (e' := [.int n0, .int n1, .byt d2 a2' p2']) (Nat.le_refl _) rfl hG2 HE.out hlt ?_ ?_ ?_
        · exact ⟨rfl, fits_Item⟩
        · intro y hy
          simp only [List.mem_cons, List.not_mem_nil, or_false] at hy
          rcases hy with rfl | rfl | rfl
          · exact .int R0.out
          · exact .int R1.out
          · exact m2.low (by have := hF.lt; omega)
        · simp only [List.map_cons, List.map_nil]
      have hth : w2.there w.heap.size (k * 3) 3 := by
        obtain ⟨rfl, hF⟩ := HF.out
        refine there_sub (n := n * 3) (fun j hj => ?_) (by have h9 := Nat.mul_le_mul_right 3 (show M.length + 1 ≤ n by omega); rw [Nat.succ_mul] at h9; exact h9)
        obtain ⟨h1, h2⟩ := hF.there j hj
        exact ⟨by rw [(bcell hG2).1 _ _ hF.lt]; exact h1, by rw [(bcell hG2).2 _ _ hF.lt]; exact h2⟩
      obtain ⟨u0, q0⟩ : ∃ u, w2.cell? ⟨w.heap.size, k * 3, none⟩ = some u := Option.isSome_iff_exists.1 (hth 0 (by omega)).1
      have f0 : w2.frozen? ⟨w.heap.size, k * 3, none⟩ = false := (hth 0 (by omega)).2
      obtain ⟨u1, q1⟩ : ∃ u, w2.cell? ⟨w.heap.size, k * 3 + 1, none⟩ = some u := Option.isSome_iff_exists.1 (hth 1 (by omega)).1
      have f1 : w2.frozen? ⟨w.heap.size, k * 3 + 1, none⟩ = false := (hth 1 (by omega)).2
      obtain ⟨u2, q2⟩ : ∃ u, w2.cell? ⟨w.heap.size, k * 3 + 2, none⟩ = some u := Option.isSome_iff_exists.1 (hth 2 (by omega)).1
      have f2 : w2.frozen? ⟨w.heap.size, k * 3 + 2, none⟩ = false := (hth 2 (by omega)).2
      clear hth hG2 m2
      go_wp2
      go_roundw
      case rel => exact ⟨k + 1, M ++ [([.int n0, .int n1, .byt d2 a2' p2'] : List Tr)], by omega, by go_num, by rw [List.length_append, HF.out.1]; rfl, by exact HS.out⟩
      case measure => simp [intOf]; omega
    · obtain rfl : k = n := by omega
      go_wp2
      go_ret
      have hA := HF.out.2.all (cp := k) rfl HF.out.1 HN.out hn
      refine ⟨M, some ⟨w.heap.size, 0, none⟩, k, by rw [HF.out.1]; rfl, hA, HF.out.2.grown⟩
set_option maxRecDepth 8000 in
set_option maxHeartbeats 8000000 in
theorem toSession_any (n0 : Int) (n1 : Int) (n2 : Int) (d3 : List Nat) (a3 : Option Addr) (p3 : Nat) (w : World) (h3 : SlB w a3 d3.length d3) (s3 : d3.length ≤ 1048576) :
    Calls Tryd.prog 65 #[.agg #[.int .i64 n0, .int .i64 n1, .int .i64 n2, .slice a3 d3.length p3]] w fun e w' => ∃ (a3' : Option Addr) (p3' : Nat), e = .returned (.agg #[.int .i64 n0, .int .i64 n1, .int .i64 n2, .slice a3' d3.length p3']) ∧ Made w' w.heap.size (.byt d3 a3' p3') ∧ w.grownBy w' none := by
  have C0 : Hid (∀ Y : World, w.grownBy Y none → Calls Tryd.prog 53 #[.slice a3 d3.length p3] Y fun e w' => ∃ (a3' : Option Addr) (p3' : Nat), e = .returned (.slice a3' d3.length p3') ∧ Made w' Y.heap.size (.byt d3 a3' p3') ∧ Y.grownBy w' none) := fun Y hY => toByteS_made d3 a3 p3 Y (h3.grown0 hY) s3
  clear h3 s3
  go_enter Tryd.func65, Tryd.ntmps65
  go_wp2_with fail
  refine (C0.out _ (grownBy_alloc (grownBy_alloc (World.grownBy_alloc _ _ _) _) _)).mono ?_
  rintro e w1 ⟨a3', p3', rfl, m3, hG⟩
  have h3 := heap3 w (.cells #[.int .i64 n0, .int .i64 n1, .int .i64 n2, .slice a3 d3.length p3] 122 (0, 0)) (.cells #[.int .i64 0, .int .i64 0, .int .i64 0, .slice none 0 0] 97 (0, 0)) (.cells #[.int .i64 n0, .int .i64 n1, .int .i64 n2, .slice none 0 0] 97 (0, 0))
  have B1 : Hid (w1.heap[w.heap.size]? = some (.cells #[.int .i64 n0, .int .i64 n1, .int .i64 n2, .slice a3 d3.length p3] 122 (0, 0)) ∧ w1.heap[w.heap.size + 1]? = some (.cells #[.int .i64 0, .int .i64 0, .int .i64 0, .slice none 0 0] 97 (0, 0)) ∧ w1.heap[w.heap.size + 1 + 1]? = some (.cells #[.int .i64 n0, .int .i64 n1, .int .i64 n2, .slice none 0 0] 97 (0, 0))) := ⟨grown_blk hG h3.1, grown_blk hG h3.2.1, grown_blk hG h3.2.2⟩
  have G1 : Hid (w.grownBy w1 none ∧ w.heap.size + 1 + 1 + 1 ≤ w1.heap.size) := ⟨grownBy_trans (grownBy_alloc (grownBy_alloc (World.grownBy_alloc _ _ _) _) _) hG, by have := hG.size; simpa using this⟩
  have M3 : Hid (Made w1 (w.heap.size + 1 + 1 + 1) (.byt d3 a3' p3')) := m3.low (by simp)
  clear hG h3 m3
  have hC : w1.cell? ⟨w.heap.size + 1 + 1, 3, none⟩ = some (.slice none 0 0) ∧ w1.frozen? ⟨w.heap.size + 1 + 1, 3, none⟩ = false := by
    obtain ⟨-, -, x2⟩ := B1.out
    simp [World.cell?, World.frozen?, x2]
  go_upto_region 6 with fail
  generalize hW : (w1).setCell ⟨w.heap.size + 1 + 1, 3, none⟩ (.slice a3' d3.length p3') = W
  have BF : Hid (W.heap[w.heap.size + 1]? = some (.cells #[.int .i64 0, .int .i64 0, .int .i64 0, .slice none 0 0] 97 (0, 0)) ∧ W.heap[w.heap.size + 1 + 1]? = some (.cells #[.int .i64 n0, .int .i64 n1, .int .i64 n2, .slice a3' d3.length p3'] 97 (0, 0)) ∧ w.grownBy W none ∧ Made W (w.heap.size + 1 + 1 + 1) (.byt d3 a3' p3')) := by
    subst hW
    exact ⟨(set_oth 3 _ (by omega) B1.out.2.1), (set_blkL 3 _ B1.out.2.2), (grownBy_setNew G1.out.1 (Nat.le_trans (Nat.le_succ _) (Nat.le_succ _))), (M3.out).set1 (by omega)⟩
  clear hW hC
  as_aux_lemma =>
    have hR : W.rangeAt (w.heap.size + 1 + 1) 0 [.int .i64 n0, .int .i64 n1, .int .i64 n2, .slice a3' d3.length p3'] := by
      have h9 := World.rangeAt_of_block BF.out.2.1 0 4
      exact h9
    have hT : W.there (w.heap.size + 1) 0 4 := (there_of_block BF.out.1 (by simp)).1
    go_wp2_with (refine wpList_load_mid (by rfl) 97 (.tmp 3) (by rfl) (w.heap.size + 1 + 1) 0 (by rfl) [.int .i64 n0, .int .i64 n1, .int .i64 n2, .slice a3' d3.length p3'] _ hR Tryd.underlying97 rfl (by kernel_rfl) ?_; simp only [Act.put, List.setIfInBounds_toArray, List.set_cons_zero, List.set_cons_succ]; refine wpList_store_mid (by rfl) _ _ _ (by rfl) _ _ _ (by rfl) (by rfl) ?sa ?sb ?sc ?sd; exact hT; show _ = some 4; kernel_rfl; exact all_oneCell_toArray (List.all_eq_true.1 rfl); simp only [Act.put])
    have hld : (loadVar 97 ⟨w.heap.size + 1, 0, none⟩).run Tryd.prog (W.setCells (w.heap.size + 1) 0 [.int .i64 n0, .int .i64 n1, .int .i64 n2, .slice a3' d3.length p3']) = .ok (.agg #[.int .i64 n0, .int .i64 n1, .int .i64 n2, .slice a3' d3.length p3']) (W.setCells (w.heap.size + 1) 0 [.int .i64 n0, .int .i64 n1, .int .i64 n2, .slice a3' d3.length p3']) := run_loadVar_mid _ (w.heap.size + 1) 0 97 [.int .i64 n0, .int .i64 n1, .int .i64 n2, .slice a3' d3.length p3'] _ (World.rangeAt_setCells_same _ _ _ _ hT) Tryd.underlying97 rfl (by kernel_rfl)
    refine bodyPost_ret (v := .agg #[.int .i64 n0, .int .i64 n1, .int .i64 n2, .slice a3' d3.length p3']) ?_ rfl ⟨_, _, rfl, ((BF.out.2.2.2).setCells (by omega)).low (by omega), (grownBy_setCellsN (Nat.le_succ _) _ _ _ BF.out.2.2.1)⟩
    exact results_ret rfl rfl hld
theorem Tryd.infoSession : (Tryd.prog.info? 97).map (fun i => (i.zero, i.size, i.bytes)) = some (some (.agg #[.int .i64 0, .int .i64 0, .int .i64 0, .slice none 0 0]), 4, 48) := by kernel_rfl
set_option maxRecDepth 8000 in
set_option maxHeartbeats 8000000 in
theorem toSessionS_any (L : List (List Tr)) (a : Option Addr) (p : Nat) (w : World) (h : RowOk w kSession a L) (s : totR L ≤ 1048576) :
    Calls Tryd.prog 55 #[.slice a L.length p] w fun e w' => ∃ (L' : List (List Tr)) (a' : Option Addr) (p' : Nat), e = .returned (.slice a' L'.length p') ∧ (Made w' w.heap.size (.row kSession.length a' p' L') ∧ Fits (.row kSession.length a' p' L') (.row kSession) ∧ tellR L' = tellR L) ∧ w.grownBy w' none := by
  have hn : L.length ≤ 1048576 := Nat.le_trans (totR_len L) s
  have HR : Hid (RowOk w kSession a L ∧ totR L ≤ 1048576) := ⟨h, s⟩
  clear h s
  obtain ⟨n, hnn⟩ : ∃ n, L.length = n := ⟨_, rfl⟩
  have HN : Hid (L.length = n) := hnn
  rw [hnn] at hn ⊢
  clear hnn
  obtain ⟨i0, hi, hz0, hz1, hz2⟩ := info_parts Tryd.infoSession
  go_enter Tryd.func55, Tryd.ntmps55
  go_wp2_with (at_make; refine wpList_make_full _ rfl (.tmp 6) (.tmp 6) 42 rfl w.heap.size 97 i0 (.agg #[.int .i64 0, .int .i64 0, .int .i64 0, .slice none 0 0]) 4 Tryd.underlying42 hi hz0 hz1 .i64 .i64 n n n rfl rfl rfl rfl ?cb ?cm (Nat.le_refl _) ?_)
  case cb => rw [hz2]; omega
  case cm => unfold maxLen; omega
  intro w1 hown hgrow
  have HO : Hid (Fill w w1 w.heap.size n 4 L [] kSession) := by
    rcases hown.2 with ⟨h0, _⟩ | ⟨g, cap', cur, h0, hb, hg, hc, hm, hs, htake⟩
    · simp at h0
    · simp only [Value.slice.injEq, Option.some.injEq, Addr.mk.injEq, and_true] at h0
      obtain ⟨rfl, -, rfl⟩ := h0
      obtain ⟨ht, hf⟩ := there_of_block (n := n * 4) hg (by rw [hs]; exact Nat.le_refl _)
      exact ⟨(Array.getElem?_eq_some_iff.1 hg).1, ht, hf, by simp, by simp, by simp, by simp, hgrow⟩
  clear hown hgrow hi hz0 hz1 hz2 i0
  go_wp2
  go_loopw [4] (fun i wr => ∃ (k : Nat) (M : List (List Tr)), k ≤ n ∧ i = .int .i64 (k : Int) ∧ M.length = k ∧ Fill w wr w.heap.size n 4 L M kSession) (fun i _ => n - (intOf i).toNat)
  case atStart => exact ⟨0, [], Nat.zero_le _, rfl, rfl, HO.out⟩
  case round =>
    obtain ⟨k, M, hk, rfl, hM, hF⟩ := hrel
    have HF : Hid (M.length = k ∧ Fill w wr w.heap.size n 4 L M kSession) := ⟨hM, hF⟩
    clear hM hF HO
    by_cases hlt : k < n
    · obtain ⟨e, he⟩ : ∃ e, L[k]? = some e := ⟨_, List.getElem?_eq_getElem (by rw [HN.out]; exact hlt)⟩
      obtain ⟨hf, hrd, b, off, hab, hc⟩ := HR.out.1.grown0 HF.out.2.grown k e he
      have htot := HR.out.2
      obtain ⟨n0, n1, n2, d3, a3, p3, rfl⟩ := fitSession hf
      subst hab
      have c0 : wr.cell? ⟨b, off + k * 4, none⟩ = some (.int .i64 n0) := hc 0 _ rfl
      have c1 : wr.cell? ⟨b, off + k * 4 + 1, none⟩ = some (.int .i64 n1) := hc 1 _ rfl
      have c2 : wr.cell? ⟨b, off + k * 4 + 2, none⟩ = some (.int .i64 n2) := hc 2 _ rfl
      have c3 : wr.cell? ⟨b, off + k * 4 + 3, none⟩ = some (.slice a3 d3.length p3) := hc 3 _ rfl
      have HK : Hid (∀ X : World, wr.grownBy X none → Calls Tryd.prog 65 #[.agg #[.int .i64 n0, .int .i64 n1, .int .i64 n2, .slice a3 d3.length p3]] X fun e w' => ∃ (a3' : Option Addr) (p3' : Nat), e = .returned (.agg #[.int .i64 n0, .int .i64 n1, .int .i64 n2, .slice a3' d3.length p3']) ∧ Made w' X.heap.size (.byt d3 a3' p3') ∧ X.grownBy w' none) := fun X hs => toSession_any n0 n1 n2 d3 a3 p3 X ((hrd (.byt d3 a3 p3) (by simp)).isByt.grown0 hs) (by have h1 := tot_sub (y := .byt d3 a3 p3) (j := 3) he rfl; rw [tot_byt] at h1; omega)
      have R0 : Hid (I64 n0) := (hrd (.int n0) (by simp)).isInt
      have R1 : Hid (I64 n1) := (hrd (.int n1) (by simp)).isInt
      have R2 : Hid (I64 n2) := (hrd (.int n2) (by simp)).isInt
      have HE : Hid (L[k]? = some [.int n0, .int n1, .int n2, .byt d3 a3 p3]) := he
      clear hc hrd hf he htot
      have hkI : (k : Int) < (n : Int) := by omega
      go_wp2_with fail
      refine (HK.out _ (grownBy_refl _ _)).mono ?_
      rintro e w2 ⟨a3', p3', rfl, m3, hG2⟩
      have HS : Hid (Fill w (w2.setCells w.heap.size (k * 4) [.int .i64 n0, .int .i64 n1, .int .i64 n2, .slice a3' d3.length p3']) w.heap.size n 4 L (M ++ [[.int n0, .int n1, .int n2, .byt d3 a3' p3']]) kSession) := by
        obtain ⟨rfl, hF⟩ := HF.out
        refine hF.step (e' := [.int n0, .int n1, .int n2, .byt d3 a3' p3']) (Nat.le_refl _) rfl hG2 HE.out hlt ?_ ?_ ?_
        · exact ⟨rfl, fits_Session⟩
        · intro y hy
          simp only [List.mem_cons, List.not_mem_nil, or_false] at hy
          rcases hy with rfl | rfl | rfl | rfl
          · exact .int R0.out
          · exact .int R1.out
          · exact .int R2.out
          · exact m3.low (by have := hF.lt; omega)
        · simp only [List.map_cons, List.map_nil]
      have hth : w2.there w.heap.size (k * 4) 4 := by
        obtain ⟨rfl, hF⟩ := HF.out
        refine there_sub (n := n * 4) (fun j hj => ?_) (by have h9 := Nat.mul_le_mul_right 4 (show M.length + 1 ≤ n by omega); rw [Nat.succ_mul] at h9; exact h9)
        obtain ⟨h1, h2⟩ := hF.there j hj
        exact ⟨by rw [(bcell hG2).1 _ _ hF.lt]; exact h1, by rw [(bcell hG2).2 _ _ hF.lt]; exact h2⟩
      obtain ⟨u0, q0⟩ : ∃ u, w2.cell? ⟨w.heap.size, k * 4, none⟩ = some u := Option.isSome_iff_exists.1 (hth 0 (by omega)).1
      have f0 : w2.frozen? ⟨w.heap.size, k * 4, none⟩ = false := (hth 0 (by omega)).2
      obtain ⟨u1, q1⟩ : ∃ u, w2.cell? ⟨w.heap.size, k * 4 + 1, none⟩ = some u := Option.isSome_iff_exists.1 (hth 1 (by omega)).1
      have f1 : w2.frozen? ⟨w.heap.size, k * 4 + 1, none⟩ = false := (hth 1 (by omega)).2
      obtain ⟨u2, q2⟩ : ∃ u, w2.cell? ⟨w.heap.size, k * 4 + 2, none⟩ = some u := Option.isSome_iff_exists.1 (hth 2 (by omega)).1
      have f2 : w2.frozen? ⟨w.heap.size, k * 4 + 2, none⟩ = false := (hth 2 (by omega)).2
      obtain ⟨u3, q3⟩ : ∃ u, w2.cell? ⟨w.heap.size, k * 4 + 3, none⟩ = some u := Option.isSome_iff_exists.1 (hth 3 (by omega)).1
      have f3 : w2.frozen? ⟨w.heap.size, k * 4 + 3, none⟩ = false := (hth 3 (by omega)).2
      clear hth hG2 m3
      go_wp2
      go_roundw
      case rel => exact ⟨k + 1, M ++ [([.int n0, .int n1, .int n2, .byt d3 a3' p3'] : List Tr)], by omega, by go_num, by rw [List.length_append, HF.out.1]; rfl, by exact HS.out⟩
      case measure => simp [intOf]; omega
    · obtain rfl : k = n := by omega
      go_wp2
      go_ret
      have hA := HF.out.2.all (cp := k) rfl HF.out.1 HN.out hn
      refine ⟨M, some ⟨w.heap.size, 0, none⟩, k, by rw [HF.out.1]; rfl, hA, HF.out.2.grown⟩
end Go.Proofs.YtkjjglnbbahbkaaDoor
