/-
  The laws' to.. over the types of a report, walked: what comes is new, and tells the same.
-/
import Derived.Test.YtkjjglnbbahbkaaDoorShapes
import Derived.Test.YtkjjglnbbahbkaaDoorMadeT
import Derived.Test.YtkjjglnbbahbkaaDoorToT3
import Derived.Deep.DeepCutAuto
import Derived.Deep.CutRange
namespace Go.Proofs.YtkjjglnbbahbkaaDoor
open Go.RowKit

theorem fits_Obs {n0 : Int} {n1 : Int} {n2 : Int} {n3 : Int} {d4 : List Nat} {a4 : Option Addr} {p4 : Nat} {n5 : Int} {L6 : List (List Tr)} {a6 : Option Addr} {p6 : Nat} {L7 : List (List Tr)} {a7 : Option Addr} {p7 : Nat} {L8 : List (List Tr)} {a8 : Option Addr} {p8 : Nat} {L9 : List (List Tr)} {a9 : Option Addr} {p9 : Nat} {n10 : Int} {n11 : Int} {n12 : Int} {n13 : Int} {n14 : Int} {n15 : Int} {n16 : Int} {n17 : Int} (r6 : Fits (.row kItem.length a6 p6 L6) (.row kItem)) (r7 : Fits (.row kSession.length a7 p7 L7) (.row kSession)) (r8 : Fits (.row kAck.length a8 p8 L8) (.row kAck)) (r9 : Fits (.row kMessage.length a9 p9 L9) (.row kMessage)) : ∀ (j : Nat) (y : Tr) (k : Ki), [.int n0, .int n1, .int n2, .int n3, .byt d4 a4 p4, .int n5, .row kItem.length a6 p6 L6, .row kSession.length a7 p7 L7, .row kAck.length a8 p8 L8, .row kMessage.length a9 p9 L9, .int n10, .int n11, .int n12, .int n13, .int n14, .int n15, .int n16, .int n17][j]? = some y → kObs[j]? = some k → Fits y k := by
  intro j y k hj hk
  match j with
  | 0 => obtain rfl := Option.some.inj hj; obtain rfl := Option.some.inj hk; exact .int _
  | 1 => obtain rfl := Option.some.inj hj; obtain rfl := Option.some.inj hk; exact .int _
  | 2 => obtain rfl := Option.some.inj hj; obtain rfl := Option.some.inj hk; exact .int _
  | 3 => obtain rfl := Option.some.inj hj; obtain rfl := Option.some.inj hk; exact .int _
  | 4 => obtain rfl := Option.some.inj hj; obtain rfl := Option.some.inj hk; exact .byt _ _ _
  | 5 => obtain rfl := Option.some.inj hj; obtain rfl := Option.some.inj hk; exact .int _
  | 6 => obtain rfl := Option.some.inj hj; obtain rfl := Option.some.inj hk; exact r6
  | 7 => obtain rfl := Option.some.inj hj; obtain rfl := Option.some.inj hk; exact r7
  | 8 => obtain rfl := Option.some.inj hj; obtain rfl := Option.some.inj hk; exact r8
  | 9 => obtain rfl := Option.some.inj hj; obtain rfl := Option.some.inj hk; exact r9
  | 10 => obtain rfl := Option.some.inj hj; obtain rfl := Option.some.inj hk; exact .int _
  | 11 => obtain rfl := Option.some.inj hj; obtain rfl := Option.some.inj hk; exact .int _
  | 12 => obtain rfl := Option.some.inj hj; obtain rfl := Option.some.inj hk; exact .int _
  | 13 => obtain rfl := Option.some.inj hj; obtain rfl := Option.some.inj hk; exact .int _
  | 14 => obtain rfl := Option.some.inj hj; obtain rfl := Option.some.inj hk; exact .int _
  | 15 => obtain rfl := Option.some.inj hj; obtain rfl := Option.some.inj hk; exact .int _
  | 16 => obtain rfl := Option.some.inj hj; obtain rfl := Option.some.inj hk; exact .int _
  | 17 => obtain rfl := Option.some.inj hj; obtain rfl := Option.some.inj hk; exact .int _
  | j + 18 => cases hk
theorem Tryd.infoObs : (Tryd.prog.info? 50).map (fun i => (i.zero, i.size, i.bytes)) = some (some (.agg #[.int .i64 0, .int .i64 0, .int .i64 0, .int .i64 0, .slice none 0 0, .int .i64 0, .slice none 0 0, .slice none 0 0, .slice none 0 0, .slice none 0 0, .int .i64 0, .int .i64 0, .int .i64 0, .int .i64 0, .int .i64 0, .int .i64 0, .int .i64 0, .int .i64 0]), 18, 224) := by kernel_rfl
set_option maxRecDepth 8000 in
set_option maxHeartbeats 8000000 in
theorem toObsS_any (L : List (List Tr)) (a : Option Addr) (p : Nat) (w : World) (h : RowOk w kObs a L) (s : totR L ≤ 1048576) :
    Calls Tryd.prog 17 #[.slice a L.length p] w fun e w' => ∃ (L' : List (List Tr)) (a' : Option Addr) (p' : Nat), e = .returned (.slice a' L'.length p') ∧ (Made w' w.heap.size (.row kObs.length a' p' L') ∧ Fits (.row kObs.length a' p' L') (.row kObs) ∧ tellR L' = tellR L) ∧ w.grownBy w' none := by
  have hn : L.length ≤ 1048576 := Nat.le_trans (totR_len L) s
  have HR : Hid (RowOk w kObs a L ∧ totR L ≤ 1048576) := ⟨h, s⟩
  clear h s
  obtain ⟨n, hnn⟩ : ∃ n, L.length = n := ⟨_, rfl⟩
  have HN : Hid (L.length = n) := hnn
  rw [hnn] at hn ⊢
  clear hnn
  obtain ⟨i0, hi, hz0, hz1, hz2⟩ := info_parts Tryd.infoObs
  go_enter Tryd.func17, Tryd.ntmps17
  go_wp2_with (at_make; refine wpList_make_full _ rfl (.tmp 6) (.tmp 6) 28 rfl w.heap.size 50 i0 (.agg #[.int .i64 0, .int .i64 0, .int .i64 0, .int .i64 0, .slice none 0 0, .int .i64 0, .slice none 0 0, .slice none 0 0, .slice none 0 0, .slice none 0 0, .int .i64 0, .int .i64 0, .int .i64 0, .int .i64 0, .int .i64 0, .int .i64 0, .int .i64 0, .int .i64 0]) 18 Tryd.underlying28 hi hz0 hz1 .i64 .i64 n n n rfl rfl rfl rfl ?cb ?cm (Nat.le_refl _) ?_)
  case cb => rw [hz2]; omega
  case cm => unfold maxLen; omega
  intro w1 hown hgrow
  have HO : Hid (Fill w w1 w.heap.size n 18 L [] kObs) := by
    rcases hown.2 with ⟨h0, _⟩ | ⟨g, cap', cur, h0, hb, hg, hc, hm, hs, htake⟩
    · simp at h0
    · simp only [Value.slice.injEq, Option.some.injEq, Addr.mk.injEq, and_true] at h0
      obtain ⟨rfl, -, rfl⟩ := h0
      obtain ⟨ht, hf⟩ := there_of_block (n := n * 18) hg (by rw [hs]; exact Nat.le_refl _)
      exact ⟨(Array.getElem?_eq_some_iff.1 hg).1, ht, hf, by simp, by simp, by simp, by simp, hgrow⟩
  clear hown hgrow hi hz0 hz1 hz2 i0
  go_wp2
  go_loopw [4] (fun i wr => ∃ (k : Nat) (M : List (List Tr)), k ≤ n ∧ i = .int .i64 (k : Int) ∧ M.length = k ∧ Fill w wr w.heap.size n 18 L M kObs) (fun i _ => n - (intOf i).toNat)
  case atStart => exact ⟨0, [], Nat.zero_le _, rfl, rfl, HO.out⟩
  case round =>
    obtain ⟨k, M, hk, rfl, hM, hF⟩ := hrel
    have HF : Hid (M.length = k ∧ Fill w wr w.heap.size n 18 L M kObs) := ⟨hM, hF⟩
    clear hM hF HO
    by_cases hlt : k < n
    · obtain ⟨e, he⟩ : ∃ e, L[k]? = some e := ⟨_, List.getElem?_eq_getElem (by rw [HN.out]; exact hlt)⟩
      obtain ⟨hf, hrd, b, off, hab, hc⟩ := HR.out.1.grown0 HF.out.2.grown k e he
      have htot := HR.out.2
      obtain ⟨n0, n1, n2, n3, d4, a4, p4, n5, L6, a6, p6, L7, a7, p7, L8, a8, p8, L9, a9, p9, n10, n11, n12, n13, n14, n15, n16, n17, rfl⟩ := fitObs hf
      subst hab
      have hR : wr.rangeAt b (off + k * 18) [.int .i64 n0, .int .i64 n1, .int .i64 n2, .int .i64 n3, .slice a4 d4.length p4, .int .i64 n5, .slice a6 L6.length p6, .slice a7 L7.length p7, .slice a8 L8.length p8, .slice a9 L9.length p9, .int .i64 n10, .int .i64 n11, .int .i64 n12, .int .i64 n13, .int .i64 n14, .int .i64 n15, .int .i64 n16, .int .i64 n17] := range_el hc
      have HK : Hid (∀ X : World, wr.grownBy X none → Calls Tryd.prog 23 #[.agg #[.int .i64 n0, .int .i64 n1, .int .i64 n2, .int .i64 n3, .slice a4 d4.length p4, .int .i64 n5, .slice a6 L6.length p6, .slice a7 L7.length p7, .slice a8 L8.length p8, .slice a9 L9.length p9, .int .i64 n10, .int .i64 n11, .int .i64 n12, .int .i64 n13, .int .i64 n14, .int .i64 n15, .int .i64 n16, .int .i64 n17]] X fun e w' => ∃ (a4' : Option Addr) (p4' : Nat) (L6' : List (List Tr)) (a6' : Option Addr) (p6' : Nat) (L7' : List (List Tr)) (a7' : Option Addr) (p7' : Nat) (L8' : List (List Tr)) (a8' : Option Addr) (p8' : Nat) (L9' : List (List Tr)) (a9' : Option Addr) (p9' : Nat), e = .returned (.agg #[.int .i64 n0, .int .i64 n1, .int .i64 n2, .int .i64 n3, .slice a4' d4.length p4', .int .i64 n5, .slice a6' L6'.length p6', .slice a7' L7'.length p7', .slice a8' L8'.length p8', .slice a9' L9'.length p9', .int .i64 n10, .int .i64 n11, .int .i64 n12, .int .i64 n13, .int .i64 n14, .int .i64 n15, .int .i64 n16, .int .i64 n17]) ∧ Made w' X.heap.size (.byt d4 a4' p4') ∧ (Made w' X.heap.size (.row kItem.length a6' p6' L6') ∧ Fits (.row kItem.length a6' p6' L6') (.row kItem) ∧ tellR L6' = tellR L6) ∧ (Made w' X.heap.size (.row kSession.length a7' p7' L7') ∧ Fits (.row kSession.length a7' p7' L7') (.row kSession) ∧ tellR L7' = tellR L7) ∧ (Made w' X.heap.size (.row kAck.length a8' p8' L8') ∧ Fits (.row kAck.length a8' p8' L8') (.row kAck) ∧ tellR L8' = tellR L8) ∧ (Made w' X.heap.size (.row kMessage.length a9' p9' L9') ∧ Fits (.row kMessage.length a9' p9' L9') (.row kMessage) ∧ tellR L9' = tellR L9) ∧ X.grownBy w' none) := fun X hs => toObs_any n0 n1 n2 n3 d4 a4 p4 n5 L6 a6 p6 L7 a7 p7 L8 a8 p8 L9 a9 p9 n10 n11 n12 n13 n14 n15 n16 n17 X ((hrd (.byt d4 a4 p4) (by simp)).isByt.grown0 hs) (by have h1 := tot_sub (y := .byt d4 a4 p4) (j := 4) he rfl; rw [tot_byt] at h1; omega) (((hrd (.row kItem.length a6 p6 L6) (by simp)).rowOk ((hf.2 6 _ _ rfl rfl)) (by decide)).grown0 hs) (by have h1 := tot_sub (y := .row kItem.length a6 p6 L6) (j := 6) he rfl; rw [tot_row] at h1; omega) (((hrd (.row kSession.length a7 p7 L7) (by simp)).rowOk ((hf.2 7 _ _ rfl rfl)) (by decide)).grown0 hs) (by have h1 := tot_sub (y := .row kSession.length a7 p7 L7) (j := 7) he rfl; rw [tot_row] at h1; omega) (((hrd (.row kAck.length a8 p8 L8) (by simp)).rowOk ((hf.2 8 _ _ rfl rfl)) (by decide)).grown0 hs) (by have h1 := tot_sub (y := .row kAck.length a8 p8 L8) (j := 8) he rfl; rw [tot_row] at h1; omega) (((hrd (.row kMessage.length a9 p9 L9) (by simp)).rowOk ((hf.2 9 _ _ rfl rfl)) (by decide)).grown0 hs) (by have h1 := tot_sub (y := .row kMessage.length a9 p9 L9) (j := 9) he rfl; rw [tot_row] at h1; omega)
      have R0 : Hid (I64 n0) := (hrd (.int n0) (by simp)).isInt
      have R1 : Hid (I64 n1) := (hrd (.int n1) (by simp)).isInt
      have R2 : Hid (I64 n2) := (hrd (.int n2) (by simp)).isInt
      have R3 : Hid (I64 n3) := (hrd (.int n3) (by simp)).isInt
      have R5 : Hid (I64 n5) := (hrd (.int n5) (by simp)).isInt
      have R10 : Hid (I64 n10) := (hrd (.int n10) (by simp)).isInt
      have R11 : Hid (I64 n11) := (hrd (.int n11) (by simp)).isInt
      have R12 : Hid (I64 n12) := (hrd (.int n12) (by simp)).isInt
      have R13 : Hid (I64 n13) := (hrd (.int n13) (by simp)).isInt
      have R14 : Hid (I64 n14) := (hrd (.int n14) (by simp)).isInt
      have R15 : Hid (I64 n15) := (hrd (.int n15) (by simp)).isInt
      have R16 : Hid (I64 n16) := (hrd (.int n16) (by simp)).isInt
      have R17 : Hid (I64 n17) := (hrd (.int n17) (by simp)).isInt
      have HE : Hid (L[k]? = some [.int n0, .int n1, .int n2, .int n3, .byt d4 a4 p4, .int n5, .row kItem.length a6 p6 L6, .row kSession.length a7 p7 L7, .row kAck.length a8 p8 L8, .row kMessage.length a9 p9 L9, .int n10, .int n11, .int n12, .int n13, .int n14, .int n15, .int n16, .int n17]) := he
      clear hc hrd hf he htot
      have hkI : (k : Int) < (n : Int) := by omega
      go_wp2_with (refine wpList_load_mid (by rfl) 69 (.tmp 18) (by rfl) b (off + k * 18) (by rfl) [.int .i64 n0, .int .i64 n1, .int .i64 n2, .int .i64 n3, .slice a4 d4.length p4, .int .i64 n5, .slice a6 L6.length p6, .slice a7 L7.length p7, .slice a8 L8.length p8, .slice a9 L9.length p9, .int .i64 n10, .int .i64 n11, .int .i64 n12, .int .i64 n13, .int .i64 n14, .int .i64 n15, .int .i64 n16, .int .i64 n17] _ hR Tryd.underlying69 rfl (by kernel_rfl) ?_; simp only [Act.put, List.setIfInBounds_toArray, List.set_cons_zero, List.set_cons_succ])
      refine (HK.out _ (grownBy_refl _ _)).mono ?_
      rintro e w2 ⟨a4', p4', L6', a6', p6', L7', a7', p7', L8', a8', p8', L9', a9', p9', rfl, m4, m6, m7, m8, m9, hG2⟩
      have HS : Hid (Fill w (w2.setCells w.heap.size (k * 18) [.int .i64 n0, .int .i64 n1, .int .i64 n2, .int .i64 n3, .slice a4' d4.length p4', .int .i64 n5, .slice a6' L6'.length p6', .slice a7' L7'.length p7', .slice a8' L8'.length p8', .slice a9' L9'.length p9', .int .i64 n10, .int .i64 n11, .int .i64 n12, .int .i64 n13, .int .i64 n14, .int .i64 n15, .int .i64 n16, .int .i64 n17]) w.heap.size n 18 L (M ++ [[.int n0, .int n1, .int n2, .int n3, .byt d4 a4' p4', .int n5, .row kItem.length a6' p6' L6', .row kSession.length a7' p7' L7', .row kAck.length a8' p8' L8', .row kMessage.length a9' p9' L9', .int n10, .int n11, .int n12, .int n13, .int n14, .int n15, .int n16, .int n17]]) kObs) := by
        obtain ⟨rfl, hF⟩ := HF.out
        refine hF.step (e' := [.int n0, .int n1, .int n2, .int n3, .byt d4 a4' p4', .int n5, .row kItem.length a6' p6' L6', .row kSession.length a7' p7' L7', .row kAck.length a8' p8' L8', .row kMessage.length a9' p9' L9', .int n10, .int n11, .int n12, .int n13, .int n14, .int n15, .int n16, .int n17]) (Nat.le_refl _) rfl hG2 HE.out hlt ?_ ?_ ?_
        · exact ⟨rfl, fits_Obs m6.2.1 m7.2.1 m8.2.1 m9.2.1⟩
        · intro y hy
          simp only [List.mem_cons, List.not_mem_nil, or_false] at hy
          rcases hy with rfl | rfl | rfl | rfl | rfl | rfl | rfl | rfl | rfl | rfl | rfl | rfl | rfl | rfl | rfl | rfl | rfl | rfl
          · exact .int R0.out
          · exact .int R1.out
          · exact .int R2.out
          · exact .int R3.out
          · exact m4.low (by have := hF.lt; omega)
          · exact .int R5.out
          · exact m6.1.low (by have := hF.lt; omega)
          · exact m7.1.low (by have := hF.lt; omega)
          · exact m8.1.low (by have := hF.lt; omega)
          · exact m9.1.low (by have := hF.lt; omega)
          · exact .int R10.out
          · exact .int R11.out
          · exact .int R12.out
          · exact .int R13.out
          · exact .int R14.out
          · exact .int R15.out
          · exact .int R16.out
          · exact .int R17.out
        · simp only [List.map_cons, List.map_nil]
          rw [show (List.map (fun e => List.map Tr.tell e) L6') = List.map (fun e => List.map Tr.tell e) L6 from m6.2.2, show (List.map (fun e => List.map Tr.tell e) L7') = List.map (fun e => List.map Tr.tell e) L7 from m7.2.2, show (List.map (fun e => List.map Tr.tell e) L8') = List.map (fun e => List.map Tr.tell e) L8 from m8.2.2, show (List.map (fun e => List.map Tr.tell e) L9') = List.map (fun e => List.map Tr.tell e) L9 from m9.2.2]
      have hth : w2.there w.heap.size (k * 18) 18 := by
        obtain ⟨rfl, hF⟩ := HF.out
        refine there_sub (n := n * 18) (fun j hj => ?_) (by have h9 := Nat.mul_le_mul_right 18 (show M.length + 1 ≤ n by omega); rw [Nat.succ_mul] at h9; exact h9)
        obtain ⟨h1, h2⟩ := hF.there j hj
        exact ⟨by rw [(bcell hG2).1 _ _ hF.lt]; exact h1, by rw [(bcell hG2).2 _ _ hF.lt]; exact h2⟩
      clear hR hG2 m4 m6 m7 m8 m9
      go_upto_region 4 with (refine wpList_store_mid (by rfl) _ _ _ (by rfl) _ _ _ (by rfl) (by rfl) ?sa ?sb ?sc ?sd; exact hth; show _ = some 18; kernel_rfl; exact all_oneCell_toArray (List.all_eq_true.1 rfl); simp only [Act.put])
      generalize hW5 : w2.setCells w.heap.size (k * 18) [.int .i64 n0, .int .i64 n1, .int .i64 n2, .int .i64 n3, .slice a4' d4.length p4', .int .i64 n5, .slice a6' L6'.length p6', .slice a7' L7'.length p7', .slice a8' L8'.length p8', .slice a9' L9'.length p9', .int .i64 n10, .int .i64 n11, .int .i64 n12, .int .i64 n13, .int .i64 n14, .int .i64 n15, .int .i64 n16, .int .i64 n17] = W5 at HS ⊢
      clear hW5 hth
      go_wp2
      go_roundw
      case rel => exact ⟨k + 1, M ++ [([.int n0, .int n1, .int n2, .int n3, .byt d4 a4' p4', .int n5, .row kItem.length a6' p6' L6', .row kSession.length a7' p7' L7', .row kAck.length a8' p8' L8', .row kMessage.length a9' p9' L9', .int n10, .int n11, .int n12, .int n13, .int n14, .int n15, .int n16, .int n17] : List Tr)], by omega, by go_num, by rw [List.length_append, HF.out.1]; rfl, by exact HS.out⟩
      case measure => simp [intOf]; omega
    · obtain rfl : k = n := by omega
      go_wp2
      go_ret
      have hA := HF.out.2.all (cp := k) rfl HF.out.1 HN.out hn
      refine ⟨M, some ⟨w.heap.size, 0, none⟩, k, by rw [HF.out.1]; rfl, hA, HF.out.2.grown⟩
set_option maxRecDepth 8000 in
set_option maxHeartbeats 8000000 in
theorem toReport_any (n0 : Int) (L1 : List (List Tr)) (a1 : Option Addr) (p1 : Nat) (w : World) (h1 : RowOk w kObs a1 L1) (s1 : totR L1 ≤ 1048576) :
    Calls Tryd.prog 6 #[.agg #[.int .i64 n0, .slice a1 L1.length p1]] w fun e w' => ∃ (L1' : List (List Tr)) (a1' : Option Addr) (p1' : Nat), e = .returned (.agg #[.int .i64 n0, .slice a1' L1'.length p1']) ∧ (Made w' w.heap.size (.row kObs.length a1' p1' L1') ∧ Fits (.row kObs.length a1' p1' L1') (.row kObs) ∧ tellR L1' = tellR L1) ∧ w.grownBy w' none := by
  have C0 : Hid (∀ Y : World, w.grownBy Y none → Calls Tryd.prog 17 #[.slice a1 L1.length p1] Y fun e w' => ∃ (L1' : List (List Tr)) (a1' : Option Addr) (p1' : Nat), e = .returned (.slice a1' L1'.length p1') ∧ (Made w' Y.heap.size (.row kObs.length a1' p1' L1') ∧ Fits (.row kObs.length a1' p1' L1') (.row kObs) ∧ tellR L1' = tellR L1) ∧ Y.grownBy w' none) := fun Y hY => toObsS_any L1 a1 p1 Y (h1.grown0 hY) s1
  clear h1 s1
  go_enter Tryd.func6, Tryd.ntmps6
  go_wp2_with fail
  refine (C0.out _ (grownBy_alloc (grownBy_alloc (World.grownBy_alloc _ _ _) _) _)).mono ?_
  rintro e w1 ⟨L1', a1', p1', rfl, m1, hG⟩
  have h3 := heap3 w (.cells #[.int .i64 n0, .slice a1 L1.length p1] 24 (0, 0)) (.cells #[.int .i64 0, .slice none 0 0] 30 (0, 0)) (.cells #[.int .i64 n0, .slice none 0 0] 30 (0, 0))
  have B1 : Hid (w1.heap[w.heap.size]? = some (.cells #[.int .i64 n0, .slice a1 L1.length p1] 24 (0, 0)) ∧ w1.heap[w.heap.size + 1]? = some (.cells #[.int .i64 0, .slice none 0 0] 30 (0, 0)) ∧ w1.heap[w.heap.size + 1 + 1]? = some (.cells #[.int .i64 n0, .slice none 0 0] 30 (0, 0))) := ⟨grown_blk hG h3.1, grown_blk hG h3.2.1, grown_blk hG h3.2.2⟩
  have G1 : Hid (w.grownBy w1 none ∧ w.heap.size + 1 + 1 + 1 ≤ w1.heap.size) := ⟨grownBy_trans (grownBy_alloc (grownBy_alloc (World.grownBy_alloc _ _ _) _) _) hG, by have := hG.size; simpa using this⟩
  have M1 : Hid ((Made w1 (w.heap.size + 1 + 1 + 1) (.row kObs.length a1' p1' L1') ∧ Fits (.row kObs.length a1' p1' L1') (.row kObs) ∧ tellR L1' = tellR L1)) := ⟨m1.1.low (by simp), m1.2⟩
  clear hG h3 m1
  have hC : w1.cell? ⟨w.heap.size + 1 + 1, 1, none⟩ = some (.slice none 0 0) ∧ w1.frozen? ⟨w.heap.size + 1 + 1, 1, none⟩ = false := by
    obtain ⟨-, -, x2⟩ := B1.out
    simp [World.cell?, World.frozen?, x2]
  go_upto_region 4 with fail
  generalize hW : (w1).setCell ⟨w.heap.size + 1 + 1, 1, none⟩ (.slice a1' L1'.length p1') = W
  have BF : Hid (W.heap[w.heap.size + 1]? = some (.cells #[.int .i64 0, .slice none 0 0] 30 (0, 0)) ∧ W.heap[w.heap.size + 1 + 1]? = some (.cells #[.int .i64 n0, .slice a1' L1'.length p1'] 30 (0, 0)) ∧ w.grownBy W none ∧ (Made W (w.heap.size + 1 + 1 + 1) (.row kObs.length a1' p1' L1') ∧ Fits (.row kObs.length a1' p1' L1') (.row kObs) ∧ tellR L1' = tellR L1)) := by
    subst hW
    exact ⟨(set_oth 1 _ (by omega) B1.out.2.1), (set_blkL 1 _ B1.out.2.2), (grownBy_setNew G1.out.1 (Nat.le_trans (Nat.le_succ _) (Nat.le_succ _))), ⟨(M1.out.1).set1 (by omega), M1.out.2⟩⟩
  clear hW hC
  as_aux_lemma =>
    have hR : W.rangeAt (w.heap.size + 1 + 1) 0 [.int .i64 n0, .slice a1' L1'.length p1'] := by
      have h9 := World.rangeAt_of_block BF.out.2.1 0 2
      exact h9
    have hT : W.there (w.heap.size + 1) 0 2 := (there_of_block BF.out.1 (by simp)).1
    go_wp2_with (refine wpList_load_mid (by rfl) 30 (.tmp 3) (by rfl) (w.heap.size + 1 + 1) 0 (by rfl) [.int .i64 n0, .slice a1' L1'.length p1'] _ hR Tryd.underlying30 rfl (by kernel_rfl) ?_; simp only [Act.put, List.setIfInBounds_toArray, List.set_cons_zero, List.set_cons_succ]; refine wpList_store_mid (by rfl) _ _ _ (by rfl) _ _ _ (by rfl) (by rfl) ?sa ?sb ?sc ?sd; exact hT; show _ = some 2; kernel_rfl; exact all_oneCell_toArray (List.all_eq_true.1 rfl); simp only [Act.put])
    have hld : (loadVar 30 ⟨w.heap.size + 1, 0, none⟩).run Tryd.prog (W.setCells (w.heap.size + 1) 0 [.int .i64 n0, .slice a1' L1'.length p1']) = .ok (.agg #[.int .i64 n0, .slice a1' L1'.length p1']) (W.setCells (w.heap.size + 1) 0 [.int .i64 n0, .slice a1' L1'.length p1']) := run_loadVar_mid _ (w.heap.size + 1) 0 30 [.int .i64 n0, .slice a1' L1'.length p1'] _ (World.rangeAt_setCells_same _ _ _ _ hT) Tryd.underlying30 rfl (by kernel_rfl)
    refine bodyPost_ret (v := .agg #[.int .i64 n0, .slice a1' L1'.length p1']) ?_ rfl ⟨_, _, _, rfl, ⟨((BF.out.2.2.2.1).setCells (by omega)).low (by omega), BF.out.2.2.2.2⟩, (grownBy_setCellsN (Nat.le_succ _) _ _ _ BF.out.2.2.1)⟩
    exact results_ret rfl rfl hld
end Go.Proofs.YtkjjglnbbahbkaaDoor
