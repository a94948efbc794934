/-
  ImgW, ViewW2, ToW, FiW, ScanMath2, RecRow, TakeS
-/
import Derived.Test.YtjnegjgpkboocaaGreatDoorWal12
import Derived.Test.YtjnegjgpkboocaaGreatDoorWal4
import Derived.Test.YtjnegjgpkboocaaGreatDoorWal1
import Derived.BigQuiet
import Derived.Deep.QuietTactic
import Derived.Test.YtjnegjgpkboocaaGreatDoorWal3
import Derived.Deep.DeepCutAuto
import Derived.Deep.CutRange
import Derived.Test.YtjnegjgpkboocaaGreatDoorWal10
import Derived.Test.YtjnegjgpkboocaaGreatDoorWal7
/-
  validImage and L1Image, walked.
-/
namespace Go.Proofs.YtjnegjgpkboocaaGreatDoor
open Go.RowKit

/-- a file as data -/
def fD : List Td → ByteArray × List Nat
  | [x, y] => (x.s, y.d)
  | _ => (⟨#[]⟩, [])
def filesOf (L : List (List Tr)) : List (ByteArray × List Nat) := (tellR L).map fD
theorem filesOf_len (L : List (List Tr)) : (filesOf L).length = L.length := by simp [filesOf]
theorem filesOf_get {L : List (List Tr)} {i : Nat} {s : ByteArray} {d : List Nat} {a : Option Addr} {p : Nat} (h : L[i]? = some [.str s, .byt d a p]) : (filesOf L)[i]? = some (s, d) := by
  simp [filesOf, tellR, h, fD]
def nmAt (F : List (ByteArray × List Nat)) (i : Nat) : ByteArray := ((F[i]?).map Prod.fst).getD ⟨#[]⟩
def badAt (F : List (ByteArray × List Nat)) (i : Nat) : Bool :=
  match F[i]? with
  | some (s, d) => !(goodN s) || (decide (0 < i) && !(Op.bytesLess (nmAt F (i - 1)).toList s.toList)) || decide (65536 < d.length)
  | none => false
def sumTo (F : List (ByteArray × List Nat)) : Nat → Nat
  | 0 => 0
  | k + 1 => sumTo F k + ((F[k]?).map (fun x => x.2.length)).getD 0
def okImg (F : List (ByteArray × List Nat)) : Bool := decide (F.length ≤ 512) && decide (∀ i, i < F.length → badAt F i = false) && decide (sumTo F F.length ≤ 262144)
theorem badAt_eq {F : List (ByteArray × List Nat)} {i : Nat} {s : ByteArray} {d : List Nat} (h : F[i]? = some (s, d)) : badAt F i = (!(goodN s) || (decide (0 < i) && !(Op.bytesLess (nmAt F (i - 1)).toList s.toList)) || decide (65536 < d.length)) := by
  simp [badAt, h]
theorem okImg_bad {F : List (ByteArray × List Nat)} {i : Nat} (hi : i < F.length) (h : badAt F i = true) : okImg F = false := by
  have h1 : ¬ ∀ i, i < F.length → badAt F i = false := fun hc => by rw [hc i hi] at h; cases h
  simp only [okImg, decide_eq_false h1, Bool.and_false, Bool.false_and]
theorem sumTo_le {F : List (ByteArray × List Nat)} {k : Nat} (h : ∀ i, i < k → badAt F i = false) : sumTo F k ≤ 65536 * k := by
  induction k with
  | zero => simp [sumTo]
  | succ k ih =>
    have h1 := ih (fun i hi => h i (by omega)); have h2 := h k (by omega); rw [sumTo]
    cases hF : F[k]? with
    | none => simp; omega
    | some x =>
      obtain ⟨s, d⟩ := x; rw [badAt_eq hF] at h2; simp only [Bool.or_eq_false_iff, decide_eq_false_iff_not] at h2
      simp
      omega
set_option maxRecDepth 4000 in
set_option maxHeartbeats 4000000 in
theorem validImage_any (L : List (List Tr)) (a : Option Addr) (p : Nat) (w : World) (h : RowOk w kFile a L) (ht : totR L ≤ 1048576) :
    Calls Tryz.prog 17 #[.slice a L.length p] w fun e w' => e = .returned (.bool (okImg (filesOf L))) ∧ w.grownBy w' none := by
  have hnt := totR_len L; obtain ⟨n, hn⟩ : ∃ n, L.length = n := ⟨_, rfl⟩; have HO : Hid (RowOk w kFile a L ∧ totR L ≤ 1048576 ∧ L.length = n ∧ (filesOf L).length = n) := ⟨h, ht, hn, by rw [filesOf_len]; exact hn⟩; rw [hn] at hnt ⊢
  have hnb : n ≤ 1048576 := by omega
  clear h ht hn hnt
  by_cases h5 : 512 < n
  · have e5 : (512 : Int) < (n : Int) := by omega
    have HB : Hid (okImg (filesOf L) = false) := by
      show _ = _
      rw [okImg, decide_eq_false (by rw [HO.out.2.2.2]; omega)]
      rfl
    go_enter Tryz.func17, Tryz.ntmps17
    go_wp2; go_ret; exact ⟨by rw [HB.out]; rfl, grownBy_refl _ _⟩
  · have e5 : ¬ (512 : Int) < (n : Int) := by omega
    go_enter Tryz.func17, Tryz.ntmps17
    go_wp2
    go_loopw [3, 11] (fun u i wr => ∃ k s : Nat, k ≤ n ∧ i = .int .i64 (k : Int) ∧ u = .int .i64 (s : Int) ∧ s = sumTo (filesOf L) k ∧ (∀ i, i < k → badAt (filesOf L) i = false) ∧ w.grownBy wr none) (fun _ i _ => n - (intOf i).toNat)
    case atStart => exact ⟨0, 0, Nat.zero_le _, rfl, rfl, rfl, fun i hi => absurd hi (by omega), grownBy_refl _ _⟩
    case round =>
      obtain ⟨k, s, hk, rfl, rfl, hs, hb, hGr⟩ := hrel; have HR : Hid (s = sumTo (filesOf L) k ∧ (∀ i, i < k → badAt (filesOf L) i = false) ∧ w.grownBy wr none) := ⟨hs, hb, hGr⟩
      have hsb : s ≤ 65536 * 512 := by rw [hs]; have := sumTo_le hb; omega
      clear hs hb hGr
      by_cases hlt : k < n
      · obtain ⟨e, he⟩ : ∃ e, L[k]? = some e := ⟨_, List.getElem?_eq_getElem (by rw [HO.out.2.2.1]; exact hlt)⟩; have hRk := HO.out.1.grown0 HR.out.2.2; obtain ⟨hf, hrd, b, off, hab, hc⟩ := hRk k e he; obtain ⟨t0, d1, a1, p1, rfl⟩ := fitFile hf; subst hab; have q0 : wr.cell? ⟨b, off + k * 2, none⟩ = some (.string t0) := hc 0 _ rfl; have q1 : wr.cell? ⟨b, off + k * 2 + 1, none⟩ = some (.slice a1 d1.length p1) := hc 1 _ rfl
        have hts : t0.size ≤ 1048576 := by have h1 := tot_sub (y := .str t0) (j := 0) he rfl; rw [tot_str] at h1; have := HO.out.2.1; omega
        have hdl : d1.length ≤ 1048576 := by have h1 := tot_sub (y := .byt d1 a1 p1) (j := 1) he rfl; rw [tot_byt] at h1; have := HO.out.2.1; omega
        have HF : Hid ((filesOf L)[k]? = some (t0, d1)) := filesOf_get he
        have HP : Hid (∀ j, k = j + 1 → ∃ s' : ByteArray, wr.cell? ⟨b, off + j * 2, none⟩ = some (.string s') ∧ nmAt (filesOf L) j = s') := fun j hj => by
          obtain ⟨e', he'⟩ : ∃ e, L[j]? = some e := ⟨_, List.getElem?_eq_getElem (by rw [HO.out.2.2.1]; omega)⟩; obtain ⟨hf', -, b', off', hab', hc'⟩ := hRk j e' he'; obtain ⟨t0', d1', a1', p1', rfl⟩ := fitFile hf'; simp only [Option.some.injEq, Addr.mk.injEq, and_true] at hab'; obtain ⟨rfl, rfl⟩ := hab'; exact ⟨t0', hc' 0 _ rfl, by rw [nmAt, filesOf_get he']; rfl⟩
        clear hc hf hrd he hRk; obtain ⟨g, hg⟩ : ∃ g, goodN t0 = g := ⟨_, rfl⟩
        have HG : Hid (∀ X : World, Calls Tryz.prog 36 #[.string t0] X fun e w' => e = .returned (.bool g) ∧ w' = X) := fun X => by rw [← hg]; exact goodName_any t0 X hts
        obtain ⟨bad, hbad⟩ : ∃ bad, badAt (filesOf L) k = bad := ⟨_, rfl⟩; have hbe := badAt_eq HF.out; rw [hbad, hg] at hbe; have HB : Hid (badAt (filesOf L) k = bad) := hbad; obtain ⟨dl, hdle⟩ : ∃ dl, d1.length = dl := ⟨_, rfl⟩; have HDL : Hid (d1.length = dl) := hdle; rw [hdle] at q1 hdl hbe; clear hg hbad hdle hts
        have hkI : (k : Int) < (n : Int) := by omega
        go_upto_region 7 with fail
        generalize hX : wr.alloc (.cells #[.string t0, .slice a1 dl p1] 48) = X
        have hXb : X.heap[wr.heap.size]? = some (.cells #[.string t0, .slice a1 dl p1] 48 (0, 0)) := by subst hX; exact heap_alloc_new wr _
        have HX : Hid (w.grownBy X none) := by subst hX; exact grownBy_alloc HR.out.2.2 _
        have c0 : X.cell? ⟨wr.heap.size, 0, none⟩ = some (.string t0) := (cell_of_row X _ _ _ _ _ hXb).trans rfl; have c1 : X.cell? ⟨wr.heap.size, 1, none⟩ = some (.slice a1 dl p1) := (cell_of_row X _ _ _ _ _ hXb).trans rfl
        have HPX : Hid (∀ j, k = j + 1 → ∃ s' : ByteArray, X.cell? ⟨b, off + j * 2, none⟩ = some (.string s') ∧ nmAt (filesOf L) j = s') := fun j hj => by
          obtain ⟨s', h1, h2⟩ := HP.out j hj; subst hX; exact ⟨s', ((bcell (World.grownBy_alloc wr _ none)).1 _ _ (cell_block_lt h1)).trans h1, h2⟩
        clear hX HP q0 q1
        go_cut [40] (fun t wx => t = .bool bad ∧ SameT X wx)
        case first =>
          cases g with
          | false =>
            obtain rfl : true = bad := by rw [hbe]; rfl
            clear hbe
            go_quiet (first | (go_at_call 36; refine Calls.quiet_of_same (HG.out _)) | fail)
            go_wp2_with fail; go_meet
            case rel => exact ⟨by first | rfl | simp, ⟨rfl, rfl, rfl, rfl⟩⟩
          | true =>
            by_cases hk0 : k = 0
            · subst hk0
              by_cases hl : 65536 < dl
              · have hlI : (65536 : Int) < (dl : Int) := by omega
                obtain rfl : true = bad := by rw [hbe]; simp [hl]
                clear hbe
                go_quiet (first | (go_at_call 36; refine Calls.quiet_of_same (HG.out _)) | fail)
                go_wp2_with fail; go_meet
                case rel => exact ⟨by first | rfl | simp, ⟨rfl, rfl, rfl, rfl⟩⟩
              · have hlI : ¬ (65536 : Int) < (dl : Int) := by omega
                obtain rfl : false = bad := by rw [hbe]; simp [hl]
                clear hbe
                go_quiet (first | (go_at_call 36; refine Calls.quiet_of_same (HG.out _)) | fail)
                go_wp2_with fail; go_meet
                case rel => exact ⟨by first | rfl | simp, ⟨rfl, rfl, rfl, rfl⟩⟩
            · obtain ⟨j, rfl⟩ : ∃ j, k = j + 1 := ⟨k - 1, by omega⟩; obtain ⟨s', cj, hs'⟩ := HPX.out j rfl; rw [show j + 1 - 1 = j by omega, hs'] at hbe
              have hjI : (0 : Int) < ((j + 1 : Nat) : Int) := by omega
              have hjn : (j : Int) < (n : Int) := by omega
              cases hls : Op.bytesLess s'.toList t0.toList with
              | false =>
                obtain rfl : true = bad := by rw [hbe, hls]; simp
                clear hbe
                by_cases hl : 65536 < dl
                · have hlI : (65536 : Int) < (dl : Int) := by omega
                  go_quiet (first | (go_at_call 36; refine Calls.quiet_of_same (HG.out _)) | fail)
                  go_wp2_with fail; go_meet
                  case rel => exact ⟨by first | rfl | simp, ⟨rfl, rfl, rfl, rfl⟩⟩
                · have hlI : ¬ (65536 : Int) < (dl : Int) := by omega
                  go_quiet (first | (go_at_call 36; refine Calls.quiet_of_same (HG.out _)) | fail)
                  go_wp2_with fail; go_meet
                  case rel => exact ⟨by first | rfl | simp, ⟨rfl, rfl, rfl, rfl⟩⟩
              | true =>
                by_cases hl : 65536 < dl
                · have hlI : (65536 : Int) < (dl : Int) := by omega
                  obtain rfl : true = bad := by rw [hbe, hls]; simp [hl]
                  clear hbe
                  go_quiet (first | (go_at_call 36; refine Calls.quiet_of_same (HG.out _)) | fail)
                  go_wp2_with fail; go_meet
                  case rel => exact ⟨by first | rfl | simp, ⟨rfl, rfl, rfl, rfl⟩⟩
                · have hlI : ¬ (65536 : Int) < (dl : Int) := by omega
                  obtain rfl : false = bad := by rw [hbe, hls]; simp [hl]
                  clear hbe
                  go_quiet (first | (go_at_call 36; refine Calls.quiet_of_same (HG.out _)) | fail)
                  go_wp2_with fail; go_meet
                  case rel => exact ⟨by first | rfl | simp, ⟨rfl, rfl, rfl, rfl⟩⟩
        case rest =>
          obtain ⟨rfl, hS⟩ := hcut; have HS : Hid (w.grownBy wc none) := grownBy_trans HX.out hS.grown; have d1' : wc.cell? ⟨wr.heap.size, 1, none⟩ = some (.slice a1 dl p1) := (World.cell?_of_block (by rw [hS.1])).trans c1; clear hS c0 c1 hXb HPX
          cases bad with
          | true =>
            have HQ : Hid (okImg (filesOf L) = false) := okImg_bad (i := k) (by rw [HO.out.2.2.2]; exact hlt) HB.out; clear hbe; go_wp2; go_ret; exact ⟨by rw [HQ.out]; rfl, HS.out⟩
          | false =>
            clear hbe; go_wp2; go_roundw
            case rel => exact ⟨k + 1, s + dl, by omega, by go_num, by go_num, by rw [sumTo, HF.out, HR.out.1, ← HDL.out]; rfl, fun i hi => by
              by_cases hik : i = k
              · rw [hik]; exact HB.out
              · exact HR.out.2.1 i (by omega), HS.out⟩
            case measure => simp [intOf]; omega
      · obtain rfl : k = n := by omega
        have HQ : Hid (okImg (filesOf L) = decide (s ≤ 262144)) := by
          show _ = _
          rw [okImg, decide_eq_true (show (filesOf L).length ≤ 512 by rw [HO.out.2.2.2]; omega), decide_eq_true (by rw [HO.out.2.2.2]; exact HR.out.2.1), HO.out.2.2.2, ← HR.out.1]
          rfl
        by_cases hs2 : s ≤ 262144
        · have hsI : (s : Int) ≤ 262144 := by omega
          go_wp2; go_ret; exact ⟨by rw [HQ.out, decide_eq_true hs2]; rfl, HR.out.2.2⟩
        · have hsI : ¬ (s : Int) ≤ 262144 := by omega
          go_wp2; go_ret; exact ⟨by rw [HQ.out, decide_eq_false hs2]; rfl, HR.out.2.2⟩
set_option maxRecDepth 4000 in
set_option maxHeartbeats 4000000 in
theorem L1Image_any (L : List (List Tr)) (a : Option Addr) (p : Nat) (w : World) (h : RowOk w kFile a L) (ht : totR L ≤ 1048576) :
    Calls Tryz.prog 14 #[.slice a L.length p] w fun e w' => e = .returned (.bool (okImg (filesOf L))) ∧ w.grownBy w' none := by
  have hnt := totR_len L; obtain ⟨n, hn⟩ : ∃ n, L.length = n := ⟨_, rfl⟩; have HO : Hid (RowOk w kFile a L ∧ totR L ≤ 1048576 ∧ L.length = n ∧ (filesOf L).length = n) := ⟨h, ht, hn, by rw [filesOf_len]; exact hn⟩; rw [hn] at hnt ⊢
  have hnb : n ≤ 1048576 := by omega
  clear h ht hn hnt
  by_cases h5 : 512 < n
  · have e5 : (512 : Int) < (n : Int) := by omega
    have HB : Hid (okImg (filesOf L) = false) := by
      show _ = _
      rw [okImg, decide_eq_false (by rw [HO.out.2.2.2]; omega)]
      rfl
    go_enter Tryz.func14, Tryz.ntmps14
    go_wp2; go_ret; exact ⟨by rw [HB.out]; rfl, grownBy_refl _ _⟩
  · have e5 : ¬ (512 : Int) < (n : Int) := by omega
    go_enter Tryz.func14, Tryz.ntmps14
    go_wp2
    go_loopw [3, 11] (fun u i wr => ∃ k s : Nat, k ≤ n ∧ i = .int .i64 (k : Int) ∧ u = .int .i64 (s : Int) ∧ s = sumTo (filesOf L) k ∧ (∀ i, i < k → badAt (filesOf L) i = false) ∧ w.grownBy wr none) (fun _ i _ => n - (intOf i).toNat)
    case atStart => exact ⟨0, 0, Nat.zero_le _, rfl, rfl, rfl, fun i hi => absurd hi (by omega), grownBy_refl _ _⟩
    case round =>
      obtain ⟨k, s, hk, rfl, rfl, hs, hb, hGr⟩ := hrel; have HR : Hid (s = sumTo (filesOf L) k ∧ (∀ i, i < k → badAt (filesOf L) i = false) ∧ w.grownBy wr none) := ⟨hs, hb, hGr⟩
      have hsb : s ≤ 65536 * 512 := by rw [hs]; have := sumTo_le hb; omega
      clear hs hb hGr
      by_cases hlt : k < n
      · obtain ⟨e, he⟩ : ∃ e, L[k]? = some e := ⟨_, List.getElem?_eq_getElem (by rw [HO.out.2.2.1]; exact hlt)⟩; have hRk := HO.out.1.grown0 HR.out.2.2; obtain ⟨hf, hrd, b, off, hab, hc⟩ := hRk k e he; obtain ⟨t0, d1, a1, p1, rfl⟩ := fitFile hf; subst hab; have q0 : wr.cell? ⟨b, off + k * 2, none⟩ = some (.string t0) := hc 0 _ rfl; have q1 : wr.cell? ⟨b, off + k * 2 + 1, none⟩ = some (.slice a1 d1.length p1) := hc 1 _ rfl
        have hts : t0.size ≤ 1048576 := by have h1 := tot_sub (y := .str t0) (j := 0) he rfl; rw [tot_str] at h1; have := HO.out.2.1; omega
        have hdl : d1.length ≤ 1048576 := by have h1 := tot_sub (y := .byt d1 a1 p1) (j := 1) he rfl; rw [tot_byt] at h1; have := HO.out.2.1; omega
        have HF : Hid ((filesOf L)[k]? = some (t0, d1)) := filesOf_get he
        have HP : Hid (∀ j, k = j + 1 → ∃ s' : ByteArray, wr.cell? ⟨b, off + j * 2, none⟩ = some (.string s') ∧ nmAt (filesOf L) j = s') := fun j hj => by
          obtain ⟨e', he'⟩ : ∃ e, L[j]? = some e := ⟨_, List.getElem?_eq_getElem (by rw [HO.out.2.2.1]; omega)⟩; obtain ⟨hf', -, b', off', hab', hc'⟩ := hRk j e' he'; obtain ⟨t0', d1', a1', p1', rfl⟩ := fitFile hf'; simp only [Option.some.injEq, Addr.mk.injEq, and_true] at hab'; obtain ⟨rfl, rfl⟩ := hab'; exact ⟨t0', hc' 0 _ rfl, by rw [nmAt, filesOf_get he']; rfl⟩
        clear hc hf hrd he hRk; obtain ⟨g, hg⟩ : ∃ g, goodN t0 = g := ⟨_, rfl⟩
        have HG : Hid (∀ X : World, Calls Tryz.prog 30 #[.string t0] X fun e w' => e = .returned (.bool g) ∧ w' = X) := fun X => by rw [← hg]; exact L1Good_any t0 X hts
        obtain ⟨bad, hbad⟩ : ∃ bad, badAt (filesOf L) k = bad := ⟨_, rfl⟩; have hbe := badAt_eq HF.out; rw [hbad, hg] at hbe; have HB : Hid (badAt (filesOf L) k = bad) := hbad; obtain ⟨dl, hdle⟩ : ∃ dl, d1.length = dl := ⟨_, rfl⟩; have HDL : Hid (d1.length = dl) := hdle; rw [hdle] at q1 hdl hbe; clear hg hbad hdle hts
        have hkI : (k : Int) < (n : Int) := by omega
        go_upto_region 7 with fail
        generalize hX : wr.alloc (.cells #[.string t0, .slice a1 dl p1] 48) = X
        have hXb : X.heap[wr.heap.size]? = some (.cells #[.string t0, .slice a1 dl p1] 48 (0, 0)) := by subst hX; exact heap_alloc_new wr _
        have HX : Hid (w.grownBy X none) := by subst hX; exact grownBy_alloc HR.out.2.2 _
        have c0 : X.cell? ⟨wr.heap.size, 0, none⟩ = some (.string t0) := (cell_of_row X _ _ _ _ _ hXb).trans rfl; have c1 : X.cell? ⟨wr.heap.size, 1, none⟩ = some (.slice a1 dl p1) := (cell_of_row X _ _ _ _ _ hXb).trans rfl
        have HPX : Hid (∀ j, k = j + 1 → ∃ s' : ByteArray, X.cell? ⟨b, off + j * 2, none⟩ = some (.string s') ∧ nmAt (filesOf L) j = s') := fun j hj => by
          obtain ⟨s', h1, h2⟩ := HP.out j hj; subst hX; exact ⟨s', ((bcell (World.grownBy_alloc wr _ none)).1 _ _ (cell_block_lt h1)).trans h1, h2⟩
        clear hX HP q0 q1
        go_cut [40] (fun t wx => t = .bool bad ∧ SameT X wx)
        case first =>
          cases g with
          | false =>
            obtain rfl : true = bad := by rw [hbe]; rfl
            clear hbe
            go_quiet (first | (go_at_call 30; refine Calls.quiet_of_same (HG.out _)) | fail)
            go_wp2_with fail; go_meet
            case rel => exact ⟨by first | rfl | simp, ⟨rfl, rfl, rfl, rfl⟩⟩
          | true =>
            by_cases hk0 : k = 0
            · subst hk0
              by_cases hl : 65536 < dl
              · have hlI : (65536 : Int) < (dl : Int) := by omega
                obtain rfl : true = bad := by rw [hbe]; simp [hl]
                clear hbe
                go_quiet (first | (go_at_call 30; refine Calls.quiet_of_same (HG.out _)) | fail)
                go_wp2_with fail; go_meet
                case rel => exact ⟨by first | rfl | simp, ⟨rfl, rfl, rfl, rfl⟩⟩
              · have hlI : ¬ (65536 : Int) < (dl : Int) := by omega
                obtain rfl : false = bad := by rw [hbe]; simp [hl]
                clear hbe
                go_quiet (first | (go_at_call 30; refine Calls.quiet_of_same (HG.out _)) | fail)
                go_wp2_with fail; go_meet
                case rel => exact ⟨by first | rfl | simp, ⟨rfl, rfl, rfl, rfl⟩⟩
            · obtain ⟨j, rfl⟩ : ∃ j, k = j + 1 := ⟨k - 1, by omega⟩; obtain ⟨s', cj, hs'⟩ := HPX.out j rfl; rw [show j + 1 - 1 = j by omega, hs'] at hbe
              have hjI : (0 : Int) < ((j + 1 : Nat) : Int) := by omega
              have hjn : (j : Int) < (n : Int) := by omega
              cases hls : Op.bytesLess s'.toList t0.toList with
              | false =>
                obtain rfl : true = bad := by rw [hbe, hls]; simp
                clear hbe
                by_cases hl : 65536 < dl
                · have hlI : (65536 : Int) < (dl : Int) := by omega
                  go_quiet (first | (go_at_call 30; refine Calls.quiet_of_same (HG.out _)) | fail)
                  go_wp2_with fail; go_meet
                  case rel => exact ⟨by first | rfl | simp, ⟨rfl, rfl, rfl, rfl⟩⟩
                · have hlI : ¬ (65536 : Int) < (dl : Int) := by omega
                  go_quiet (first | (go_at_call 30; refine Calls.quiet_of_same (HG.out _)) | fail)
                  go_wp2_with fail; go_meet
                  case rel => exact ⟨by first | rfl | simp, ⟨rfl, rfl, rfl, rfl⟩⟩
              | true =>
                by_cases hl : 65536 < dl
                · have hlI : (65536 : Int) < (dl : Int) := by omega
                  obtain rfl : true = bad := by rw [hbe, hls]; simp [hl]
                  clear hbe
                  go_quiet (first | (go_at_call 30; refine Calls.quiet_of_same (HG.out _)) | fail)
                  go_wp2_with fail; go_meet
                  case rel => exact ⟨by first | rfl | simp, ⟨rfl, rfl, rfl, rfl⟩⟩
                · have hlI : ¬ (65536 : Int) < (dl : Int) := by omega
                  obtain rfl : false = bad := by rw [hbe, hls]; simp [hl]
                  clear hbe
                  go_quiet (first | (go_at_call 30; refine Calls.quiet_of_same (HG.out _)) | fail)
                  go_wp2_with fail; go_meet
                  case rel => exact ⟨by first | rfl | simp, ⟨rfl, rfl, rfl, rfl⟩⟩
        case rest =>
          obtain ⟨rfl, hS⟩ := hcut; have HS : Hid (w.grownBy wc none) := grownBy_trans HX.out hS.grown; have d1' : wc.cell? ⟨wr.heap.size, 1, none⟩ = some (.slice a1 dl p1) := (World.cell?_of_block (by rw [hS.1])).trans c1; clear hS c0 c1 hXb HPX
          cases bad with
          | true =>
            have HQ : Hid (okImg (filesOf L) = false) := okImg_bad (i := k) (by rw [HO.out.2.2.2]; exact hlt) HB.out; clear hbe; go_wp2; go_ret; exact ⟨by rw [HQ.out]; rfl, HS.out⟩
          | false =>
            clear hbe; go_wp2; go_roundw
            case rel => exact ⟨k + 1, s + dl, by omega, by go_num, by go_num, by rw [sumTo, HF.out, HR.out.1, ← HDL.out]; rfl, fun i hi => by
              by_cases hik : i = k
              · rw [hik]; exact HB.out
              · exact HR.out.2.1 i (by omega), HS.out⟩
            case measure => simp [intOf]; omega
      · obtain rfl : k = n := by omega
        have HQ : Hid (okImg (filesOf L) = decide (s ≤ 262144)) := by
          show _ = _
          rw [okImg, decide_eq_true (show (filesOf L).length ≤ 512 by rw [HO.out.2.2.2]; omega), decide_eq_true (by rw [HO.out.2.2.2]; exact HR.out.2.1), HO.out.2.2.2, ← HR.out.1]
          rfl
        by_cases hs2 : s ≤ 262144
        · have hsI : (s : Int) ≤ 262144 := by omega
          go_wp2; go_ret; exact ⟨by rw [HQ.out, decide_eq_true hs2]; rfl, HR.out.2.2⟩
        · have hsI : ¬ (s : Int) ≤ 262144 := by omega
          go_wp2; go_ret; exact ⟨by rw [HQ.out, decide_eq_false hs2]; rfl, HR.out.2.2⟩
theorem markEntryS_nil (m : Nat) (cap : Nat) (w : World) :
    Calls Tryz.prog 25 #[.slice none 0 cap, .int .i64 (m : Int)] w fun e w' => e = .returned (.int .i64 (m : Int)) ∧ w' = w := by
  go_enter Tryz.func25, Tryz.ntmps25
  go_wp2
  go_loop [1, 5] (fun v i => i = .int .i64 0 ∧ v = .int .i64 (m : Int)) (fun _ _ => 0)
  case atStart => exact ⟨rfl, rfl⟩
  case round =>
    obtain ⟨rfl, rfl⟩ := hrel; go_wp2; go_ret; exact ⟨rfl, rfl⟩
theorem heldEntryS_nil (m : Nat) (cap : Nat) (w : World) :
    Calls Tryz.prog 27 #[.slice none 0 cap, .int .i64 (m : Int)] w fun e w' => e = .returned (.int .i64 (m : Int)) ∧ w' = w := by
  go_enter Tryz.func27, Tryz.ntmps27
  go_wp2
  go_loop [1, 5] (fun v i => i = .int .i64 0 ∧ v = .int .i64 (m : Int)) (fun _ _ => 0)
  case atStart => exact ⟨rfl, rfl⟩
  case round =>
    obtain ⟨rfl, rfl⟩ := hrel; go_wp2; go_ret; exact ⟨rfl, rfl⟩
/-- a block of the answer -/
def Wv.blk (v : Wv) (k : Nat) : Prop := (∃ a, v.ea = some a ∧ a.block = k) ∨ k ∈ v.E.map En.g ∨ (∃ a, v.sa = some a ∧ a.block = k)
def Wv.marked (v : Wv) (m : Nat) : Wv := { v with E := mkE v.E m v.E.length, zs := mkI v.zs (finE v.E m v.E.length) v.zs.length }
def Wv.fin (v : Wv) (m : Nat) : Nat := finE v.E m v.E.length + v.zs.length
theorem markEnS (v : Wv) (m : Nat) (w : World) (h : EnS w v.ea v.E.length v.E) (hm : finE v.E m v.E.length ≤ 1073741824) :
    Calls Tryz.prog 25 #[.slice v.ea v.E.length v.ec, .int .i64 (m : Int)] w fun e w' => e = .returned (.int .i64 ((finE v.E m v.E.length : Nat) : Int)) ∧ EnS w' v.ea v.E.length (mkE v.E m v.E.length) ∧ OnlyW (fun k => (∃ a, v.ea = some a ∧ a.block = k) ∨ k ∈ v.E.map En.g) w w' := by
  obtain ⟨-, ⟨h1, h2⟩ | ⟨G, h1, h2⟩⟩ := h
  · rw [h1, h2]; refine (markEntryS_nil m v.ec w).mono ?_; rintro e w' ⟨rfl, rfl⟩; exact ⟨rfl, ⟨rfl, .inl ⟨rfl, rfl⟩⟩, OnlyW.refl _ _⟩
  · rw [h1]; refine (markEntryS_own G v.ec m v.E w h2 hm).mono ?_; rintro e w' ⟨rfl, hR, hO⟩; refine ⟨rfl, ⟨mkE_len _ _ _, .inr ⟨G, rfl, hR⟩⟩, ⟨hO.os, hO.tape, hO.output, hO.size, fun k hk hT => hO.block k hk (fun hc => hT ?_)⟩⟩
    rcases hc with rfl | hc
    · exact .inl ⟨_, rfl, rfl⟩
    · exact .inr hc
theorem markInS (v : Wv) (m : Nat) (w : World) (h : InS w v.sa v.zs.length v.zs) (hm : m + v.zs.length ≤ 1073741824) :
    Calls Tryz.prog 26 #[.slice v.sa v.zs.length v.sc, .int .i64 (m : Int)] w fun e w' => e = .returned (.int .i64 ((m + v.zs.length : Nat) : Int)) ∧ InS w' v.sa v.zs.length (mkI v.zs m v.zs.length) ∧ OnlyW v.blk w w' ∧ (∀ k, (∀ a, v.sa = some a → a.block ≠ k) → k < w.heap.size → w'.heap[k]? = w.heap[k]?) := by
  obtain ⟨-, ⟨h1, h2⟩ | ⟨G, h1, h2⟩⟩ := h
  · rw [h1, h2]; refine (markIntS_nil m v.sc w).mono ?_; rintro e w' ⟨rfl, rfl⟩; exact ⟨rfl, ⟨rfl, .inl ⟨rfl, rfl⟩⟩, OnlyW.refl _ _, fun _ _ _ => rfl⟩
  · rw [h1]; refine (markIntS_own G v.zs.length v.sc m v.zs w h2 rfl (by omega) (by omega)).mono ?_; rintro e w' ⟨rfl, hR, hG⟩; refine ⟨by congr 2, ⟨mkI_len _ _ _, .inr ⟨G, rfl, hR⟩⟩, OnlyW.of_grown hG (fun g hg => .inr (.inr ⟨_, h1, by simpa using hg⟩)), fun k hk hl => hG.block k hl (fun hc => hk ⟨G, 0, none⟩ rfl (by simpa using hc.symm))⟩
theorem InS.only {w w' : World} {v : Wv} {zs : List Int} {T : Nat → Prop} (h : InS w v.sa v.zs.length zs) (ho : OnlyW T w w') (hT : ∀ a, v.sa = some a → ¬ T a.block) : InS w' v.sa v.zs.length zs := by
  obtain ⟨h0, h1 | ⟨G, h1, h2⟩⟩ := h
  · exact ⟨h0, .inl h1⟩
  · exact ⟨h0, .inr ⟨G, h1, h2.of_block (ho.block G h2.lt (hT _ h1))⟩⟩
theorem ownI_type {w : World} {e e' : TypeId} {g : Nat} {zs : List Int} {cur : Array Value} {f : Nat × Nat} (h : OwnI w e g zs) (h' : w.heap[g]? = some (.cells cur e' f)) : e = e' := by
  obtain ⟨-, c, h1, -⟩ := h; rw [h'] at h1; have h2 := Option.some.inj h1
  injection h2 with h3 h4 h5
  exact h4.symm
/-- numbers and entries lie apart -/
theorem WvAt.apart {w : World} {v : Wv} (h : WvAt w v) {a : Addr} (ha : v.sa = some a) : ¬ ((∃ b, v.ea = some b ∧ b.block = a.block) ∨ a.block ∈ v.E.map En.g) := by
  obtain ⟨-, ⟨h1, -⟩ | ⟨S, h1, h2⟩⟩ := h.se
  · rw [h1] at ha; cases ha
  · rw [ha] at h1; obtain rfl := Option.some.inj h1; obtain ⟨-, ⟨h3, h4⟩ | ⟨G, h3, h4⟩⟩ := h.en
    · rintro (⟨b, hb, -⟩ | hb)
      · rw [h3] at hb; cases hb
      · rw [h4] at hb; simp at hb
    · rintro (⟨b, hb, hbk⟩ | hb)
      · rw [h3] at hb; obtain rfl := Option.some.inj hb; obtain ⟨cur, h5, -⟩ := h4.row; simp only at hbk; rw [hbk] at h5; exact absurd (ownI_type h2 h5) (by decide)
      · obtain ⟨e, he, hg⟩ := List.mem_map.1 hb; obtain ⟨-, cur, h5, -⟩ := (h4.own e he).1; simp only at hg; rw [hg] at h5; exact absurd (ownI_type h2 h5) (by decide)
theorem mkE_map (E : List En) (m k : Nat) : (mkE E m k).map En.g = E.map En.g := by
  induction k with
  | zero => rfl
  | succ k ih =>
    rw [mkE]
    split
    · rename_i e he
      rw [List.map_set, ih]
      have h9 : (E.map En.g)[k]? = some e.g := by rw [List.getElem?_map, he]; rfl
      obtain ⟨h10, h11⟩ := List.getElem?_eq_some_iff.1 h9
      show (E.map En.g).set k e.g = _
      rw [← h11]; exact List.set_getElem_self h10
    · exact ih
set_option maxRecDepth 4000 in
set_option maxHeartbeats 2000000 in
theorem markWalView_own (v : Wv) (m : Nat) (w : World) (h : WvAt w v) (hm : v.fin m ≤ 1073741824) :
    Calls Tryz.prog 11 #[v.val, .int .i64 (m : Int)] w fun e w' => e = .returned (.int .i64 ((v.fin m : Nat) : Int)) ∧ WvAt w' (v.marked m) ∧ OnlyW v.blk w w' := by
  have hA : WvAt (w.alloc (.cells #[.int .i64 (v.code : Int), .int .i64 (v.base : Int), .int .i64 (v.bt : Int), .slice v.ea v.E.length v.ec, .slice v.sa v.zs.length v.sc, .int .i64 (v.keep : Int), .bool v.drop] 27)) v := h.grown0 (World.grownBy_alloc _ _ _)
  have HA : Hid (WvAt (w.alloc (.cells #[.int .i64 (v.code : Int), .int .i64 (v.base : Int), .int .i64 (v.bt : Int), .slice v.ea v.E.length v.ec, .slice v.sa v.zs.length v.sc, .int .i64 (v.keep : Int), .bool v.drop] 27)) v ∧ v.fin m ≤ 1073741824 ∧ (∀ k, v.blk k → k < w.heap.size)) := by
    refine ⟨hA, hm, fun k hk => ?_⟩
    rcases hk with ⟨a, h1, rfl⟩ | hk | ⟨a, h1, rfl⟩
    · obtain ⟨-, ⟨h3, -⟩ | ⟨G, h3, h4⟩⟩ := h.en
      · rw [h3] at h1; cases h1
      · rw [h3] at h1; obtain rfl := Option.some.inj h1; exact h4.lt
    · obtain ⟨-, ⟨-, h4⟩ | ⟨G, -, h4⟩⟩ := h.en
      · rw [h4] at hk; simp at hk
      · obtain ⟨e, he, rfl⟩ := List.mem_map.1 hk; exact (h4.own e he).1.lt
    · obtain ⟨-, ⟨h3, -⟩ | ⟨G, h3, h4⟩⟩ := h.se
      · rw [h3] at h1; cases h1
      · rw [h3] at h1; obtain rfl := Option.some.inj h1; exact h4.lt
  clear h hA hm; simp only [Wv.val]
  go_enter Tryz.func11, Tryz.ntmps11
  go_wp2_with fail; refine (markEnS v m _ HA.out.1.en (by have := HA.out.2.1; unfold Wv.fin at this; omega)).mono ?_; rintro e w1 ⟨rfl, hE1, hO1⟩
  have H1 : Hid (EnS w1 v.ea v.E.length (mkE v.E m v.E.length) ∧ InS w1 v.sa v.zs.length v.zs ∧ OnlyW v.blk w w1 ∧ w1.heap[w.heap.size]? = some (.cells #[.int .i64 (v.code : Int), .int .i64 (v.base : Int), .int .i64 (v.bt : Int), .slice v.ea v.E.length v.ec, .slice v.sa v.zs.length v.sc, .int .i64 (v.keep : Int), .bool v.drop] 27 (0, 0))) := by
    refine ⟨hE1, InS.only HA.out.1.se hO1 (fun a ha => HA.out.1.apart ha), ?_, ?_⟩
    · refine (OnlyW.of_grown (row := none) (World.grownBy_alloc w _ none) (fun g hg => by cases hg)).trans ⟨hO1.os, hO1.tape, hO1.output, hO1.size, fun k hk hT => hO1.block k hk (fun hc => hT ?_)⟩
      rcases hc with hc | hc
      · exact .inl hc
      · exact .inr (.inl hc)
    · refine hO1.blk (heap_alloc_new w _) (fun hc => ?_)
      have : v.blk w.heap.size := by
        rcases hc with hc | hc
        · exact .inl hc
        · exact .inr (.inl hc)
      exact absurd (HA.out.2.2 _ this) (by omega)
  have c4 : w1.cell? ⟨w.heap.size, 4, none⟩ = some (.slice v.sa v.zs.length v.sc) := (cell_of_row w1 _ _ _ _ _ H1.out.2.2.2).trans rfl; clear hE1 hO1; go_wp2_with fail; refine (markInS v (finE v.E m v.E.length) _ H1.out.2.1 (by have := HA.out.2.1; unfold Wv.fin at this; exact this)).mono ?_; rintro e w2 ⟨rfl, hI2, hO2, hX2⟩
  have H2 : Hid (WvAt w2 (v.marked m) ∧ OnlyW v.blk w w2) := by
    refine ⟨⟨?_, ?_⟩, H1.out.2.2.1.trans hO2⟩
    · show EnS w2 v.ea (mkE v.E m v.E.length).length (mkE v.E m v.E.length)
      rw [mkE_len]; obtain ⟨h0, ⟨h3, h4⟩ | ⟨G, h3, h4⟩⟩ := H1.out.1
      · exact ⟨h0, .inl ⟨h3, h4⟩⟩
      · refine ⟨h0, .inr ⟨G, h3, h4.kept (fun k hk => ?_)⟩⟩
        have hlt : k < w1.heap.size := by
          rcases hk with rfl | hk
          · exact h4.lt
          · obtain ⟨x, hx, rfl⟩ := List.mem_map.1 hk; exact (h4.own x hx).1.lt
        refine hX2 k (fun a ha hc => HA.out.1.apart ha ?_) hlt
        rcases hk with rfl | hk
        · exact .inl ⟨_, h3, hc.symm⟩
        · rw [mkE_map] at hk; exact .inr (by rw [hc]; exact hk)
    · show InS w2 v.sa (mkI v.zs (finE v.E m v.E.length) v.zs.length).length _
      rw [mkI_len]; exact hI2
  clear hI2 hO2 hX2 H1 c4; go_wp2; go_ret; exact ⟨rfl, H2.out.1, H2.out.2⟩
set_option maxRecDepth 4000 in
set_option maxHeartbeats 2000000 in
theorem heldWalView_own (v : Wv) (m : Nat) (w : World) (h : WvAt w (v.marked m)) (hm : v.fin m ≤ 1073741824) (hs : ∀ e ∈ v.E, e.off + e.n ≤ e.D.length) :
    Calls Tryz.prog 12 #[(v.marked m).val, .int .i64 (m : Int)] w fun e w' => e = .returned (.int .i64 ((v.fin m : Nat) : Int)) ∧ w.grownBy w' none := by
  have hz : ∀ (i : Nat) (e : En), (mkE v.E m v.E.length)[i]? = some e → e.t = finE (mkE v.E m v.E.length) m i ∧ ∀ j, j < e.n → e.D.getD (e.off + j) 0 = (finE (mkE v.E m v.E.length) m i + 1 + j) % 256 := by
    intro i e he
    have hil : i < v.E.length := by have := (List.getElem?_eq_some_iff.1 he).1; rwa [mkE_len] at this
    have h1 : v.E[i]? = some v.E[i] := List.getElem?_eq_getElem hil; rw [mkE_get h1 hil] at he; obtain rfl := Option.some.inj he; rw [finE_mkE _ _ _ (by omega)]; refine ⟨rfl, fun j hj => ?_⟩; have h2 := hs _ (List.mem_of_getElem? h1); exact mkAt_get _ _ _ _ _ (by simp only at hj; omega) hj
  have hfe : finE (mkE v.E m v.E.length) m v.E.length = finE v.E m v.E.length := finE_mkE _ _ _ (Nat.le_refl _) _
  have HE : Hid (∀ X : World, w.grownBy X none → Calls Tryz.prog 27 #[.slice v.ea v.E.length v.ec, .int .i64 (m : Int)] X fun e w' => e = .returned (.int .i64 ((finE v.E m v.E.length : Nat) : Int)) ∧ w' = X) := fun X hX => by
    have h9 : EnS X v.ea (mkE v.E m v.E.length).length (mkE v.E m v.E.length) := h.en.grown0 hX
    have hln : v.E.length ≤ 1073741824 := by
      have h8 : ∀ k, k + m ≤ finE v.E m k := by
        intro k
        induction k with
        | zero => simp [finE]
        | succ k ih => rw [finE]; omega
      have := h8 v.E.length
      unfold Wv.fin at hm
      omega
    obtain ⟨-, ⟨h3, h4⟩ | ⟨G, h3, h4⟩⟩ := h9
    · have h5 : v.E.length = 0 := by rw [← mkE_len v.E m v.E.length, h4]; rfl
      rw [h3, h5]; have h6 : finE v.E m 0 = m := rfl; rw [h6]; exact heldEntryS_nil m v.ec X
    · rw [h3]; have h7 := heldEntryS_own G v.ec m (mkE v.E m v.E.length) X h4 hz (by rw [mkE_len, hfe]; unfold Wv.fin at hm; omega) (by rw [mkE_len]; exact hln); rw [mkE_len, hfe] at h7; exact h7
  have HI : Hid (∀ X : World, w.grownBy X none → Calls Tryz.prog 28 #[.slice v.sa v.zs.length v.sc, .int .i64 ((finE v.E m v.E.length : Nat) : Int)] X fun e w' => e = .returned (.int .i64 ((v.fin m : Nat) : Int)) ∧ w' = X) := fun X hX => by
    have h9 : InS X v.sa (mkI v.zs (finE v.E m v.E.length) v.zs.length).length (mkI v.zs (finE v.E m v.E.length) v.zs.length) := h.se.grown0 hX; rw [mkI_len] at h9
    unfold Wv.fin at hm ⊢
    obtain ⟨-, ⟨h3, h4⟩ | ⟨G, h3, h4⟩⟩ := h9
    · have h5 : v.zs.length = 0 := by rw [← mkI_len v.zs (finE v.E m v.E.length) v.zs.length, h4]; rfl
      rw [h3, h5]; exact heldIntS_nil _ v.sc X
    · rw [h3]; have h7 := heldIntS_own G v.zs.length v.sc (finE v.E m v.E.length) _ X h4 (mkI_len _ _ _) (fun i hi => mkI_get _ _ _ _ hi hi) (by omega) (by omega); refine h7.mono ?_; rintro e w' ⟨rfl, rfl⟩; exact ⟨by congr 2, rfl⟩
  have hv : (v.marked m).val = .agg #[.int .i64 (v.code : Int), .int .i64 (v.base : Int), .int .i64 (v.bt : Int), .slice v.ea v.E.length v.ec, .slice v.sa v.zs.length v.sc, .int .i64 (v.keep : Int), .bool v.drop] := by
    simp only [Wv.val, Wv.marked, mkE_len, mkI_len]
  rw [hv]
  have hk : ¬ ((v.fin m : Nat) : Int) < 0 := by omega
  clear h hm hs hz hfe hv; generalize v.fin m = K at *; generalize finE v.E m v.E.length = F at *
  go_enter Tryz.func12, Tryz.ntmps12
  go_wp2_with fail; refine (HE.out _ (World.grownBy_alloc _ _ _)).mono ?_; rintro e w1 ⟨rfl, hw1⟩; subst hw1
  have hF : ¬ ((F : Nat) : Int) < 0 := by omega
  go_wp2_with fail; refine (HI.out _ (World.grownBy_alloc _ _ _)).mono ?_; rintro e w2 ⟨rfl, hw2⟩; subst hw2; go_wp2; go_ret; exact ⟨rfl, World.grownBy_alloc _ _ _⟩
theorem heap3 (w : World) (a b c : Obj) : (((w.alloc a).alloc b).alloc c).heap[w.heap.size]? = some a ∧ (((w.alloc a).alloc b).alloc c).heap[w.heap.size + 1]? = some b ∧ (((w.alloc a).alloc b).alloc c).heap[w.heap.size + 1 + 1]? = some c := by
  exact ⟨(Below.heap_alloc _ _ _ (by simp; omega)).trans ((Below.heap_alloc _ _ _ (by simp)).trans (heap_alloc_new w _)), (Below.heap_alloc _ _ _ (by simp)).trans (heap_two w _ _), by have h := heap_alloc_new ((w.alloc a).alloc b) c; simpa using h⟩
theorem Made.set1 {w : World} {lo b j : Nat} {v : Value} {x : Tr} (h : Made w lo x) (hb : b < lo) : Made (w.setCell ⟨b, j, none⟩ v) lo x :=
  h.keep (by simp [World.setCell]) (fun k hk _ => heap_setCell_other w _ k v (show k ≠ b by omega))
theorem toByteS_made (d : List Nat) (a : Option Addr) (p : Nat) (w : World) (h : SlB w a d.length d) (hd : d.length ≤ 1048576) :
    Calls Tryz.prog 35 #[.slice a d.length p] w fun e w' => ∃ (a' : Option Addr) (p' : Nat), e = .returned (.slice a' d.length p') ∧ Made w' w.heap.size (.byt d a' p') ∧ w.grownBy w' none := by
  refine (toByteS_any a d.length p d w h (by omega)).mono ?_; rintro e w' ⟨rfl, hO, hG⟩; exact ⟨_, _, rfl, .byt (Nat.le_refl _) hd hO rfl, hG⟩
set_option maxRecDepth 8000 in
set_option maxHeartbeats 8000000 in
theorem toFile_any (t0 : ByteArray) (d1 : List Nat) (a1 : Option Addr) (p1 : Nat) (w : World) (h1 : SlB w a1 d1.length d1) (s1 : d1.length ≤ 1048576) :
    Calls Tryz.prog 16 #[.agg #[.string t0, .slice a1 d1.length p1]] w fun e w' => ∃ (a1' : Option Addr) (p1' : Nat), e = .returned (.agg #[.string t0, .slice a1' d1.length p1']) ∧ Made w' w.heap.size (.byt d1 a1' p1') ∧ w.grownBy w' none := by
  have C0 : Hid (∀ Y : World, w.grownBy Y none → Calls Tryz.prog 35 #[.slice a1 d1.length p1] Y fun e w' => ∃ (a1' : Option Addr) (p1' : Nat), e = .returned (.slice a1' d1.length p1') ∧ Made w' Y.heap.size (.byt d1 a1' p1') ∧ Y.grownBy w' none) := fun Y hY => toByteS_made d1 a1 p1 Y (h1.grown0 hY) s1
  clear h1 s1
  go_enter Tryz.func16, Tryz.ntmps16
  go_wp2_with fail; refine (C0.out _ (grownBy_alloc (grownBy_alloc (World.grownBy_alloc _ _ _) _) _)).mono ?_; rintro e w1 ⟨a1', p1', rfl, m1, hG⟩; have h3 := heap3 w (.cells #[.string t0, .slice a1 d1.length p1] 39 (0, 0)) (.cells #[.string ⟨#[]⟩, .slice none 0 0] 48 (0, 0)) (.cells #[.string t0, .slice none 0 0] 48 (0, 0)); have B1 : Hid (w1.heap[w.heap.size]? = some (.cells #[.string t0, .slice a1 d1.length p1] 39 (0, 0)) ∧ w1.heap[w.heap.size + 1]? = some (.cells #[.string ⟨#[]⟩, .slice none 0 0] 48 (0, 0)) ∧ w1.heap[w.heap.size + 1 + 1]? = some (.cells #[.string t0, .slice none 0 0] 48 (0, 0))) := ⟨grown_blk hG h3.1, grown_blk hG h3.2.1, grown_blk hG h3.2.2⟩; have G1 : Hid (w.grownBy w1 none ∧ w.heap.size + 1 + 1 + 1 ≤ w1.heap.size) := ⟨grownBy_trans (grownBy_alloc (grownBy_alloc (World.grownBy_alloc _ _ _) _) _) hG, by have := hG.size; simpa using this⟩; have M1 : Hid (Made w1 (w.heap.size + 1 + 1 + 1) (.byt d1 a1' p1')) := m1.low (by simp); clear hG h3 m1
  have hC : w1.cell? ⟨w.heap.size + 1 + 1, 1, none⟩ = some (.slice none 0 0) ∧ w1.frozen? ⟨w.heap.size + 1 + 1, 1, none⟩ = false := by
    obtain ⟨-, -, x2⟩ := B1.out
    simp [World.cell?, World.frozen?, x2]
  go_upto_region 4 with fail
  generalize hW : (w1).setCell ⟨w.heap.size + 1 + 1, 1, none⟩ (.slice a1' d1.length p1') = W
  have BF : Hid (W.heap[w.heap.size + 1]? = some (.cells #[.string ⟨#[]⟩, .slice none 0 0] 48 (0, 0)) ∧ W.heap[w.heap.size + 1 + 1]? = some (.cells #[.string t0, .slice a1' d1.length p1'] 48 (0, 0)) ∧ w.grownBy W none ∧ Made W (w.heap.size + 1 + 1 + 1) (.byt d1 a1' p1')) := by
    subst hW; exact ⟨(set_oth 1 _ (by omega) B1.out.2.1), (set_blkL 1 _ B1.out.2.2), (grownBy_setNew G1.out.1 (Nat.le_trans (Nat.le_succ _) (Nat.le_succ _))), (M1.out).set1 (by omega)⟩
  clear hW hC
  as_aux_lemma =>
    have hR : W.rangeAt (w.heap.size + 1 + 1) 0 [.string t0, .slice a1' d1.length p1'] := by
      have h9 := World.rangeAt_of_block BF.out.2.1 0 2; exact h9
    have hT : W.there (w.heap.size + 1) 0 2 := (there_of_block BF.out.1 (by simp)).1
    go_wp2_with (refine wpList_load_mid (by rfl) 48 (.tmp 3) (by rfl) (w.heap.size + 1 + 1) 0 (by rfl) [.string t0, .slice a1' d1.length p1'] _ hR Tryz.underlying48 rfl (by kernel_rfl) ?_; simp only [Act.put, List.setIfInBounds_toArray, List.set_cons_zero, List.set_cons_succ]; refine wpList_store_mid (by rfl) _ _ _ (by rfl) _ _ _ (by rfl) (by rfl) ?sa ?sb ?sc ?sd; exact hT; show _ = some 2; kernel_rfl; exact all_oneCell_toArray (List.all_eq_true.1 rfl); simp only [Act.put])
    have hld : (loadVar 48 ⟨w.heap.size + 1, 0, none⟩).run Tryz.prog (W.setCells (w.heap.size + 1) 0 [.string t0, .slice a1' d1.length p1']) = .ok (.agg #[.string t0, .slice a1' d1.length p1']) (W.setCells (w.heap.size + 1) 0 [.string t0, .slice a1' d1.length p1']) := run_loadVar_mid _ (w.heap.size + 1) 0 48 [.string t0, .slice a1' d1.length p1'] _ (World.rangeAt_setCells_same _ _ _ _ hT) Tryz.underlying48 rfl (by kernel_rfl); refine bodyPost_ret (v := .agg #[.string t0, .slice a1' d1.length p1']) ?_ rfl ⟨_, _, rfl, ((BF.out.2.2.2).setCells (by omega)).low (by omega), (grownBy_setCellsN (Nat.le_succ _) _ _ _ BF.out.2.2.1)⟩; exact results_ret rfl rfl hld
theorem fits_File {t0 : ByteArray} {d1 : List Nat} {a1 : Option Addr} {p1 : Nat}  : ∀ (j : Nat) (y : Tr) (k : Ki), [.str t0, .byt d1 a1 p1][j]? = some y → kFile[j]? = some k → Fits y k := by
  intro j y k hj hk
  match j with
  | 0 => obtain rfl := Option.some.inj hj; obtain rfl := Option.some.inj hk; exact .str _
  | 1 => obtain rfl := Option.some.inj hj; obtain rfl := Option.some.inj hk; exact .byt _ _ _
  | j + 2 => cases hk
theorem Tryz.infoFileT : (Tryz.prog.info? 48).map (fun i => (i.zero, i.size, i.bytes)) = some (some (.agg #[.string ⟨#[]⟩, .slice none 0 0]), 2, 40) := by kernel_rfl
set_option maxRecDepth 8000 in
set_option maxHeartbeats 8000000 in
theorem toFileS_any (L : List (List Tr)) (a : Option Addr) (p : Nat) (w : World) (h : RowOk w kFile a L) (s : totR L ≤ 1048576) :
    Calls Tryz.prog 6 #[.slice a L.length p] w fun e w' => ∃ (L' : List (List Tr)) (a' : Option Addr) (p' : Nat), e = .returned (.slice a' L'.length p') ∧ (Made w' w.heap.size (.row kFile.length a' p' L') ∧ Fits (.row kFile.length a' p' L') (.row kFile) ∧ tellR L' = tellR L) ∧ w.grownBy w' none := by
  have hn : L.length ≤ 1048576 := Nat.le_trans (totR_len L) s; have HR : Hid (RowOk w kFile a L ∧ totR L ≤ 1048576) := ⟨h, s⟩; clear h s; obtain ⟨n, hnn⟩ : ∃ n, L.length = n := ⟨_, rfl⟩; have HN : Hid (L.length = n) := hnn; rw [hnn] at hn ⊢; clear hnn; obtain ⟨i0, hi, hz0, hz1, hz2⟩ := info_parts Tryz.infoFileT
  go_enter Tryz.func6, Tryz.ntmps6
  go_wp2_with (at_make; refine wpList_make_full _ rfl (.tmp 6) (.tmp 6) 29 rfl w.heap.size 48 i0 (.agg #[.string ⟨#[]⟩, .slice none 0 0]) 2 Tryz.underlying29 hi hz0 hz1 .i64 .i64 n n n rfl rfl rfl rfl ?cb ?cm (Nat.le_refl _) ?_)
  case cb => rw [hz2]; omega
  case cm => unfold maxLen; omega
  intro w1 hown hgrow
  have HO : Hid (Fill w w1 w.heap.size n 2 L [] kFile) := by
    rcases hown.2 with ⟨h0, _⟩ | ⟨g, cap', cur, h0, hb, hg, hc, hm, hs, htake⟩
    · simp at h0
    · simp only [Value.slice.injEq, Option.some.injEq, Addr.mk.injEq, and_true] at h0; obtain ⟨rfl, -, rfl⟩ := h0; obtain ⟨ht, hf⟩ := there_of_block (n := n * 2) hg (by rw [hs]; exact Nat.le_refl _); exact ⟨(Array.getElem?_eq_some_iff.1 hg).1, ht, hf, by simp, by simp, by simp, by simp, hgrow⟩
  clear hown hgrow hi hz0 hz1 hz2 i0; go_wp2
  go_loopw [4] (fun i wr => ∃ (k : Nat) (M : List (List Tr)), k ≤ n ∧ i = .int .i64 (k : Int) ∧ M.length = k ∧ Fill w wr w.heap.size n 2 L M kFile) (fun i _ => n - (intOf i).toNat)
  case atStart => exact ⟨0, [], Nat.zero_le _, rfl, rfl, HO.out⟩
  case round =>
    obtain ⟨k, M, hk, rfl, hM, hF⟩ := hrel; have HF : Hid (M.length = k ∧ Fill w wr w.heap.size n 2 L M kFile) := ⟨hM, hF⟩; clear hM hF HO
    by_cases hlt : k < n
    · obtain ⟨e, he⟩ : ∃ e, L[k]? = some e := ⟨_, List.getElem?_eq_getElem (by rw [HN.out]; exact hlt)⟩; obtain ⟨hf, hrd, b, off, hab, hc⟩ := HR.out.1.grown0 HF.out.2.grown k e he; have htot := HR.out.2; obtain ⟨t0, d1, a1, p1, rfl⟩ := fitFile hf; subst hab; have c0 : wr.cell? ⟨b, off + k * 2, none⟩ = some (.string t0) := hc 0 _ rfl; have c1 : wr.cell? ⟨b, off + k * 2 + 1, none⟩ = some (.slice a1 d1.length p1) := hc 1 _ rfl
      have HK : Hid (∀ X : World, wr.grownBy X none → Calls Tryz.prog 16 #[.agg #[.string t0, .slice a1 d1.length p1]] X fun e w' => ∃ (a1' : Option Addr) (p1' : Nat), e = .returned (.agg #[.string t0, .slice a1' d1.length p1']) ∧ Made w' X.heap.size (.byt d1 a1' p1') ∧ X.grownBy w' none) := fun X hs => toFile_any t0 d1 a1 p1 X ((hrd (.byt d1 a1 p1) (by simp)).isByt.grown0 hs) (by have h1 := tot_sub (y := .byt d1 a1 p1) (j := 1) he rfl; rw [tot_byt] at h1; omega)
      have R0 : Hid (t0.size ≤ maxLen) := (hrd (.str t0) (by simp)).isStr; have HE : Hid (L[k]? = some [.str t0, .byt d1 a1 p1]) := he; clear hc hrd hf he htot
      have hkI : (k : Int) < (n : Int) := by omega
      go_wp2_with fail; refine (HK.out _ (grownBy_refl _ _)).mono ?_; rintro e w2 ⟨a1', p1', rfl, m1, hG2⟩
      have HS : Hid (Fill w (w2.setCells w.heap.size (k * 2) [.string t0, .slice a1' d1.length p1']) w.heap.size n 2 L (M ++ [[.str t0, .byt d1 a1' p1']]) kFile) := by
        obtain ⟨rfl, hF⟩ := HF.out; refine hF.step (e' := [.str t0, .byt d1 a1' p1']) (Nat.le_refl _) rfl hG2 HE.out hlt ?_ ?_ ?_
        · exact ⟨rfl, fits_File⟩
        · intro y hy; simp only [List.mem_cons, List.not_mem_nil, or_false] at hy
          rcases hy with rfl | rfl
          · exact .str R0.out
          · exact m1.low (by have := hF.lt; omega)
        · simp only [List.map_cons, List.map_nil]
      have hth : w2.there w.heap.size (k * 2) 2 := by
        obtain ⟨rfl, hF⟩ := HF.out; refine there_sub (n := n * 2) (fun j hj => ?_) (by have h9 := Nat.mul_le_mul_right 2 (show M.length + 1 ≤ n by omega); rw [Nat.succ_mul] at h9; exact h9); obtain ⟨h1, h2⟩ := hF.there j hj; exact ⟨by rw [(bcell hG2).1 _ _ hF.lt]; exact h1, by rw [(bcell hG2).2 _ _ hF.lt]; exact h2⟩
      obtain ⟨u0, q0⟩ : ∃ u, w2.cell? ⟨w.heap.size, k * 2, none⟩ = some u := Option.isSome_iff_exists.1 (hth 0 (by omega)).1; have f0 : w2.frozen? ⟨w.heap.size, k * 2, none⟩ = false := (hth 0 (by omega)).2; obtain ⟨u1, q1⟩ : ∃ u, w2.cell? ⟨w.heap.size, k * 2 + 1, none⟩ = some u := Option.isSome_iff_exists.1 (hth 1 (by omega)).1; have f1 : w2.frozen? ⟨w.heap.size, k * 2 + 1, none⟩ = false := (hth 1 (by omega)).2; clear hth hG2 m1; go_wp2; go_roundw
      case rel => exact ⟨k + 1, M ++ [([.str t0, .byt d1 a1' p1'] : List Tr)], by omega, by go_num, by rw [List.length_append, HF.out.1]; rfl, by exact HS.out⟩
      case measure => simp [intOf]; omega
    · obtain rfl : k = n := by omega
      go_wp2; go_ret; have hA := HF.out.2.all (cp := k) rfl HF.out.1 HN.out hn; refine ⟨M, some ⟨w.heap.size, 0, none⟩, k, by rw [HF.out.1]; rfl, hA, HF.out.2.grown⟩
def Fi.row (f : Fi) : List Tr := [.str f.s, .byt f.d (some ⟨f.b, 0, none⟩) f.p]
theorem filesOf_rows (F : List Fi) : filesOf (F.map Fi.row) = F.map Fi.pf := by
  apply List.ext_getElem?
  intro i
  cases h : F[i]? with
  | none =>
    have h1 : F.length ≤ i := by simpa using h
    rw [List.getElem?_eq_none (by rw [filesOf_len]; simpa using h1), List.getElem?_eq_none (by simpa using h1)]
  | some f =>
    rw [filesOf_get (i := i) (s := f.s) (d := f.d) (a := some ⟨f.b, 0, none⟩) (p := f.p) (by simp [h, Fi.row])]
    simp [h, Fi.pf]
theorem ImgAt.rowOk {w : World} {a : Option Addr} {F : List Fi} (h : ImgAt w a F) : RowOk w kFile a (F.map Fi.row) := by
  intro i e hi
  obtain ⟨f, hf, rfl⟩ : ∃ f, F[i]? = some f ∧ e = f.row := by
    simp only [List.getElem?_map, Option.map_eq_some_iff] at hi; obtain ⟨f, h1, h2⟩ := hi; exact ⟨f, h1, h2.symm⟩
  obtain ⟨d1, d2, d3, d4, d5, -⟩ := h.data f (List.mem_of_getElem? hf); obtain ⟨b, off, h1, h2, h3⟩ := h.cells i f hf; refine ⟨⟨rfl, fun j y k hj hk => ?_⟩, ?_, b, off, h1, ?_⟩
  · match j, hj, hk with
    | 0, hj, hk => cases hj; cases hk; exact .str _
    | 1, hj, hk => cases hj; cases hk; exact .byt _ _ _
  · intro y hy; simp only [Fi.row, List.mem_cons, List.not_mem_nil, or_false] at hy
    rcases hy with rfl | rfl
    · exact .str (by unfold maxLen; omega)
    · exact .byt (by unfold maxLen; omega) d1
  · intro j y hj
    match j, hj with
    | 0, hj => cases hj; exact h2
    | 1, hj => cases hj; exact h3
theorem made_fis {w : World} {lo p : Nat} {a : Option Addr} {L : List (List Tr)} (h : Made w lo (.row kFile.length a p L)) (hf : Fits (.row kFile.length a p L) (.row kFile)) (ht : totR L ≤ 1048576) :
    ∃ F : List Fi, L = F.map Fi.row ∧ ImgAt w a F ∧ ∀ f ∈ F, lo ≤ f.b := by
  have hR := h.rd.rowOk hf (by decide)
  have hcase : ∀ (i : Nat) (e : List Tr), L[i]? = some e → ∃ f : Fi, e = f.row ∧ lo ≤ f.b ∧ Own w 5 f.b f.d ∧ f.p = f.d.length ∧ f.d.length ≤ 1048576 := by
    intro i e hi; obtain ⟨s, d, a1, p1, rfl⟩ := fitFile (hR i e hi).1; obtain ⟨g, h0, h2, h3, h4, h5⟩ := (h.inv.2 rfl i 1 _ _ hi rfl).inv.1 rfl; obtain rfl : a1 = some ⟨g, 0, none⟩ := h0; exact ⟨⟨s, d, g, p1⟩, rfl, h2, h4, h5, h3⟩
  obtain ⟨F, hF⟩ : ∃ F : List Fi, L = F.map Fi.row := by
    clear hR h hf ht
    induction L with
    | nil => exact ⟨[], rfl⟩
    | cons e L ih =>
      obtain ⟨F, hF⟩ := ih (fun i e' hi => hcase (i + 1) e' (by simpa using hi)); obtain ⟨f, hf, -⟩ := hcase 0 e rfl; exact ⟨f :: F, by rw [hf, hF]; rfl⟩
  subst hF
  have hget : ∀ (i : Nat) (f : Fi), F[i]? = some f → lo ≤ f.b ∧ Own w 5 f.b f.d ∧ f.p = f.d.length ∧ f.d.length ≤ 1048576 := by
    intro i f hi; obtain ⟨f', h1, h2⟩ := hcase i f.row (by simp [hi])
    have : f = f' := by
      cases f; cases f'
      simp only [Fi.row, List.cons.injEq, Tr.str.injEq, Tr.byt.injEq, Option.some.injEq, Addr.mk.injEq, and_true] at h1; obtain ⟨rfl, rfl, rfl, rfl⟩ := h1
      rfl
    subst this; exact h2
  refine ⟨F, rfl, ⟨fun k f hk => ?_, fun f hf' => ?_⟩, fun f hf' => ?_⟩
  · obtain ⟨-, -, b, off, h1, h2⟩ := hR k f.row (by simp [hk]); exact ⟨b, off, h1, h2 0 _ rfl, h2 1 _ rfl⟩
  · obtain ⟨i, hi⟩ := List.getElem?_of_mem hf'; obtain ⟨h1, h2, h3, h4⟩ := hget i f hi; have hs := tot_sub (L := F.map Fi.row) (i := i) (j := 0) (e := f.row) (y := .str f.s) (by simp [hi]) rfl; rw [tot_str] at hs; exact ⟨h2.sl _ rfl, Nat.le_of_eq h3.symm, by rw [h3]; unfold maxLen; omega, by omega, h4, h2.lt⟩
  · obtain ⟨i, hi⟩ := List.getElem?_of_mem hf'; exact (hget i f hi).1
/-- what the answer tells -/
def walTell (F : List Pf) : Nat × Nat × Nat × List (Nat × List Nat) × List Int × Nat × Bool :=
  if okImg F = true then (match walP F with
    | none => (8, 0, 0, [], [], 0, false)
    | some (p, ns, kp, dr) => (0, p.base, p.bt, p.es, ns.map (fun n : Nat => (n : Int)), kp, dr))
  else (1, 0, 0, [], [], 0, false)
theorem walTell_no {F : List Pf} (h : okImg F = false) : walTell F = (1, 0, 0, [], [], 0, false) := by rw [walTell, h]; rfl
theorem walTell_bad {F : List Pf} (h : okImg F = true) (hn : walP F = none) : walTell F = (8, 0, 0, [], [], 0, false) := by rw [walTell, h, hn]; rfl
theorem walTell_ok {F : List Pf} (h : okImg F = true) {p : Pl} {ns : List Nat} {kp : Nat} {dr : Bool} (hn : walP F = some (p, ns, kp, dr)) : walTell F = (0, p.base, p.bt, p.es, ns.map (fun n : Nat => (n : Int)), kp, dr) := by rw [walTell, h, hn]; rfl
/-- the log's entries as an answer's -/
theorem LogIn.enS {w : World} {R B : Nat} {tl : List Value} {L : Lg} (h : LogIn w R B tl L) : ∃ oa cp, L.ev = .slice oa L.E.length cp ∧ EnS w oa L.E.length L.E ∧ ∀ ad : Addr, oa = some ad → B ≤ ad.block := by
  rcases h.ent.2 with ⟨h1, h0⟩ | ⟨g, cap, cur, h1, hB, hg, hc, hm, hs, ht⟩
  · have hE : L.E = [] := by
      rcases hE : L.E with _ | ⟨e, E⟩
      · rfl
      · rw [hE] at h0; simp at h0
    exact ⟨none, 0, by rw [h1, hE]; rfl, ⟨rfl, .inl ⟨rfl, hE⟩⟩, fun ad hc => by cases hc⟩
  · refine ⟨some ⟨g, 0, none⟩, cap, h1, ⟨rfl, .inr ⟨g, rfl, ⟨⟨cur, hg, fun i e hi => ?_⟩, fun e he => (h.own e he).2, h.apart⟩⟩⟩, fun ad hc => by cases hc; exact hB⟩; have h2 := flat2_get (fun e : En => Value.int .i64 (e.t : Int)) (fun e : En => Value.slice (some ⟨e.g, e.off, none⟩) e.n e.cp) L.E hi; have own1 := own_at h.ent (i := i * 2) h2.1; have own2 := own_at h.ent (i := i * 2 + 1) h2.2; obtain ⟨g1, c1, e1, -, -, -, k1, -⟩ := own1; obtain ⟨g2, c2, e2, -, -, -, k2, -⟩ := own2; rw [h1] at e1 e2; simp only [Value.slice.injEq, Option.some.injEq, Addr.mk.injEq, and_true, true_and] at e1 e2; obtain ⟨rfl, rfl⟩ := e1; obtain ⟨rfl, rfl⟩ := e2; rw [cell_of_row w g _ _ _ _ hg] at k1 k2; exact ⟨k1, k2⟩
/-- the record's payload -/
def recData (zs : List Nat) : List Nat := (zs.drop 12).take (recN zs)
theorem getD_split (zs : List Nat) (k : Nat) (h : k < zs.length) : zs.drop k = zs.getD k 0 :: zs.drop (k + 1) := by
  rw [List.drop_eq_getElem_cons h, List.getD_eq_getElem?_getD, List.getElem?_eq_getElem h]; rfl
theorem take_split (zs : List Nat) (a b : Nat) : zs.take (a + b) = zs.take a ++ (zs.drop a).take b := by rw [List.take_add]
theorem recData_len (zs : List Nat) (h : 12 + recN zs ≤ zs.length) : (recData zs).length = recN zs := by simp [recData]; omega
theorem head_eq (zs : List Nat) (hb : ∀ z ∈ zs, z < 256) (h12 : 12 ≤ zs.length) (hok : ¬ headBad zs) (hl : 12 + recN zs ≤ zs.length) : zs.take 8 = encHead (zs.getD 4 0) (recData zs) := by
  obtain ⟨g5, g6, g7⟩ : zs.getD 5 0 = 0 ∧ zs.getD 6 0 = 0 ∧ zs.getD 7 0 = 0 := by
    unfold headBad at hok
    refine ⟨?_, ?_, ?_⟩
    · exact Classical.byContradiction fun h => hok (.inr (.inr (.inl h)))
    · exact Classical.byContradiction fun h => hok (.inr (.inr (.inr (.inl h))))
    · exact Classical.byContradiction fun h => hok (.inr (.inr (.inr (.inr h))))
  unfold encHead
  rw [recData_len zs hl]; have h4 : le4 (recN zs) = zs.take 4 := le4_of_val (zs.take 4) (fun z hz => hb z (List.mem_of_mem_take hz)) (by simp; omega); rw [h4, show (8 : Nat) = 4 + 4 from rfl, take_split zs 4 4, getD_split zs 4 (by omega), getD_split zs 5 (by omega), getD_split zs 6 (by omega), getD_split zs 7 (by omega), g5, g6, g7]
  simp
theorem sum_eq (zs : List Nat) (hb : ∀ z ∈ zs, z < 256) (h12 : 12 ≤ zs.length) : ¬ sumBad zs ↔ (zs.drop 8).take 4 = le4 (Crc.crc (zs.take 8 ++ recData zs)) := by
  have hb4 : ∀ z ∈ (zs.drop 8).take 4, z < 256 := fun z hz => hb z (List.mem_of_mem_drop (List.mem_of_mem_take hz))
  have hl4 : ((zs.drop 8).take 4).length = 4 := by simp; omega
  unfold sumBad recData
  constructor
  · intro h; have h1 := Classical.byContradiction (fun h' => h h'); rw [← h1, le4_of_val _ hb4 hl4]
  · intro h h'
    apply h'
    have := congrArg leVal h; rw [le4_val _ (crc_lt _)] at this; exact this
theorem enc_twelve (ty : Nat) (d : List Nat) : (enc ty d).take 12 = encHead ty d ++ le4 (Crc.crc (encHead ty d ++ d)) := by
  have h : (encHead ty d ++ le4 (Crc.crc (encHead ty d ++ d))).length = 12 := by simp [encHead, le4]
  unfold enc
  rw [List.append_assoc, List.take_append_of_le_length (by omega), List.take_of_length_le (by omega)]
/-- the first twelve bytes tell the sum -/
theorem twelve_eq (zs : List Nat) (hb : ∀ z ∈ zs, z < 256) (h12 : 12 ≤ zs.length) (hok : ¬ headBad zs) (hl : 12 + recN zs ≤ zs.length) :
    (enc (zs.getD 4 0) (recData zs)).take 12 = zs.take 12 ↔ ¬ sumBad zs := by
  have h8 := head_eq zs hb h12 hok hl; rw [enc_twelve, ← h8, show (12 : Nat) = 8 + 4 from rfl, take_split zs 8 4, sum_eq zs hb h12]
  constructor
  · intro h; exact (List.append_cancel_left h).symm
  · intro h; rw [h]
theorem enc_rest (ty : Nat) (d : List Nat) : enc ty d = (enc ty d).take 12 ++ (d ++ List.replicate (pad d.length) 0) := by
  have h : (encHead ty d ++ le4 (Crc.crc (encHead ty d ++ d))).length = 12 := by simp [encHead, le4]
  rw [enc_twelve]
  unfold enc
  simp [List.append_assoc]
theorem pad_eq (zs : List Nat) (hl : recSize zs ≤ zs.length) : ¬ padBad zs ↔ padBytes zs = List.replicate (pad (recN zs)) 0 := by
  have hlp : (padBytes zs).length = pad (recN zs) := by unfold recSize at hl; simp [padBytes]; omega
  unfold padBad
  rw [Classical.not_not]
  constructor
  · intro h; exact List.eq_replicate_iff.2 ⟨hlp, h⟩
  · intro h z hz; rw [h] at hz; exact List.eq_of_mem_replicate hz
theorem whole_eq (zs : List Nat) (hb : ∀ z ∈ zs, z < 256) (h12 : 12 ≤ zs.length) (hok : ¬ headBad zs) (hl : recSize zs ≤ zs.length) :
    enc (zs.getD 4 0) (recData zs) = zs.take (recSize zs) ↔ ¬ sumBad zs ∧ ¬ padBad zs := by
  have hl' : 12 + recN zs ≤ zs.length := by unfold recSize at hl; omega
  have e : zs.take (recSize zs) = zs.take 12 ++ (recData zs ++ padBytes zs) := by
    unfold recSize recData padBytes
    rw [take_split zs (12 + recN zs) (pad (recN zs)), take_split zs 12 (recN zs), List.append_assoc]
  have hd := recData_len zs hl'; rw [e, enc_rest, hd, ← twelve_eq zs hb h12 hok hl', pad_eq zs hl]
  have h1 : ((enc (zs.getD 4 0) (recData zs)).take 12).length = (zs.take 12).length := by
    rw [enc_twelve]; simp [encHead, le4]; omega
  constructor
  · intro h; obtain ⟨h2, h3⟩ := List.append_inj h h1; exact ⟨h2, (List.append_cancel_left h3).symm⟩
  · rintro ⟨h2, h3⟩; rw [h2, h3]
/-- a record as it lies: type, bytes, the bytes' block, their capacity -/
structure Rc where
  ty : Nat
  data : List Nat
  g : Nat
  cp : Nat
def Rc.cells (r : Rc) : List Value := [.int .i64 (r.ty : Int), .slice (some ⟨r.g, 0, none⟩) r.data.length r.cp]
def Rc.tell (r : Rc) : Nat × List Nat := (r.ty, r.data)
def RecRow (w : World) (base : Nat) (v : Value) (R : List Rc) : Prop :=
  w.ownsRow base 85 2 v R.length (R.flatMap Rc.cells) ∧ (∀ r ∈ R, base ≤ r.g ∧ Own w 5 r.g r.data) ∧ (R.map Rc.g).Nodup
theorem RecRow.nil (w : World) (base : Nat) : RecRow w base (.slice none 0 0) [] := ⟨World.ownsRow_nil _ _ _ _, by simp, by simp⟩
theorem Own.type {w : World} {e e' : TypeId} {g : Nat} {zs : List Nat} {cur : Array Value} {f : Nat × Nat} (h : Own w e g zs) (h' : w.heap[g]? = some (.cells cur e' f)) : e = e' := by
  obtain ⟨_, cur', hg, _⟩ := h; rw [hg] at h'; simp only [Option.some.injEq, Obj.cells.injEq] at h'; exact h'.2.1
/-- kept where its blocks are -/
theorem RecRow.kept {w w' : World} {base : Nat} {v : Value} {R : List Rc} (h : RecRow w base v R) (hk : ∀ k, base ≤ k → k < w.heap.size → w'.heap[k]? = w.heap[k]?) : RecRow w' base v R := by
  obtain ⟨h1, h2, h3⟩ := h; refine ⟨⟨h1.1, ?_⟩, fun r hr => ⟨(h2 r hr).1, (h2 r hr).2.of_block (hk _ (h2 r hr).1 (h2 r hr).2.lt)⟩, h3⟩
  rcases h1.2 with h | ⟨g, cap, cur, hv, hb, hg, rest⟩
  · exact .inl h
  · exact .inr ⟨g, cap, cur, hv, hb, (hk g hb (Array.getElem?_eq_some_iff.1 hg).1).trans hg, rest⟩
theorem RecRow.grown {w w' : World} {row : Option Nat} {base : Nat} {v : Value} {R : List Rc} (h : RecRow w base v R) (hg : w.grownBy w' row) (hr : ∀ k, row = some k → k < base) : RecRow w' base v R :=
  h.kept fun k hb hk => hg.block k hk (fun e => by have := hr k e.symm; omega)
theorem RecRow.lower {w : World} {base base' : Nat} {v : Value} {R : List Rc} (h : RecRow w base v R) (hb : base' ≤ base) : RecRow w base' v R :=
  ⟨ownsRow_base h.1 hb, fun r hr => ⟨Nat.le_trans hb (h.2.1 r hr).1, (h.2.1 r hr).2⟩, h.2.2⟩
theorem RecRow.lt {w : World} {base : Nat} {v : Value} {R : List Rc} (h : RecRow w base v R) : ∀ r ∈ R, r.g < w.heap.size := fun r hr => (h.2.1 r hr).2.lt
/-- a record more: what an append onto the row leaves -/
theorem RecRow.append {w w' : World} {base : Nat} {v v' : Value} {R : List Rc} {r : Rc} (h : RecRow w base v R) (hO : Own w 5 r.g r.data) (hb : base ≤ r.g) (hn : r.g ∉ R.map Rc.g)
    (hown : w'.ownsRow base 85 2 v' (R.length + 1) (R.flatMap Rc.cells ++ r.cells)) (hg : w.grownBy w' v.ownBlock) : RecRow w' base v' (R ++ [r]) := by
  obtain ⟨h1, h2, h3⟩ := h
  have hne : ∀ g zs, Own w 5 g zs → some g ≠ v.ownBlock := by
    intro g zs hgO e
    rcases h1.2 with ⟨rfl, _⟩ | ⟨g', cap, cur, rfl, hb', hg', _⟩
    · simp [Value.ownBlock] at e
    · simp only [Value.ownBlock, Option.some.injEq] at e; subst e; exact absurd (hgO.type hg') (by decide)
  refine ⟨by simpa using hown, fun r' hr' => ?_, ?_⟩
  · rcases List.mem_append.1 hr' with hr | hr
    · exact ⟨(h2 r' hr).1, (h2 r' hr).2.grown hg (hne _ _ (h2 r' hr).2)⟩
    · obtain rfl : r' = r := by simpa using hr
      exact ⟨hb, hO.grown hg (hne _ _ hO)⟩
  · rw [List.map_append, List.nodup_append]; refine ⟨h3, by simp, fun a ha b hb' => ?_⟩
    obtain rfl : b = r.g := by simpa using hb'
    intro e; subst e; exact hn ha
/-- what l2Get makes of at most eight bytes -/
def satVal (zs : List Nat) : Nat := if 18014398509481984 ≤ leVal (zs.drop 1) then 4611686018427387904 else leVal zs
theorem leVal_drop (zs : List Nat) (k : Nat) (h : k < zs.length) : leVal (zs.drop k) = zs.getD k 0 + 256 * leVal (zs.drop (k + 1)) := by
  rw [List.drop_eq_getElem_cons h, leVal, List.getD_eq_getElem?_getD, List.getElem?_eq_getElem h]
  rfl
theorem leVal_drop_lt (zs : List Nat) (hb : ∀ z ∈ zs, z < 256) (h8 : zs.length ≤ 8) (k : Nat) (hk : 2 ≤ k) : leVal (zs.drop k) < 18014398509481984 := by
  have h1 := leVal_lt (zs.drop k) (fun z hz => hb z (List.mem_of_mem_drop hz))
  have h2 : (zs.drop k).length ≤ 6 := by simp; omega
  exact Nat.lt_of_lt_of_le h1 (Nat.le_trans (Nat.pow_le_pow_right (by decide) h2) (by decide))
theorem satVal_four (zs : List Nat) (hb : ∀ z ∈ zs, z < 256) (h4 : zs.length ≤ 4) : satVal zs = leVal zs := by
  have h1 := leVal_lt (zs.drop 1) (fun z hz => hb z (List.mem_of_mem_drop hz))
  have h2 : (zs.drop 1).length ≤ 3 := by simp; omega
  have h3 : leVal (zs.drop 1) < 16777216 := Nat.lt_of_lt_of_le h1 (Nat.le_trans (Nat.pow_le_pow_right (by decide) h2) (by decide))
  unfold satVal
  rw [if_neg (by omega)]

set_option maxRecDepth 100000 in
set_option maxHeartbeats 1000000 in
theorem l2Get_any (oa : Option Addr) (len cap : Nat) (zs : List Nat) (w : World) (hsl : SlB w oa len zs) (h8 : len ≤ 8) :
    Calls Tryz.prog 50 #[.slice oa len cap] w fun e w' => e = .returned (.int .i64 ((satVal zs : Nat) : Int)) ∧ w' = w := by
  obtain ⟨hl, hb, hc⟩ := hsl; have HB : Hid (∀ z ∈ zs, z < 256) := hb; have HC : Hid (len ≠ 0 → _) := hc; clear hb hc
  go_enter Tryz.func50, Tryz.ntmps50
  go_wp2
  go_loop [3, 4] (fun v i => ∃ k : Nat, k ≤ len ∧ i = .int .i64 ((k : Int) - 1) ∧ v = .int .i64 ((leVal (zs.drop k) : Nat) : Int) ∧ (k = 0 → leVal (zs.drop 1) < 18014398509481984)) (fun _ i => (intOf i + 1).toNat)
  case atStart =>
    refine ⟨len, Nat.le_refl _, rfl, by rw [List.drop_of_length_le (by omega)]; rfl, fun h => ?_⟩; rw [List.drop_of_length_le (by omega)]
    decide
  case round =>
    obtain ⟨k, hk, rfl, rfl, hs⟩ := hrel
    by_cases h0 : k = 0
    · subst h0
      have HS : Hid (satVal zs = leVal (zs.drop 0)) := by
        show _ = _
        unfold satVal
        rw [if_neg (by have := hs rfl; omega)]
        rfl
      obtain ⟨x, hx⟩ : ∃ x, leVal (zs.drop 0) = x := ⟨_, rfl⟩; rw [hx] at HS ⊢; clear hs hx; go_wp2; go_ret; exact ⟨by rw [HS.out]; rfl, rfl⟩
    · obtain ⟨b, off, rfl, hcc⟩ := HC.out (by omega); obtain ⟨j, rfl⟩ : ∃ j, k = j + 1 := ⟨k - 1, by omega⟩; have hck := hcc j (by omega); obtain ⟨c, hce⟩ : ∃ c, c = zs.getD j 0 := ⟨_, rfl⟩
      have hc256 : c < 256 := by rw [hce]; exact HB.out _ (Crc.getD_mem _ _ (by omega))
      rw [← hce] at hck; have hn := leVal_drop zs j (by omega); rw [← hce] at hn; obtain ⟨x, hx⟩ : ∃ x, leVal (zs.drop (j + 1)) = x := ⟨_, rfl⟩
      have HL : Hid (2 ≤ j + 1 → x < 18014398509481984) := fun h => by rw [← hx]; exact leVal_drop_lt zs HB.out (by omega) (j + 1) h
      have HX : Hid (leVal (zs.drop (j + 1)) = x) := hx
      have HN : Hid (leVal (zs.drop j) = c + 256 * x) := by show _ = _; rw [hn, hx]
      rw [hx]; clear hn hx hce hcc HC hs
      have ej : ((j + 1 : Nat) : Int) - 1 = (j : Int) := by omega
      rw [ej]
      by_cases hbig : 18014398509481984 ≤ x
      · have hj : j = 0 := by
          apply Classical.byContradiction
          intro hj; have := HL.out (by omega)
          omega
        have HS : Hid (satVal zs = 4611686018427387904) := by
          show _ = _
          unfold satVal
          subst hj; rw [if_pos (by rw [HX.out]; omega)]
        have hbi : (18014398509481984 : Int) ≤ (x : Int) := by omega
        clear hbig; go_wp2; go_ret; exact ⟨by rw [HS.out]; rfl, rfl⟩
      · obtain ⟨X, hX⟩ : ∃ X : Int, (x : Int) = X := ⟨_, rfl⟩
        have hX0 : 0 ≤ X := by omega
        have hX1 : X < 18014398509481984 := by omega
        have HB2 : Hid (x < 18014398509481984) := by show _ < _; omega
        have HXI : Hid ((x : Int) = X) := hX; rw [hX]; clear hbig hX; go_wp2
        go_round
        case rel => exact ⟨j, by omega, by go_num, by rw [HN.out, Int.natCast_add, Int.natCast_mul, HXI.out]; go_num, fun h => by subst h; rw [HX.out]; exact HB2.out⟩
        case measure => simp [intOf]

end Go.Proofs.YtjnegjgpkboocaaGreatDoor
