/-
  DrawMergePoint, walked: whatever it draws, two bounded rows and two numbers.
-/
import Derived.Test.YtionggfecikedaaMDraw2
namespace Go.Proofs.Ytionggfecikedaa
open Go.RowKit

set_option maxRecDepth 4000 in
set_option maxHeartbeats 4000000 in
theorem drawMerge_any (oa : Option Addr) (len cap : Nat) (zs : List Nat) (w : World) (hsl : SlB w oa len zs) (hm : len ≤ 1073741824) :
    Calls Try.prog 41 #[.slice oa len cap] w fun e w' => ∃ (base prev : Int) (v1 v2 : Value) (s : Nat) (ts ns : List Int), e = .returned (.tuple #[.int .i64 base, v1, .int .i64 prev, v2]) ∧ i64Ok base ∧ i64Ok prev ∧ MS w w' s zs v1 v2 ts ns ∧ ts.length ≤ 20 ∧ ns.length ≤ 20 := by
  obtain ⟨i0, TI⟩ := intT
  have HS : Hid (SlB w oa len zs) := hsl
  clear hsl
  go_enter Try.func41, Try.ntmps41
  go_wp2_with fail
  refine (l1Draw_any oa len cap zs _ HS.out hm).mono ?_
  rintro e w1 ⟨s, rfl, hsw, hS1, hG1⟩
  have H1 : Hid (Src w1 s zs ∧ w.grownBy w1 none ∧ w.heap.size ≤ s ∧ s < w1.heap.size) := ⟨hS1, hG1, hsw, hS1.lt⟩
  clear hS1 hG1 hsw
  go_wp2_with fail
  refine (drawN_any s 5 zs _ H1.out.1 (by decide) (by decide)).mono ?_
  rintro e w2 ⟨b0, rfl, -, hb, h1, h2⟩
  have hb5 : b0 < 5 := by have := hb (by decide); omega
  have H2 : Hid (Src w2 s zs ∧ w.grownBy w2 none ∧ w.heap.size ≤ s ∧ s < w2.heap.size) := ⟨h1, grownBy_new H1.out.2.1 h2 H1.out.2.2.1, H1.out.2.2.1, h1.lt⟩
  clear h1 h2 hb H1
  go_wp2_with fail
  refine (l1Size_any oa len cap 20 _ hm (by decide)).mono ?_
  rintro e w3 ⟨m, rfl, hm20, hw3⟩
  subst hw3
  go_wp2_with fail
  refine (drawN_any s (m : Int) zs _ H2.out.1 (by omega) (by omega)).mono ?_
  rintro e w4 ⟨n, rfl, hn0, hn1, h1, h2⟩
  have hn20 : n ≤ 20 := by
    by_cases h : (m : Int) ≤ 1
    · have := hn0 h; omega
    · have := hn1 (by omega); omega
  have H4 : Hid (Src w4 s zs ∧ w.grownBy w4 none ∧ w.heap.size ≤ s ∧ s < w4.heap.size) := ⟨h1, grownBy_new H2.out.2.1 h2 H2.out.2.2.1, H2.out.2.2.1, h1.lt⟩
  clear h1 h2 hn0 hn1 H2
  go_wp2_with fail
  refine (l5Terms_any s n zs _ H4.out.1 (by omega)).mono ?_
  rintro e w5 ⟨v1, ts, rfl, htl, hts, hr1, h1, h2⟩
  obtain ⟨oa1, cp1, hv1, -⟩ := rowForm hr1
  subst hv1
  have H5 : Hid (MS w w5 s zs (.slice oa1 n cp1) (.slice none 0 0) ts []) := ⟨h1, grownBy_new H4.out.2.1 h2 H4.out.2.2.1, H4.out.2.2.1, by rw [htl]; exact row_low hr1 (by have := H4.out.2.2.2; omega), World.ownsRow_nil _ _ _ _, (fun g _ h9 => by cases h9), hts, by simp⟩
  clear h1 h2 hr1 hts H4
  go_wp2_with fail
  refine (drawN_any s ((b0 : Int) + n + 2) zs _ H5.out.src (by omega) (by omega)).mono ?_
  rintro e w6 ⟨p0, rfl, -, hp, h1, h2⟩
  have hp0 : p0 < b0 + n + 2 := by have := hp (by omega); omega
  have H6 : Hid (MS w w6 s zs (.slice oa1 n cp1) (.slice none 0 0) ts []) := H5.out.draw h1 h2
  clear h1 h2 hp H5
  go_wp2_with fail
  refine (drawN_any s 9 zs _ H6.out.src (by decide) (by decide)).mono ?_
  rintro e w7 ⟨q9, rfl, -, hq, h1, h2⟩
  have hq9 : q9 < 9 := by have := hq (by decide); omega
  have H7 : Hid (MS w w7 s zs (.slice oa1 n cp1) (.slice none 0 0) ts []) := H6.out.draw h1 h2
  clear h1 h2 hq H6
  go_wp2_with fail
  refine (l5Terms_any s q9 zs _ H7.out.src (by omega)).mono ?_
  rintro e w8 ⟨v2, ns, rfl, hnl, hns, hr2, h1, h2⟩
  have H8 : Hid (MS w w8 s zs (.slice oa1 n cp1) v2 ts ns) := by
    have hd := H7.out.draw h1 h2
    refine ⟨hd.src, hd.grown, hd.low, hd.r1, by rw [hnl]; exact row_low hr2 (by have := H7.out.src.lt; omega), ?_, hd.s1, fun z hz => (hns z hz).two⟩
    intro g hg1 hg2
    have h8 := (hr2.lt g hg2).1
    have h9 := (H7.out.r1.lt g hg1).2
    omega
  have HNL : Hid (ns.length ≤ 20) := by show _ ≤ _; omega
  clear h1 h2 hr2 H7 hns
  go_wp2_with fail
  refine (drawN_any s 3 zs _ H8.out.src (by decide) (by decide)).mono ?_
  rintro e w9 ⟨q3, rfl, -, -, h1, h2⟩
  have H9 : Hid (MS w w9 s zs (.slice oa1 n cp1) v2 ts ns) := H8.out.draw h1 h2
  clear h1 h2 H8
  by_cases hq0 : q3 = 0
  · subst hq0
    go_wp2_with fail
    refine (one_any s 12 zs _ H9.out.src (by decide) (by decide)).mono ?_
    rintro e wa ⟨ba, rfl, h1, h2⟩
    have HA : Hid (MS w wa s zs (.slice oa1 n cp1) v2 ts ns) := H9.out.draw h1 h2
    clear h1 h2
    cases ba
    · go_wp2_with fail
      refine (one_any s 12 zs _ HA.out.src (by decide) (by decide)).mono ?_
      rintro e wb ⟨bb, rfl, h1, h2⟩
      have HB : Hid (MS w wb s zs (.slice oa1 n cp1) v2 ts ns) := HA.out.draw h1 h2
      clear h1 h2
      cases bb
      · go_wp2
        refine bodyPost_ret (v := .tuple #[.int .i64 (b0 : Int), (.slice oa1 n cp1), .int .i64 (p0 : Int), v2]) (by simp [results, Try.results41, go_sem]) rfl ?_
        exact ⟨(b0 : Int), (p0 : Int), (.slice oa1 n cp1), v2, s, ts, ns, rfl, ⟨by omega, by omega⟩, ⟨by omega, by omega⟩, HB.out, by omega, HNL.out⟩
      · go_wp2_with fail
        refine (wild_any s zs _ HB.out.src).mono ?_
        rintro e wc ⟨z, rfl, hz, h1, h2⟩
        have HC : Hid (MS w wc s zs (.slice oa1 n cp1) v2 ts ns ∧ i64Ok z) := ⟨HB.out.draw h1 h2, hz⟩
        clear h1 h2 hz
        go_wp2_with fail
        have hE := HC.out.1.more (World.grownBy_alloc wc (.cells #[.int .i64 (-1), .int .i64 1000001, .int .i64 z] 3) none)
        refine (drawN_any s 3 zs _ hE.src (by decide) (by decide)).mono ?_
        rintro e wd ⟨q, rfl, -, hq, h1, h2⟩
        have hq3 : q < 3 := by have := hq (by decide); omega
        have hsw : s < wc.heap.size := HC.out.1.src.lt
        have hbl : wd.heap[wc.heap.size]? = some (.cells #[.int .i64 (-1), .int .i64 1000001, .int .i64 z] 3 (0, 0)) := (h2.block wc.heap.size (by simp) (by simp; omega)).trans (heap_alloc_new wc _)
        obtain ⟨y, hx, hxo⟩ : ∃ x, wd.cell? ⟨wc.heap.size, q, none⟩ = some (.int .i64 x) ∧ i64Ok x := by
          rcases (show q = 0 ∨ q = 1 ∨ q = 2 by omega) with rfl | rfl | rfl
          · exact ⟨-1, by simp [World.cell?, hbl], by decide, by decide⟩
          · exact ⟨1000001, by simp [World.cell?, hbl], by decide, by decide⟩
          · exact ⟨z, by simp [World.cell?, hbl], HC.out.2⟩
        have HD : Hid (MS w wd s zs (.slice oa1 n cp1) v2 ts ns ∧ i64Ok y) := ⟨hE.draw h1 h2, hxo⟩
        clear h1 h2 hq hbl hxo hE HC hsw
        go_wp2
        refine bodyPost_ret (v := .tuple #[.int .i64 (b0 : Int), (.slice oa1 n cp1), .int .i64 y, v2]) (by simp [results, Try.results41, go_sem]) rfl ?_
        exact ⟨(b0 : Int), y, (.slice oa1 n cp1), v2, s, ts, ns, rfl, ⟨by omega, by omega⟩, HD.out.2, HD.out.1, by omega, HNL.out⟩
    · go_wp2_with fail
      refine (wild_any s zs _ HA.out.src).mono ?_
      rintro e we ⟨z, rfl, hz, h1, h2⟩
      have HC : Hid (MS w we s zs (.slice oa1 n cp1) v2 ts ns ∧ i64Ok z) := ⟨HA.out.draw h1 h2, hz⟩
      clear h1 h2 hz
      go_wp2_with fail
      have hE := HC.out.1.more (World.grownBy_alloc we (.cells #[.int .i64 (-1), .int .i64 1000001, .int .i64 z] 3) none)
      refine (drawN_any s 3 zs _ hE.src (by decide) (by decide)).mono ?_
      rintro e wf ⟨q, rfl, -, hq, h1, h2⟩
      have hq3 : q < 3 := by have := hq (by decide); omega
      have hsw : s < we.heap.size := HC.out.1.src.lt
      have hbl : wf.heap[we.heap.size]? = some (.cells #[.int .i64 (-1), .int .i64 1000001, .int .i64 z] 3 (0, 0)) := (h2.block we.heap.size (by simp) (by simp; omega)).trans (heap_alloc_new we _)
      obtain ⟨x, hx, hxo⟩ : ∃ x, wf.cell? ⟨we.heap.size, q, none⟩ = some (.int .i64 x) ∧ i64Ok x := by
        rcases (show q = 0 ∨ q = 1 ∨ q = 2 by omega) with rfl | rfl | rfl
        · exact ⟨-1, by simp [World.cell?, hbl], by decide, by decide⟩
        · exact ⟨1000001, by simp [World.cell?, hbl], by decide, by decide⟩
        · exact ⟨z, by simp [World.cell?, hbl], HC.out.2⟩
      have HF : Hid (MS w wf s zs (.slice oa1 n cp1) v2 ts ns ∧ i64Ok x) := ⟨hE.draw h1 h2, hxo⟩
      clear h1 h2 hq hbl hxo hE HC hsw
      go_wp2_with fail
      refine (one_any s 12 zs _ HF.out.1.src (by decide) (by decide)).mono ?_
      rintro e wb ⟨bb, rfl, h1, h2⟩
      have HB : Hid (MS w wb s zs (.slice oa1 n cp1) v2 ts ns) := HF.out.1.draw h1 h2
      clear h1 h2
      cases bb
      · go_wp2
        refine bodyPost_ret (v := .tuple #[.int .i64 x, (.slice oa1 n cp1), .int .i64 (p0 : Int), v2]) (by simp [results, Try.results41, go_sem]) rfl ?_
        exact ⟨x, (p0 : Int), (.slice oa1 n cp1), v2, s, ts, ns, rfl, HF.out.2, ⟨by omega, by omega⟩, HB.out, by omega, HNL.out⟩
      · go_wp2_with fail
        refine (wild_any s zs _ HB.out.src).mono ?_
        rintro e wc ⟨z, rfl, hz, h1, h2⟩
        have HC : Hid (MS w wc s zs (.slice oa1 n cp1) v2 ts ns ∧ i64Ok z) := ⟨HB.out.draw h1 h2, hz⟩
        clear h1 h2 hz
        go_wp2_with fail
        have hE := HC.out.1.more (World.grownBy_alloc wc (.cells #[.int .i64 (-1), .int .i64 1000001, .int .i64 z] 3) none)
        refine (drawN_any s 3 zs _ hE.src (by decide) (by decide)).mono ?_
        rintro e wd ⟨q, rfl, -, hq, h1, h2⟩
        have hq3 : q < 3 := by have := hq (by decide); omega
        have hsw : s < wc.heap.size := HC.out.1.src.lt
        have hbl : wd.heap[wc.heap.size]? = some (.cells #[.int .i64 (-1), .int .i64 1000001, .int .i64 z] 3 (0, 0)) := (h2.block wc.heap.size (by simp) (by simp; omega)).trans (heap_alloc_new wc _)
        obtain ⟨y, hx, hxo⟩ : ∃ x, wd.cell? ⟨wc.heap.size, q, none⟩ = some (.int .i64 x) ∧ i64Ok x := by
          rcases (show q = 0 ∨ q = 1 ∨ q = 2 by omega) with rfl | rfl | rfl
          · exact ⟨-1, by simp [World.cell?, hbl], by decide, by decide⟩
          · exact ⟨1000001, by simp [World.cell?, hbl], by decide, by decide⟩
          · exact ⟨z, by simp [World.cell?, hbl], HC.out.2⟩
        have HD : Hid (MS w wd s zs (.slice oa1 n cp1) v2 ts ns ∧ i64Ok y) := ⟨hE.draw h1 h2, hxo⟩
        clear h1 h2 hq hbl hxo hE HC hsw
        go_wp2
        refine bodyPost_ret (v := .tuple #[.int .i64 x, (.slice oa1 n cp1), .int .i64 y, v2]) (by simp [results, Try.results41, go_sem]) rfl ?_
        exact ⟨x, y, (.slice oa1 n cp1), v2, s, ts, ns, rfl, HF.out.2, HD.out.2, HD.out.1, by omega, HNL.out⟩
  · have hq1 : 0 < q3 := by omega
    have H10 : Hid (MS w w9 s zs (.slice oa1 n cp1) (.slice none 0 0) ts []) := H9.out.none2
    clear H9 HNL hnl
    go_wp2
    go_loopw [10, 11] (fun o k wr => ∃ (kk : Nat) (v : Value) (ms : List Int), p0 ≤ kk ∧ kk ≤ p0 + 8 ∧ ms.length + p0 = kk ∧ v = o ∧ k = .int .i64 (kk : Int) ∧ (∀ z ∈ ms, small z) ∧ MS w wr s zs (.slice oa1 n cp1) v ts ms) (fun _ k _ => p0 + 8 - (intOf k).toNat)
    case atStart => exact ⟨p0, _, [], Nat.le_refl _, by omega, by simp, rfl, rfl, by simp, H10.out⟩
    case round =>
      clear H10
      obtain ⟨kk, v, ms, hk0, hk8, hml, rfl, rfl, hsm, hM⟩ := hrel
      have HM : Hid (MS w wr s zs (.slice oa1 n cp1) v ts ms) := hM
      have HSM : Hid (∀ z ∈ ms, small z) := hsm
      clear hM hsm
      by_cases c1 : (kk : Int) < (p0 : Int) + 8
      · by_cases c2 : (kk : Int) - (b0 : Int) < (n : Int)
        · by_cases c3 : (b0 : Int) ≤ (kk : Int)
          · obtain ⟨j, hj⟩ : ∃ j : Nat, (kk : Int) - (b0 : Int) = (j : Int) := ⟨kk - b0, by omega⟩
            have hr1 := HM.out.r1
            rw [htl] at hr1
            obtain ⟨b, off, he, hcc⟩ := (rowSl hr1 (fun z hz => (HM.out.s1 z hz).ok)).2.2 (by omega)
            subst he
            have hcj := hcc j (by omega)
            have hxs : small (ts.getD j 0) := HM.out.s1 _ (getI_mem (by omega))
            obtain ⟨x, hx⟩ : ∃ x, ts.getD j 0 = x := ⟨_, rfl⟩
            rw [hx] at hcj hxs
            clear hcc hx hr1
            go_wp2_with (at_builtin; refine wpList_append_i (by rfl) (.tmp 55) (.tmp 62) TI (by rfl) (base := s + 1) (n := ms.length) (xs := ms) (by rfl) (by exact HM.out.r2.alloc _) (oa := some ⟨wr.heap.size, 0, none⟩) (m := 1) (c := 1) (zs := [x]) (by rfl) (by exact one_slI wr _ hxs.ok _) (by omega) (by have := HM.out.src.lt; simp; omega) ?_)
            intro v' w4 hown' hgr hat hsz
            have R : Hid (MS w w4 s zs (.slice (some ⟨b, off, none⟩) n cp1) v' ts (ms ++ [x])) := HM.out.push (World.grownBy_alloc wr _ none) (by rw [List.map_append]; exact hown'.out) hgr.out (fun g' h9 => by simpa using hat.out g' h9) hxs.two
            have HSM2 : Hid (∀ z ∈ ms ++ [x], small z) := by
              intro z hz
              rcases List.mem_append.1 hz with h | h
              · exact HSM.out z h
              · simp at h; subst h; exact hxs
            clear hown' hgr hat hsz
            go_wp2
            go_roundw
            case rel => exact ⟨kk + 1, v', ms ++ [x], by omega, by omega, by simp; omega, rfl, by go_num, HSM2.out, R.out⟩
            case measure => simp [intOf]; omega
          · have hxs : small (0 : Int) := ⟨by decide, by decide⟩
            go_wp2_with (at_builtin; refine wpList_append_i (by rfl) (.tmp 64) (.tmp 65) TI (by rfl) (base := s + 1) (n := ms.length) (xs := ms) (by rfl) (by exact HM.out.r2.alloc _) (oa := some ⟨wr.heap.size, 0, none⟩) (m := 1) (c := 1) (zs := [(0 : Int)]) (by rfl) (by exact one_slI wr _ hxs.ok _) (by omega) (by have := HM.out.src.lt; simp; omega) ?_)
            intro v' w4 hown' hgr hat hsz
            have R : Hid (MS w w4 s zs (.slice oa1 n cp1) v' ts (ms ++ [(0 : Int)])) := HM.out.push (World.grownBy_alloc wr _ none) (by rw [List.map_append]; exact hown'.out) hgr.out (fun g' h9 => by simpa using hat.out g' h9) hxs.two
            have HSM2 : Hid (∀ z ∈ ms ++ [(0 : Int)], small z) := by
              intro z hz
              rcases List.mem_append.1 hz with h | h
              · exact HSM.out z h
              · simp at h; subst h; exact hxs
            clear hown' hgr hat hsz
            go_wp2
            go_roundw
            case rel => exact ⟨kk + 1, v', ms ++ [(0 : Int)], by omega, by omega, by simp; omega, rfl, by go_num, HSM2.out, R.out⟩
            case measure => simp [intOf]; omega
        · go_wp2_with fail
          refine (drawN_any s 4 zs _ HM.out.src (by decide) (by decide)).mono ?_
          rintro e wq ⟨k4, rfl, -, hk, h1, h2⟩
          have hk4 : k4 < 4 := by have := hk (by decide); omega
          have HQ : Hid (MS w wq s zs (.slice oa1 n cp1) v ts ms) := HM.out.draw h1 h2
          clear h1 h2 hk HM
          have H0 : Hid (ms.length + k4 ≤ 11 ∧ (∀ z ∈ ms, small z)) := ⟨by omega, HSM.out⟩
          clear HSM hml
          go_wp2
          go_loopw [10, 12] (fun o k wr => ∃ (kk : Nat) (v : Value) (ms : List Int), ms.length + kk ≤ 11 ∧ v = o ∧ k = .int .i64 (kk : Int) ∧ (∀ z ∈ ms, small z) ∧ MS w wr s zs (.slice oa1 n cp1) v ts ms) (fun _ k _ => (intOf k).toNat)
          case atStart => exact ⟨k4, v, ms, H0.out.1, rfl, rfl, H0.out.2, HQ.out⟩
          case round =>
            clear H0 HQ
            obtain ⟨kk, v, ms, hml, rfl, rfl, hsm, hM⟩ := hrel
            have HM : Hid (MS w wr s zs (.slice oa1 n cp1) v ts ms) := hM
            have HSM : Hid (∀ z ∈ ms, small z) := hsm
            clear hM hsm
            by_cases c1 : (0 : Int) < (kk : Int)
            · go_wp2_with fail
              refine (drawN_any s 4 zs _ HM.out.src (by decide) (by decide)).mono ?_
              rintro e wr2 ⟨q, rfl, -, hq, h1, h2⟩
              have hq4 : q < 4 := by have := hq (by decide); omega
              have HM2 : Hid (MS w wr2 s zs (.slice oa1 n cp1) v ts ms) := HM.out.draw h1 h2
              clear h1 h2 hq HM
              have hxq : small (q : Int) := ⟨by omega, by omega⟩
              have HM := HM2
              go_wp2_with (at_builtin; refine wpList_append_i (by rfl) (.tmp 73) (.tmp 76) TI (by rfl) (base := s + 1) (n := ms.length) (xs := ms) (by rfl) (by exact HM.out.r2.alloc _) (oa := some ⟨wr2.heap.size, 0, none⟩) (m := 1) (c := 1) (zs := [(q : Int)]) (by rfl) (by exact one_slI wr2 _ hxq.ok _) (by omega) (by have := HM.out.src.lt; simp; omega) ?_)
              intro v' w4 hown' hgr hat hsz
              have R : Hid (MS w w4 s zs (.slice oa1 n cp1) v' ts (ms ++ [(q : Int)])) := HM.out.push (World.grownBy_alloc wr2 _ none) (by rw [List.map_append]; exact hown'.out) hgr.out (fun g' h9 => by simpa using hat.out g' h9) hxq.two
              have HSM2 : Hid (∀ z ∈ ms ++ [(q : Int)], small z) := by
                intro z hz
                rcases List.mem_append.1 hz with h | h
                · exact HSM.out z h
                · simp at h; subst h; exact hxq
              clear hown' hgr hat hsz
              go_wp2
              go_roundw
              case rel => exact ⟨kk - 1, v', ms ++ [(q : Int)], by simp; omega, rfl, by first | go_num | (simp; omega), HSM2.out, R.out⟩
              case measure => simp [intOf]; omega
            · obtain rfl : kk = 0 := by omega
              obtain ⟨oa2, cp2, hv2, -⟩ := rowForm HM.out.r2
              subst hv2
              have HNM : Hid (ms.length ≤ 20) := by show _ ≤ _; omega
              by_cases hz0 : ms.length = 0
              · have hz1 : ¬ (0 : Int) < (ms.length : Int) := by omega
                go_wp2_with fail
                refine (one_any s 12 zs _ HM.out.src (by decide) (by decide)).mono ?_
                rintro e wa ⟨ba, rfl, h1, h2⟩
                have HA : Hid (MS w wa s zs (.slice oa1 n cp1) (.slice oa2 ms.length cp2) ts ms) := HM.out.draw h1 h2
                clear h1 h2
                cases ba
                · go_wp2_with fail
                  refine (one_any s 12 zs _ HA.out.src (by decide) (by decide)).mono ?_
                  rintro e wb ⟨bb, rfl, h1, h2⟩
                  have HB : Hid (MS w wb s zs (.slice oa1 n cp1) (.slice oa2 ms.length cp2) ts ms) := HA.out.draw h1 h2
                  clear h1 h2
                  cases bb
                  · go_wp2
                    refine bodyPost_ret (v := .tuple #[.int .i64 (b0 : Int), (.slice oa1 n cp1), .int .i64 (p0 : Int), (.slice oa2 ms.length cp2)]) (by simp [results, Try.results41, go_sem, hz0]) rfl ?_
                    exact ⟨(b0 : Int), (p0 : Int), (.slice oa1 n cp1), (.slice oa2 ms.length cp2), s, ts, ms, rfl, ⟨by omega, by omega⟩, ⟨by omega, by omega⟩, HB.out, by omega, HNM.out⟩
                  · go_wp2_with fail
                    refine (wild_any s zs _ HB.out.src).mono ?_
                    rintro e wc ⟨z, rfl, hz, h1, h2⟩
                    have HC : Hid (MS w wc s zs (.slice oa1 n cp1) (.slice oa2 ms.length cp2) ts ms ∧ i64Ok z) := ⟨HB.out.draw h1 h2, hz⟩
                    clear h1 h2 hz
                    go_wp2_with fail
                    have hE := HC.out.1.more (World.grownBy_alloc wc (.cells #[.int .i64 (-1), .int .i64 1000001, .int .i64 z] 3) none)
                    refine (drawN_any s 3 zs _ hE.src (by decide) (by decide)).mono ?_
                    rintro e wd ⟨q, rfl, -, hq, h1, h2⟩
                    have hq3 : q < 3 := by have := hq (by decide); omega
                    have hsw : s < wc.heap.size := HC.out.1.src.lt
                    have hbl : wd.heap[wc.heap.size]? = some (.cells #[.int .i64 (-1), .int .i64 1000001, .int .i64 z] 3 (0, 0)) := (h2.block wc.heap.size (by simp) (by simp; omega)).trans (heap_alloc_new wc _)
                    obtain ⟨y, hx, hxo⟩ : ∃ x, wd.cell? ⟨wc.heap.size, q, none⟩ = some (.int .i64 x) ∧ i64Ok x := by
                      rcases (show q = 0 ∨ q = 1 ∨ q = 2 by omega) with rfl | rfl | rfl
                      · exact ⟨-1, by simp [World.cell?, hbl], by decide, by decide⟩
                      · exact ⟨1000001, by simp [World.cell?, hbl], by decide, by decide⟩
                      · exact ⟨z, by simp [World.cell?, hbl], HC.out.2⟩
                    have HD : Hid (MS w wd s zs (.slice oa1 n cp1) (.slice oa2 ms.length cp2) ts ms ∧ i64Ok y) := ⟨hE.draw h1 h2, hxo⟩
                    clear h1 h2 hq hbl hxo hE HC hsw
                    go_wp2
                    refine bodyPost_ret (v := .tuple #[.int .i64 (b0 : Int), (.slice oa1 n cp1), .int .i64 y, (.slice oa2 ms.length cp2)]) (by simp [results, Try.results41, go_sem, hz0]) rfl ?_
                    exact ⟨(b0 : Int), y, (.slice oa1 n cp1), (.slice oa2 ms.length cp2), s, ts, ms, rfl, ⟨by omega, by omega⟩, HD.out.2, HD.out.1, by omega, HNM.out⟩
                · go_wp2_with fail
                  refine (wild_any s zs _ HA.out.src).mono ?_
                  rintro e we ⟨z, rfl, hz, h1, h2⟩
                  have HC : Hid (MS w we s zs (.slice oa1 n cp1) (.slice oa2 ms.length cp2) ts ms ∧ i64Ok z) := ⟨HA.out.draw h1 h2, hz⟩
                  clear h1 h2 hz
                  go_wp2_with fail
                  have hE := HC.out.1.more (World.grownBy_alloc we (.cells #[.int .i64 (-1), .int .i64 1000001, .int .i64 z] 3) none)
                  refine (drawN_any s 3 zs _ hE.src (by decide) (by decide)).mono ?_
                  rintro e wf ⟨q, rfl, -, hq, h1, h2⟩
                  have hq3 : q < 3 := by have := hq (by decide); omega
                  have hsw : s < we.heap.size := HC.out.1.src.lt
                  have hbl : wf.heap[we.heap.size]? = some (.cells #[.int .i64 (-1), .int .i64 1000001, .int .i64 z] 3 (0, 0)) := (h2.block we.heap.size (by simp) (by simp; omega)).trans (heap_alloc_new we _)
                  obtain ⟨x, hx, hxo⟩ : ∃ x, wf.cell? ⟨we.heap.size, q, none⟩ = some (.int .i64 x) ∧ i64Ok x := by
                    rcases (show q = 0 ∨ q = 1 ∨ q = 2 by omega) with rfl | rfl | rfl
                    · exact ⟨-1, by simp [World.cell?, hbl], by decide, by decide⟩
                    · exact ⟨1000001, by simp [World.cell?, hbl], by decide, by decide⟩
                    · exact ⟨z, by simp [World.cell?, hbl], HC.out.2⟩
                  have HF : Hid (MS w wf s zs (.slice oa1 n cp1) (.slice oa2 ms.length cp2) ts ms ∧ i64Ok x) := ⟨hE.draw h1 h2, hxo⟩
                  clear h1 h2 hq hbl hxo hE HC hsw
                  go_wp2_with fail
                  refine (one_any s 12 zs _ HF.out.1.src (by decide) (by decide)).mono ?_
                  rintro e wb ⟨bb, rfl, h1, h2⟩
                  have HB : Hid (MS w wb s zs (.slice oa1 n cp1) (.slice oa2 ms.length cp2) ts ms) := HF.out.1.draw h1 h2
                  clear h1 h2
                  cases bb
                  · go_wp2
                    refine bodyPost_ret (v := .tuple #[.int .i64 x, (.slice oa1 n cp1), .int .i64 (p0 : Int), (.slice oa2 ms.length cp2)]) (by simp [results, Try.results41, go_sem, hz0]) rfl ?_
                    exact ⟨x, (p0 : Int), (.slice oa1 n cp1), (.slice oa2 ms.length cp2), s, ts, ms, rfl, HF.out.2, ⟨by omega, by omega⟩, HB.out, by omega, HNM.out⟩
                  · go_wp2_with fail
                    refine (wild_any s zs _ HB.out.src).mono ?_
                    rintro e wc ⟨z, rfl, hz, h1, h2⟩
                    have HC : Hid (MS w wc s zs (.slice oa1 n cp1) (.slice oa2 ms.length cp2) ts ms ∧ i64Ok z) := ⟨HB.out.draw h1 h2, hz⟩
                    clear h1 h2 hz
                    go_wp2_with fail
                    have hE := HC.out.1.more (World.grownBy_alloc wc (.cells #[.int .i64 (-1), .int .i64 1000001, .int .i64 z] 3) none)
                    refine (drawN_any s 3 zs _ hE.src (by decide) (by decide)).mono ?_
                    rintro e wd ⟨q, rfl, -, hq, h1, h2⟩
                    have hq3 : q < 3 := by have := hq (by decide); omega
                    have hsw : s < wc.heap.size := HC.out.1.src.lt
                    have hbl : wd.heap[wc.heap.size]? = some (.cells #[.int .i64 (-1), .int .i64 1000001, .int .i64 z] 3 (0, 0)) := (h2.block wc.heap.size (by simp) (by simp; omega)).trans (heap_alloc_new wc _)
                    obtain ⟨y, hx, hxo⟩ : ∃ x, wd.cell? ⟨wc.heap.size, q, none⟩ = some (.int .i64 x) ∧ i64Ok x := by
                      rcases (show q = 0 ∨ q = 1 ∨ q = 2 by omega) with rfl | rfl | rfl
                      · exact ⟨-1, by simp [World.cell?, hbl], by decide, by decide⟩
                      · exact ⟨1000001, by simp [World.cell?, hbl], by decide, by decide⟩
                      · exact ⟨z, by simp [World.cell?, hbl], HC.out.2⟩
                    have HD : Hid (MS w wd s zs (.slice oa1 n cp1) (.slice oa2 ms.length cp2) ts ms ∧ i64Ok y) := ⟨hE.draw h1 h2, hxo⟩
                    clear h1 h2 hq hbl hxo hE HC hsw
                    go_wp2
                    refine bodyPost_ret (v := .tuple #[.int .i64 x, (.slice oa1 n cp1), .int .i64 y, (.slice oa2 ms.length cp2)]) (by simp [results, Try.results41, go_sem, hz0]) rfl ?_
                    exact ⟨x, y, (.slice oa1 n cp1), (.slice oa2 ms.length cp2), s, ts, ms, rfl, HF.out.2, HD.out.2, HD.out.1, by omega, HNM.out⟩
              · have hz1 : (0 : Int) < (ms.length : Int) := by omega
                go_wp2_with fail
                refine (one_any s 3 zs _ HM.out.src (by decide) (by decide)).mono ?_
                rintro e wo ⟨bo, rfl, h1, h2⟩
                have HO : Hid (MS w wo s zs (.slice oa1 n cp1) (.slice oa2 ms.length cp2) ts ms) := HM.out.draw h1 h2
                clear h1 h2
                cases bo
                · go_wp2_with fail
                  refine (one_any s 12 zs _ HO.out.src (by decide) (by decide)).mono ?_
                  rintro e wa ⟨ba, rfl, h1, h2⟩
                  have HA : Hid (MS w wa s zs (.slice oa1 n cp1) (.slice oa2 ms.length cp2) ts ms) := HO.out.draw h1 h2
                  clear h1 h2
                  cases ba
                  · go_wp2_with fail
                    refine (one_any s 12 zs _ HA.out.src (by decide) (by decide)).mono ?_
                    rintro e wb ⟨bb, rfl, h1, h2⟩
                    have HB : Hid (MS w wb s zs (.slice oa1 n cp1) (.slice oa2 ms.length cp2) ts ms) := HA.out.draw h1 h2
                    clear h1 h2
                    cases bb
                    · go_wp2
                      refine bodyPost_ret (v := .tuple #[.int .i64 (b0 : Int), (.slice oa1 n cp1), .int .i64 (p0 : Int), (.slice oa2 ms.length cp2)]) (by simp [results, Try.results41, go_sem]) rfl ?_
                      exact ⟨(b0 : Int), (p0 : Int), (.slice oa1 n cp1), (.slice oa2 ms.length cp2), s, ts, ms, rfl, ⟨by omega, by omega⟩, ⟨by omega, by omega⟩, HB.out, by omega, HNM.out⟩
                    · go_wp2_with fail
                      refine (wild_any s zs _ HB.out.src).mono ?_
                      rintro e wc ⟨z, rfl, hz, h1, h2⟩
                      have HC : Hid (MS w wc s zs (.slice oa1 n cp1) (.slice oa2 ms.length cp2) ts ms ∧ i64Ok z) := ⟨HB.out.draw h1 h2, hz⟩
                      clear h1 h2 hz
                      go_wp2_with fail
                      have hE := HC.out.1.more (World.grownBy_alloc wc (.cells #[.int .i64 (-1), .int .i64 1000001, .int .i64 z] 3) none)
                      refine (drawN_any s 3 zs _ hE.src (by decide) (by decide)).mono ?_
                      rintro e wd ⟨q, rfl, -, hq, h1, h2⟩
                      have hq3 : q < 3 := by have := hq (by decide); omega
                      have hsw : s < wc.heap.size := HC.out.1.src.lt
                      have hbl : wd.heap[wc.heap.size]? = some (.cells #[.int .i64 (-1), .int .i64 1000001, .int .i64 z] 3 (0, 0)) := (h2.block wc.heap.size (by simp) (by simp; omega)).trans (heap_alloc_new wc _)
                      obtain ⟨y, hx, hxo⟩ : ∃ x, wd.cell? ⟨wc.heap.size, q, none⟩ = some (.int .i64 x) ∧ i64Ok x := by
                        rcases (show q = 0 ∨ q = 1 ∨ q = 2 by omega) with rfl | rfl | rfl
                        · exact ⟨-1, by simp [World.cell?, hbl], by decide, by decide⟩
                        · exact ⟨1000001, by simp [World.cell?, hbl], by decide, by decide⟩
                        · exact ⟨z, by simp [World.cell?, hbl], HC.out.2⟩
                      have HD : Hid (MS w wd s zs (.slice oa1 n cp1) (.slice oa2 ms.length cp2) ts ms ∧ i64Ok y) := ⟨hE.draw h1 h2, hxo⟩
                      clear h1 h2 hq hbl hxo hE HC hsw
                      go_wp2
                      refine bodyPost_ret (v := .tuple #[.int .i64 (b0 : Int), (.slice oa1 n cp1), .int .i64 y, (.slice oa2 ms.length cp2)]) (by simp [results, Try.results41, go_sem]) rfl ?_
                      exact ⟨(b0 : Int), y, (.slice oa1 n cp1), (.slice oa2 ms.length cp2), s, ts, ms, rfl, ⟨by omega, by omega⟩, HD.out.2, HD.out.1, by omega, HNM.out⟩
                  · go_wp2_with fail
                    refine (wild_any s zs _ HA.out.src).mono ?_
                    rintro e we ⟨z, rfl, hz, h1, h2⟩
                    have HC : Hid (MS w we s zs (.slice oa1 n cp1) (.slice oa2 ms.length cp2) ts ms ∧ i64Ok z) := ⟨HA.out.draw h1 h2, hz⟩
                    clear h1 h2 hz
                    go_wp2_with fail
                    have hE := HC.out.1.more (World.grownBy_alloc we (.cells #[.int .i64 (-1), .int .i64 1000001, .int .i64 z] 3) none)
                    refine (drawN_any s 3 zs _ hE.src (by decide) (by decide)).mono ?_
                    rintro e wf ⟨q, rfl, -, hq, h1, h2⟩
                    have hq3 : q < 3 := by have := hq (by decide); omega
                    have hsw : s < we.heap.size := HC.out.1.src.lt
                    have hbl : wf.heap[we.heap.size]? = some (.cells #[.int .i64 (-1), .int .i64 1000001, .int .i64 z] 3 (0, 0)) := (h2.block we.heap.size (by simp) (by simp; omega)).trans (heap_alloc_new we _)
                    obtain ⟨x, hx, hxo⟩ : ∃ x, wf.cell? ⟨we.heap.size, q, none⟩ = some (.int .i64 x) ∧ i64Ok x := by
                      rcases (show q = 0 ∨ q = 1 ∨ q = 2 by omega) with rfl | rfl | rfl
                      · exact ⟨-1, by simp [World.cell?, hbl], by decide, by decide⟩
                      · exact ⟨1000001, by simp [World.cell?, hbl], by decide, by decide⟩
                      · exact ⟨z, by simp [World.cell?, hbl], HC.out.2⟩
                    have HF : Hid (MS w wf s zs (.slice oa1 n cp1) (.slice oa2 ms.length cp2) ts ms ∧ i64Ok x) := ⟨hE.draw h1 h2, hxo⟩
                    clear h1 h2 hq hbl hxo hE HC hsw
                    go_wp2_with fail
                    refine (one_any s 12 zs _ HF.out.1.src (by decide) (by decide)).mono ?_
                    rintro e wb ⟨bb, rfl, h1, h2⟩
                    have HB : Hid (MS w wb s zs (.slice oa1 n cp1) (.slice oa2 ms.length cp2) ts ms) := HF.out.1.draw h1 h2
                    clear h1 h2
                    cases bb
                    · go_wp2
                      refine bodyPost_ret (v := .tuple #[.int .i64 x, (.slice oa1 n cp1), .int .i64 (p0 : Int), (.slice oa2 ms.length cp2)]) (by simp [results, Try.results41, go_sem]) rfl ?_
                      exact ⟨x, (p0 : Int), (.slice oa1 n cp1), (.slice oa2 ms.length cp2), s, ts, ms, rfl, HF.out.2, ⟨by omega, by omega⟩, HB.out, by omega, HNM.out⟩
                    · go_wp2_with fail
                      refine (wild_any s zs _ HB.out.src).mono ?_
                      rintro e wc ⟨z, rfl, hz, h1, h2⟩
                      have HC : Hid (MS w wc s zs (.slice oa1 n cp1) (.slice oa2 ms.length cp2) ts ms ∧ i64Ok z) := ⟨HB.out.draw h1 h2, hz⟩
                      clear h1 h2 hz
                      go_wp2_with fail
                      have hE := HC.out.1.more (World.grownBy_alloc wc (.cells #[.int .i64 (-1), .int .i64 1000001, .int .i64 z] 3) none)
                      refine (drawN_any s 3 zs _ hE.src (by decide) (by decide)).mono ?_
                      rintro e wd ⟨q, rfl, -, hq, h1, h2⟩
                      have hq3 : q < 3 := by have := hq (by decide); omega
                      have hsw : s < wc.heap.size := HC.out.1.src.lt
                      have hbl : wd.heap[wc.heap.size]? = some (.cells #[.int .i64 (-1), .int .i64 1000001, .int .i64 z] 3 (0, 0)) := (h2.block wc.heap.size (by simp) (by simp; omega)).trans (heap_alloc_new wc _)
                      obtain ⟨y, hx, hxo⟩ : ∃ x, wd.cell? ⟨wc.heap.size, q, none⟩ = some (.int .i64 x) ∧ i64Ok x := by
                        rcases (show q = 0 ∨ q = 1 ∨ q = 2 by omega) with rfl | rfl | rfl
                        · exact ⟨-1, by simp [World.cell?, hbl], by decide, by decide⟩
                        · exact ⟨1000001, by simp [World.cell?, hbl], by decide, by decide⟩
                        · exact ⟨z, by simp [World.cell?, hbl], HC.out.2⟩
                      have HD : Hid (MS w wd s zs (.slice oa1 n cp1) (.slice oa2 ms.length cp2) ts ms ∧ i64Ok y) := ⟨hE.draw h1 h2, hxo⟩
                      clear h1 h2 hq hbl hxo hE HC hsw
                      go_wp2
                      refine bodyPost_ret (v := .tuple #[.int .i64 x, (.slice oa1 n cp1), .int .i64 y, (.slice oa2 ms.length cp2)]) (by simp [results, Try.results41, go_sem]) rfl ?_
                      exact ⟨x, y, (.slice oa1 n cp1), (.slice oa2 ms.length cp2), s, ts, ms, rfl, HF.out.2, HD.out.2, HD.out.1, by omega, HNM.out⟩
                · go_wp2_with fail
                  refine (drawN_any s (ms.length : Int) zs _ HO.out.src (by omega) (by omega)).mono ?_
                  rintro e wp ⟨j, rfl, hj0, hj1, h1, h2⟩
                  have hj : j < ms.length := by
                    by_cases h : (ms.length : Int) ≤ 1
                    · have := hj0 h; omega
                    · have := hj1 (by omega); omega
                  have HP : Hid (MS w wp s zs (.slice oa1 n cp1) (.slice oa2 ms.length cp2) ts ms) := HO.out.draw h1 h2
                  clear h1 h2 hj0 hj1
                  obtain ⟨g2, hg2⟩ : ∃ g2, oa2 = some ⟨g2, 0, none⟩ := by
                    rcases HP.out.r2.2 with ⟨_, h0⟩ | ⟨g, cap', cur, h9, _⟩
                    · omega
                    · simp only [Value.slice.injEq, true_and] at h9; exact ⟨g, h9.1⟩
                  subst hg2
                  have hOI := ownI_made HP.out.r2 (fun z hz => (HSM.out z hz).ok)
                  have hcj := hOI.cell j hj
                  have hfj := hOI.free j
                  have hxs : small (ms.getD j 0) := HSM.out _ (getI_mem hj)
                  obtain ⟨xj, hx⟩ : ∃ x, ms.getD j 0 = x := ⟨_, rfl⟩
                  rw [hx] at hcj hxs
                  have hx1 := hxs.1
                  have hx2 := hxs.2
                  have HZ : Hid (MS w (wp.setCell ⟨g2, j, none⟩ (.int .i64 (xj + 1))) s zs (.slice oa1 n cp1) (.slice (some ⟨g2, 0, none⟩) ms.length cp2) ts (ms.set j (xj + 1))) := HP.out.set rfl ⟨by omega, by omega⟩
                  have HNS : Hid ((ms.set j (xj + 1)).length ≤ 20) := by show _ ≤ _; rw [List.length_set]; omega
                  clear hOI hxs hx
                  go_wp2_with fail
                  refine (one_any s 12 zs _ HZ.out.src (by decide) (by decide)).mono ?_
                  rintro e wa ⟨ba, rfl, h1, h2⟩
                  have HA : Hid (MS w wa s zs (.slice oa1 n cp1) (.slice (some ⟨g2, 0, none⟩) ms.length cp2) ts (ms.set j (xj + 1))) := HZ.out.draw h1 h2
                  clear h1 h2
                  cases ba
                  · go_wp2_with fail
                    refine (one_any s 12 zs _ HA.out.src (by decide) (by decide)).mono ?_
                    rintro e wb ⟨bb, rfl, h1, h2⟩
                    have HB : Hid (MS w wb s zs (.slice oa1 n cp1) (.slice (some ⟨g2, 0, none⟩) ms.length cp2) ts (ms.set j (xj + 1))) := HA.out.draw h1 h2
                    clear h1 h2
                    cases bb
                    · go_wp2
                      refine bodyPost_ret (v := .tuple #[.int .i64 (b0 : Int), (.slice oa1 n cp1), .int .i64 (p0 : Int), (.slice (some ⟨g2, 0, none⟩) ms.length cp2)]) (by simp [results, Try.results41, go_sem]) rfl ?_
                      exact ⟨(b0 : Int), (p0 : Int), (.slice oa1 n cp1), (.slice (some ⟨g2, 0, none⟩) ms.length cp2), s, ts, (ms.set j (xj + 1)), rfl, ⟨by omega, by omega⟩, ⟨by omega, by omega⟩, HB.out, by omega, HNS.out⟩
                    · go_wp2_with fail
                      refine (wild_any s zs _ HB.out.src).mono ?_
                      rintro e wc ⟨z, rfl, hz, h1, h2⟩
                      have HC : Hid (MS w wc s zs (.slice oa1 n cp1) (.slice (some ⟨g2, 0, none⟩) ms.length cp2) ts (ms.set j (xj + 1)) ∧ i64Ok z) := ⟨HB.out.draw h1 h2, hz⟩
                      clear h1 h2 hz
                      go_wp2_with fail
                      have hE := HC.out.1.more (World.grownBy_alloc wc (.cells #[.int .i64 (-1), .int .i64 1000001, .int .i64 z] 3) none)
                      refine (drawN_any s 3 zs _ hE.src (by decide) (by decide)).mono ?_
                      rintro e wd ⟨q, rfl, -, hq, h1, h2⟩
                      have hq3 : q < 3 := by have := hq (by decide); omega
                      have hsw : s < wc.heap.size := HC.out.1.src.lt
                      have hbl : wd.heap[wc.heap.size]? = some (.cells #[.int .i64 (-1), .int .i64 1000001, .int .i64 z] 3 (0, 0)) := (h2.block wc.heap.size (by simp) (by simp; omega)).trans (heap_alloc_new wc _)
                      obtain ⟨y, hx, hxo⟩ : ∃ x, wd.cell? ⟨wc.heap.size, q, none⟩ = some (.int .i64 x) ∧ i64Ok x := by
                        rcases (show q = 0 ∨ q = 1 ∨ q = 2 by omega) with rfl | rfl | rfl
                        · exact ⟨-1, by simp [World.cell?, hbl], by decide, by decide⟩
                        · exact ⟨1000001, by simp [World.cell?, hbl], by decide, by decide⟩
                        · exact ⟨z, by simp [World.cell?, hbl], HC.out.2⟩
                      have HD : Hid (MS w wd s zs (.slice oa1 n cp1) (.slice (some ⟨g2, 0, none⟩) ms.length cp2) ts (ms.set j (xj + 1)) ∧ i64Ok y) := ⟨hE.draw h1 h2, hxo⟩
                      clear h1 h2 hq hbl hxo hE HC hsw
                      go_wp2
                      refine bodyPost_ret (v := .tuple #[.int .i64 (b0 : Int), (.slice oa1 n cp1), .int .i64 y, (.slice (some ⟨g2, 0, none⟩) ms.length cp2)]) (by simp [results, Try.results41, go_sem]) rfl ?_
                      exact ⟨(b0 : Int), y, (.slice oa1 n cp1), (.slice (some ⟨g2, 0, none⟩) ms.length cp2), s, ts, (ms.set j (xj + 1)), rfl, ⟨by omega, by omega⟩, HD.out.2, HD.out.1, by omega, HNS.out⟩
                  · go_wp2_with fail
                    refine (wild_any s zs _ HA.out.src).mono ?_
                    rintro e we ⟨z, rfl, hz, h1, h2⟩
                    have HC : Hid (MS w we s zs (.slice oa1 n cp1) (.slice (some ⟨g2, 0, none⟩) ms.length cp2) ts (ms.set j (xj + 1)) ∧ i64Ok z) := ⟨HA.out.draw h1 h2, hz⟩
                    clear h1 h2 hz
                    go_wp2_with fail
                    have hE := HC.out.1.more (World.grownBy_alloc we (.cells #[.int .i64 (-1), .int .i64 1000001, .int .i64 z] 3) none)
                    refine (drawN_any s 3 zs _ hE.src (by decide) (by decide)).mono ?_
                    rintro e wf ⟨q, rfl, -, hq, h1, h2⟩
                    have hq3 : q < 3 := by have := hq (by decide); omega
                    have hsw : s < we.heap.size := HC.out.1.src.lt
                    have hbl : wf.heap[we.heap.size]? = some (.cells #[.int .i64 (-1), .int .i64 1000001, .int .i64 z] 3 (0, 0)) := (h2.block we.heap.size (by simp) (by simp; omega)).trans (heap_alloc_new we _)
                    obtain ⟨x, hx, hxo⟩ : ∃ x, wf.cell? ⟨we.heap.size, q, none⟩ = some (.int .i64 x) ∧ i64Ok x := by
                      rcases (show q = 0 ∨ q = 1 ∨ q = 2 by omega) with rfl | rfl | rfl
                      · exact ⟨-1, by simp [World.cell?, hbl], by decide, by decide⟩
                      · exact ⟨1000001, by simp [World.cell?, hbl], by decide, by decide⟩
                      · exact ⟨z, by simp [World.cell?, hbl], HC.out.2⟩
                    have HF : Hid (MS w wf s zs (.slice oa1 n cp1) (.slice (some ⟨g2, 0, none⟩) ms.length cp2) ts (ms.set j (xj + 1)) ∧ i64Ok x) := ⟨hE.draw h1 h2, hxo⟩
                    clear h1 h2 hq hbl hxo hE HC hsw
                    go_wp2_with fail
                    refine (one_any s 12 zs _ HF.out.1.src (by decide) (by decide)).mono ?_
                    rintro e wb ⟨bb, rfl, h1, h2⟩
                    have HB : Hid (MS w wb s zs (.slice oa1 n cp1) (.slice (some ⟨g2, 0, none⟩) ms.length cp2) ts (ms.set j (xj + 1))) := HF.out.1.draw h1 h2
                    clear h1 h2
                    cases bb
                    · go_wp2
                      refine bodyPost_ret (v := .tuple #[.int .i64 x, (.slice oa1 n cp1), .int .i64 (p0 : Int), (.slice (some ⟨g2, 0, none⟩) ms.length cp2)]) (by simp [results, Try.results41, go_sem]) rfl ?_
                      exact ⟨x, (p0 : Int), (.slice oa1 n cp1), (.slice (some ⟨g2, 0, none⟩) ms.length cp2), s, ts, (ms.set j (xj + 1)), rfl, HF.out.2, ⟨by omega, by omega⟩, HB.out, by omega, HNS.out⟩
                    · go_wp2_with fail
                      refine (wild_any s zs _ HB.out.src).mono ?_
                      rintro e wc ⟨z, rfl, hz, h1, h2⟩
                      have HC : Hid (MS w wc s zs (.slice oa1 n cp1) (.slice (some ⟨g2, 0, none⟩) ms.length cp2) ts (ms.set j (xj + 1)) ∧ i64Ok z) := ⟨HB.out.draw h1 h2, hz⟩
                      clear h1 h2 hz
                      go_wp2_with fail
                      have hE := HC.out.1.more (World.grownBy_alloc wc (.cells #[.int .i64 (-1), .int .i64 1000001, .int .i64 z] 3) none)
                      refine (drawN_any s 3 zs _ hE.src (by decide) (by decide)).mono ?_
                      rintro e wd ⟨q, rfl, -, hq, h1, h2⟩
                      have hq3 : q < 3 := by have := hq (by decide); omega
                      have hsw : s < wc.heap.size := HC.out.1.src.lt
                      have hbl : wd.heap[wc.heap.size]? = some (.cells #[.int .i64 (-1), .int .i64 1000001, .int .i64 z] 3 (0, 0)) := (h2.block wc.heap.size (by simp) (by simp; omega)).trans (heap_alloc_new wc _)
                      obtain ⟨y, hx, hxo⟩ : ∃ x, wd.cell? ⟨wc.heap.size, q, none⟩ = some (.int .i64 x) ∧ i64Ok x := by
                        rcases (show q = 0 ∨ q = 1 ∨ q = 2 by omega) with rfl | rfl | rfl
                        · exact ⟨-1, by simp [World.cell?, hbl], by decide, by decide⟩
                        · exact ⟨1000001, by simp [World.cell?, hbl], by decide, by decide⟩
                        · exact ⟨z, by simp [World.cell?, hbl], HC.out.2⟩
                      have HD : Hid (MS w wd s zs (.slice oa1 n cp1) (.slice (some ⟨g2, 0, none⟩) ms.length cp2) ts (ms.set j (xj + 1)) ∧ i64Ok y) := ⟨hE.draw h1 h2, hxo⟩
                      clear h1 h2 hq hbl hxo hE HC hsw
                      go_wp2
                      refine bodyPost_ret (v := .tuple #[.int .i64 x, (.slice oa1 n cp1), .int .i64 y, (.slice (some ⟨g2, 0, none⟩) ms.length cp2)]) (by simp [results, Try.results41, go_sem]) rfl ?_
                      exact ⟨x, y, (.slice oa1 n cp1), (.slice (some ⟨g2, 0, none⟩) ms.length cp2), s, ts, (ms.set j (xj + 1)), rfl, HF.out.2, HD.out.2, HD.out.1, by omega, HNS.out⟩
      · go_wp2_with fail
        refine (drawN_any s 4 zs _ HM.out.src (by decide) (by decide)).mono ?_
        rintro e wq ⟨k4, rfl, -, hk, h1, h2⟩
        have hk4 : k4 < 4 := by have := hk (by decide); omega
        have HQ : Hid (MS w wq s zs (.slice oa1 n cp1) v ts ms) := HM.out.draw h1 h2
        clear h1 h2 hk HM
        have H0 : Hid (ms.length + k4 ≤ 11 ∧ (∀ z ∈ ms, small z)) := ⟨by omega, HSM.out⟩
        clear HSM hml
        go_wp2
        go_loopw [10, 12] (fun o k wr => ∃ (kk : Nat) (v : Value) (ms : List Int), ms.length + kk ≤ 11 ∧ v = o ∧ k = .int .i64 (kk : Int) ∧ (∀ z ∈ ms, small z) ∧ MS w wr s zs (.slice oa1 n cp1) v ts ms) (fun _ k _ => (intOf k).toNat)
        case atStart => exact ⟨k4, v, ms, H0.out.1, rfl, rfl, H0.out.2, HQ.out⟩
        case round =>
          clear H0 HQ
          obtain ⟨kk, v, ms, hml, rfl, rfl, hsm, hM⟩ := hrel
          have HM : Hid (MS w wr s zs (.slice oa1 n cp1) v ts ms) := hM
          have HSM : Hid (∀ z ∈ ms, small z) := hsm
          clear hM hsm
          by_cases c1 : (0 : Int) < (kk : Int)
          · go_wp2_with fail
            refine (drawN_any s 4 zs _ HM.out.src (by decide) (by decide)).mono ?_
            rintro e wr2 ⟨q, rfl, -, hq, h1, h2⟩
            have hq4 : q < 4 := by have := hq (by decide); omega
            have HM2 : Hid (MS w wr2 s zs (.slice oa1 n cp1) v ts ms) := HM.out.draw h1 h2
            clear h1 h2 hq HM
            have hxq : small (q : Int) := ⟨by omega, by omega⟩
            have HM := HM2
            go_wp2_with (at_builtin; refine wpList_append_i (by rfl) (.tmp 73) (.tmp 76) TI (by rfl) (base := s + 1) (n := ms.length) (xs := ms) (by rfl) (by exact HM.out.r2.alloc _) (oa := some ⟨wr2.heap.size, 0, none⟩) (m := 1) (c := 1) (zs := [(q : Int)]) (by rfl) (by exact one_slI wr2 _ hxq.ok _) (by omega) (by have := HM.out.src.lt; simp; omega) ?_)
            intro v' w4 hown' hgr hat hsz
            have R : Hid (MS w w4 s zs (.slice oa1 n cp1) v' ts (ms ++ [(q : Int)])) := HM.out.push (World.grownBy_alloc wr2 _ none) (by rw [List.map_append]; exact hown'.out) hgr.out (fun g' h9 => by simpa using hat.out g' h9) hxq.two
            have HSM2 : Hid (∀ z ∈ ms ++ [(q : Int)], small z) := by
              intro z hz
              rcases List.mem_append.1 hz with h | h
              · exact HSM.out z h
              · simp at h; subst h; exact hxq
            clear hown' hgr hat hsz
            go_wp2
            go_roundw
            case rel => exact ⟨kk - 1, v', ms ++ [(q : Int)], by simp; omega, rfl, by first | go_num | (simp; omega), HSM2.out, R.out⟩
            case measure => simp [intOf]; omega
          · obtain rfl : kk = 0 := by omega
            obtain ⟨oa2, cp2, hv2, -⟩ := rowForm HM.out.r2
            subst hv2
            have HNM : Hid (ms.length ≤ 20) := by show _ ≤ _; omega
            by_cases hz0 : ms.length = 0
            · have hz1 : ¬ (0 : Int) < (ms.length : Int) := by omega
              go_wp2_with fail
              refine (one_any s 12 zs _ HM.out.src (by decide) (by decide)).mono ?_
              rintro e wa ⟨ba, rfl, h1, h2⟩
              have HA : Hid (MS w wa s zs (.slice oa1 n cp1) (.slice oa2 ms.length cp2) ts ms) := HM.out.draw h1 h2
              clear h1 h2
              cases ba
              · go_wp2_with fail
                refine (one_any s 12 zs _ HA.out.src (by decide) (by decide)).mono ?_
                rintro e wb ⟨bb, rfl, h1, h2⟩
                have HB : Hid (MS w wb s zs (.slice oa1 n cp1) (.slice oa2 ms.length cp2) ts ms) := HA.out.draw h1 h2
                clear h1 h2
                cases bb
                · go_wp2
                  refine bodyPost_ret (v := .tuple #[.int .i64 (b0 : Int), (.slice oa1 n cp1), .int .i64 (p0 : Int), (.slice oa2 ms.length cp2)]) (by simp [results, Try.results41, go_sem, hz0]) rfl ?_
                  exact ⟨(b0 : Int), (p0 : Int), (.slice oa1 n cp1), (.slice oa2 ms.length cp2), s, ts, ms, rfl, ⟨by omega, by omega⟩, ⟨by omega, by omega⟩, HB.out, by omega, HNM.out⟩
                · go_wp2_with fail
                  refine (wild_any s zs _ HB.out.src).mono ?_
                  rintro e wc ⟨z, rfl, hz, h1, h2⟩
                  have HC : Hid (MS w wc s zs (.slice oa1 n cp1) (.slice oa2 ms.length cp2) ts ms ∧ i64Ok z) := ⟨HB.out.draw h1 h2, hz⟩
                  clear h1 h2 hz
                  go_wp2_with fail
                  have hE := HC.out.1.more (World.grownBy_alloc wc (.cells #[.int .i64 (-1), .int .i64 1000001, .int .i64 z] 3) none)
                  refine (drawN_any s 3 zs _ hE.src (by decide) (by decide)).mono ?_
                  rintro e wd ⟨q, rfl, -, hq, h1, h2⟩
                  have hq3 : q < 3 := by have := hq (by decide); omega
                  have hsw : s < wc.heap.size := HC.out.1.src.lt
                  have hbl : wd.heap[wc.heap.size]? = some (.cells #[.int .i64 (-1), .int .i64 1000001, .int .i64 z] 3 (0, 0)) := (h2.block wc.heap.size (by simp) (by simp; omega)).trans (heap_alloc_new wc _)
                  obtain ⟨y, hx, hxo⟩ : ∃ x, wd.cell? ⟨wc.heap.size, q, none⟩ = some (.int .i64 x) ∧ i64Ok x := by
                    rcases (show q = 0 ∨ q = 1 ∨ q = 2 by omega) with rfl | rfl | rfl
                    · exact ⟨-1, by simp [World.cell?, hbl], by decide, by decide⟩
                    · exact ⟨1000001, by simp [World.cell?, hbl], by decide, by decide⟩
                    · exact ⟨z, by simp [World.cell?, hbl], HC.out.2⟩
                  have HD : Hid (MS w wd s zs (.slice oa1 n cp1) (.slice oa2 ms.length cp2) ts ms ∧ i64Ok y) := ⟨hE.draw h1 h2, hxo⟩
                  clear h1 h2 hq hbl hxo hE HC hsw
                  go_wp2
                  refine bodyPost_ret (v := .tuple #[.int .i64 (b0 : Int), (.slice oa1 n cp1), .int .i64 y, (.slice oa2 ms.length cp2)]) (by simp [results, Try.results41, go_sem, hz0]) rfl ?_
                  exact ⟨(b0 : Int), y, (.slice oa1 n cp1), (.slice oa2 ms.length cp2), s, ts, ms, rfl, ⟨by omega, by omega⟩, HD.out.2, HD.out.1, by omega, HNM.out⟩
              · go_wp2_with fail
                refine (wild_any s zs _ HA.out.src).mono ?_
                rintro e we ⟨z, rfl, hz, h1, h2⟩
                have HC : Hid (MS w we s zs (.slice oa1 n cp1) (.slice oa2 ms.length cp2) ts ms ∧ i64Ok z) := ⟨HA.out.draw h1 h2, hz⟩
                clear h1 h2 hz
                go_wp2_with fail
                have hE := HC.out.1.more (World.grownBy_alloc we (.cells #[.int .i64 (-1), .int .i64 1000001, .int .i64 z] 3) none)
                refine (drawN_any s 3 zs _ hE.src (by decide) (by decide)).mono ?_
                rintro e wf ⟨q, rfl, -, hq, h1, h2⟩
                have hq3 : q < 3 := by have := hq (by decide); omega
                have hsw : s < we.heap.size := HC.out.1.src.lt
                have hbl : wf.heap[we.heap.size]? = some (.cells #[.int .i64 (-1), .int .i64 1000001, .int .i64 z] 3 (0, 0)) := (h2.block we.heap.size (by simp) (by simp; omega)).trans (heap_alloc_new we _)
                obtain ⟨x, hx, hxo⟩ : ∃ x, wf.cell? ⟨we.heap.size, q, none⟩ = some (.int .i64 x) ∧ i64Ok x := by
                  rcases (show q = 0 ∨ q = 1 ∨ q = 2 by omega) with rfl | rfl | rfl
                  · exact ⟨-1, by simp [World.cell?, hbl], by decide, by decide⟩
                  · exact ⟨1000001, by simp [World.cell?, hbl], by decide, by decide⟩
                  · exact ⟨z, by simp [World.cell?, hbl], HC.out.2⟩
                have HF : Hid (MS w wf s zs (.slice oa1 n cp1) (.slice oa2 ms.length cp2) ts ms ∧ i64Ok x) := ⟨hE.draw h1 h2, hxo⟩
                clear h1 h2 hq hbl hxo hE HC hsw
                go_wp2_with fail
                refine (one_any s 12 zs _ HF.out.1.src (by decide) (by decide)).mono ?_
                rintro e wb ⟨bb, rfl, h1, h2⟩
                have HB : Hid (MS w wb s zs (.slice oa1 n cp1) (.slice oa2 ms.length cp2) ts ms) := HF.out.1.draw h1 h2
                clear h1 h2
                cases bb
                · go_wp2
                  refine bodyPost_ret (v := .tuple #[.int .i64 x, (.slice oa1 n cp1), .int .i64 (p0 : Int), (.slice oa2 ms.length cp2)]) (by simp [results, Try.results41, go_sem, hz0]) rfl ?_
                  exact ⟨x, (p0 : Int), (.slice oa1 n cp1), (.slice oa2 ms.length cp2), s, ts, ms, rfl, HF.out.2, ⟨by omega, by omega⟩, HB.out, by omega, HNM.out⟩
                · go_wp2_with fail
                  refine (wild_any s zs _ HB.out.src).mono ?_
                  rintro e wc ⟨z, rfl, hz, h1, h2⟩
                  have HC : Hid (MS w wc s zs (.slice oa1 n cp1) (.slice oa2 ms.length cp2) ts ms ∧ i64Ok z) := ⟨HB.out.draw h1 h2, hz⟩
                  clear h1 h2 hz
                  go_wp2_with fail
                  have hE := HC.out.1.more (World.grownBy_alloc wc (.cells #[.int .i64 (-1), .int .i64 1000001, .int .i64 z] 3) none)
                  refine (drawN_any s 3 zs _ hE.src (by decide) (by decide)).mono ?_
                  rintro e wd ⟨q, rfl, -, hq, h1, h2⟩
                  have hq3 : q < 3 := by have := hq (by decide); omega
                  have hsw : s < wc.heap.size := HC.out.1.src.lt
                  have hbl : wd.heap[wc.heap.size]? = some (.cells #[.int .i64 (-1), .int .i64 1000001, .int .i64 z] 3 (0, 0)) := (h2.block wc.heap.size (by simp) (by simp; omega)).trans (heap_alloc_new wc _)
                  obtain ⟨y, hx, hxo⟩ : ∃ x, wd.cell? ⟨wc.heap.size, q, none⟩ = some (.int .i64 x) ∧ i64Ok x := by
                    rcases (show q = 0 ∨ q = 1 ∨ q = 2 by omega) with rfl | rfl | rfl
                    · exact ⟨-1, by simp [World.cell?, hbl], by decide, by decide⟩
                    · exact ⟨1000001, by simp [World.cell?, hbl], by decide, by decide⟩
                    · exact ⟨z, by simp [World.cell?, hbl], HC.out.2⟩
                  have HD : Hid (MS w wd s zs (.slice oa1 n cp1) (.slice oa2 ms.length cp2) ts ms ∧ i64Ok y) := ⟨hE.draw h1 h2, hxo⟩
                  clear h1 h2 hq hbl hxo hE HC hsw
                  go_wp2
                  refine bodyPost_ret (v := .tuple #[.int .i64 x, (.slice oa1 n cp1), .int .i64 y, (.slice oa2 ms.length cp2)]) (by simp [results, Try.results41, go_sem, hz0]) rfl ?_
                  exact ⟨x, y, (.slice oa1 n cp1), (.slice oa2 ms.length cp2), s, ts, ms, rfl, HF.out.2, HD.out.2, HD.out.1, by omega, HNM.out⟩
            · have hz1 : (0 : Int) < (ms.length : Int) := by omega
              go_wp2_with fail
              refine (one_any s 3 zs _ HM.out.src (by decide) (by decide)).mono ?_
              rintro e wo ⟨bo, rfl, h1, h2⟩
              have HO : Hid (MS w wo s zs (.slice oa1 n cp1) (.slice oa2 ms.length cp2) ts ms) := HM.out.draw h1 h2
              clear h1 h2
              cases bo
              · go_wp2_with fail
                refine (one_any s 12 zs _ HO.out.src (by decide) (by decide)).mono ?_
                rintro e wa ⟨ba, rfl, h1, h2⟩
                have HA : Hid (MS w wa s zs (.slice oa1 n cp1) (.slice oa2 ms.length cp2) ts ms) := HO.out.draw h1 h2
                clear h1 h2
                cases ba
                · go_wp2_with fail
                  refine (one_any s 12 zs _ HA.out.src (by decide) (by decide)).mono ?_
                  rintro e wb ⟨bb, rfl, h1, h2⟩
                  have HB : Hid (MS w wb s zs (.slice oa1 n cp1) (.slice oa2 ms.length cp2) ts ms) := HA.out.draw h1 h2
                  clear h1 h2
                  cases bb
                  · go_wp2
                    refine bodyPost_ret (v := .tuple #[.int .i64 (b0 : Int), (.slice oa1 n cp1), .int .i64 (p0 : Int), (.slice oa2 ms.length cp2)]) (by simp [results, Try.results41, go_sem]) rfl ?_
                    exact ⟨(b0 : Int), (p0 : Int), (.slice oa1 n cp1), (.slice oa2 ms.length cp2), s, ts, ms, rfl, ⟨by omega, by omega⟩, ⟨by omega, by omega⟩, HB.out, by omega, HNM.out⟩
                  · go_wp2_with fail
                    refine (wild_any s zs _ HB.out.src).mono ?_
                    rintro e wc ⟨z, rfl, hz, h1, h2⟩
                    have HC : Hid (MS w wc s zs (.slice oa1 n cp1) (.slice oa2 ms.length cp2) ts ms ∧ i64Ok z) := ⟨HB.out.draw h1 h2, hz⟩
                    clear h1 h2 hz
                    go_wp2_with fail
                    have hE := HC.out.1.more (World.grownBy_alloc wc (.cells #[.int .i64 (-1), .int .i64 1000001, .int .i64 z] 3) none)
                    refine (drawN_any s 3 zs _ hE.src (by decide) (by decide)).mono ?_
                    rintro e wd ⟨q, rfl, -, hq, h1, h2⟩
                    have hq3 : q < 3 := by have := hq (by decide); omega
                    have hsw : s < wc.heap.size := HC.out.1.src.lt
                    have hbl : wd.heap[wc.heap.size]? = some (.cells #[.int .i64 (-1), .int .i64 1000001, .int .i64 z] 3 (0, 0)) := (h2.block wc.heap.size (by simp) (by simp; omega)).trans (heap_alloc_new wc _)
                    obtain ⟨y, hx, hxo⟩ : ∃ x, wd.cell? ⟨wc.heap.size, q, none⟩ = some (.int .i64 x) ∧ i64Ok x := by
                      rcases (show q = 0 ∨ q = 1 ∨ q = 2 by omega) with rfl | rfl | rfl
                      · exact ⟨-1, by simp [World.cell?, hbl], by decide, by decide⟩
                      · exact ⟨1000001, by simp [World.cell?, hbl], by decide, by decide⟩
                      · exact ⟨z, by simp [World.cell?, hbl], HC.out.2⟩
                    have HD : Hid (MS w wd s zs (.slice oa1 n cp1) (.slice oa2 ms.length cp2) ts ms ∧ i64Ok y) := ⟨hE.draw h1 h2, hxo⟩
                    clear h1 h2 hq hbl hxo hE HC hsw
                    go_wp2
                    refine bodyPost_ret (v := .tuple #[.int .i64 (b0 : Int), (.slice oa1 n cp1), .int .i64 y, (.slice oa2 ms.length cp2)]) (by simp [results, Try.results41, go_sem]) rfl ?_
                    exact ⟨(b0 : Int), y, (.slice oa1 n cp1), (.slice oa2 ms.length cp2), s, ts, ms, rfl, ⟨by omega, by omega⟩, HD.out.2, HD.out.1, by omega, HNM.out⟩
                · go_wp2_with fail
                  refine (wild_any s zs _ HA.out.src).mono ?_
                  rintro e we ⟨z, rfl, hz, h1, h2⟩
                  have HC : Hid (MS w we s zs (.slice oa1 n cp1) (.slice oa2 ms.length cp2) ts ms ∧ i64Ok z) := ⟨HA.out.draw h1 h2, hz⟩
                  clear h1 h2 hz
                  go_wp2_with fail
                  have hE := HC.out.1.more (World.grownBy_alloc we (.cells #[.int .i64 (-1), .int .i64 1000001, .int .i64 z] 3) none)
                  refine (drawN_any s 3 zs _ hE.src (by decide) (by decide)).mono ?_
                  rintro e wf ⟨q, rfl, -, hq, h1, h2⟩
                  have hq3 : q < 3 := by have := hq (by decide); omega
                  have hsw : s < we.heap.size := HC.out.1.src.lt
                  have hbl : wf.heap[we.heap.size]? = some (.cells #[.int .i64 (-1), .int .i64 1000001, .int .i64 z] 3 (0, 0)) := (h2.block we.heap.size (by simp) (by simp; omega)).trans (heap_alloc_new we _)
                  obtain ⟨x, hx, hxo⟩ : ∃ x, wf.cell? ⟨we.heap.size, q, none⟩ = some (.int .i64 x) ∧ i64Ok x := by
                    rcases (show q = 0 ∨ q = 1 ∨ q = 2 by omega) with rfl | rfl | rfl
                    · exact ⟨-1, by simp [World.cell?, hbl], by decide, by decide⟩
                    · exact ⟨1000001, by simp [World.cell?, hbl], by decide, by decide⟩
                    · exact ⟨z, by simp [World.cell?, hbl], HC.out.2⟩
                  have HF : Hid (MS w wf s zs (.slice oa1 n cp1) (.slice oa2 ms.length cp2) ts ms ∧ i64Ok x) := ⟨hE.draw h1 h2, hxo⟩
                  clear h1 h2 hq hbl hxo hE HC hsw
                  go_wp2_with fail
                  refine (one_any s 12 zs _ HF.out.1.src (by decide) (by decide)).mono ?_
                  rintro e wb ⟨bb, rfl, h1, h2⟩
                  have HB : Hid (MS w wb s zs (.slice oa1 n cp1) (.slice oa2 ms.length cp2) ts ms) := HF.out.1.draw h1 h2
                  clear h1 h2
                  cases bb
                  · go_wp2
                    refine bodyPost_ret (v := .tuple #[.int .i64 x, (.slice oa1 n cp1), .int .i64 (p0 : Int), (.slice oa2 ms.length cp2)]) (by simp [results, Try.results41, go_sem]) rfl ?_
                    exact ⟨x, (p0 : Int), (.slice oa1 n cp1), (.slice oa2 ms.length cp2), s, ts, ms, rfl, HF.out.2, ⟨by omega, by omega⟩, HB.out, by omega, HNM.out⟩
                  · go_wp2_with fail
                    refine (wild_any s zs _ HB.out.src).mono ?_
                    rintro e wc ⟨z, rfl, hz, h1, h2⟩
                    have HC : Hid (MS w wc s zs (.slice oa1 n cp1) (.slice oa2 ms.length cp2) ts ms ∧ i64Ok z) := ⟨HB.out.draw h1 h2, hz⟩
                    clear h1 h2 hz
                    go_wp2_with fail
                    have hE := HC.out.1.more (World.grownBy_alloc wc (.cells #[.int .i64 (-1), .int .i64 1000001, .int .i64 z] 3) none)
                    refine (drawN_any s 3 zs _ hE.src (by decide) (by decide)).mono ?_
                    rintro e wd ⟨q, rfl, -, hq, h1, h2⟩
                    have hq3 : q < 3 := by have := hq (by decide); omega
                    have hsw : s < wc.heap.size := HC.out.1.src.lt
                    have hbl : wd.heap[wc.heap.size]? = some (.cells #[.int .i64 (-1), .int .i64 1000001, .int .i64 z] 3 (0, 0)) := (h2.block wc.heap.size (by simp) (by simp; omega)).trans (heap_alloc_new wc _)
                    obtain ⟨y, hx, hxo⟩ : ∃ x, wd.cell? ⟨wc.heap.size, q, none⟩ = some (.int .i64 x) ∧ i64Ok x := by
                      rcases (show q = 0 ∨ q = 1 ∨ q = 2 by omega) with rfl | rfl | rfl
                      · exact ⟨-1, by simp [World.cell?, hbl], by decide, by decide⟩
                      · exact ⟨1000001, by simp [World.cell?, hbl], by decide, by decide⟩
                      · exact ⟨z, by simp [World.cell?, hbl], HC.out.2⟩
                    have HD : Hid (MS w wd s zs (.slice oa1 n cp1) (.slice oa2 ms.length cp2) ts ms ∧ i64Ok y) := ⟨hE.draw h1 h2, hxo⟩
                    clear h1 h2 hq hbl hxo hE HC hsw
                    go_wp2
                    refine bodyPost_ret (v := .tuple #[.int .i64 x, (.slice oa1 n cp1), .int .i64 y, (.slice oa2 ms.length cp2)]) (by simp [results, Try.results41, go_sem]) rfl ?_
                    exact ⟨x, y, (.slice oa1 n cp1), (.slice oa2 ms.length cp2), s, ts, ms, rfl, HF.out.2, HD.out.2, HD.out.1, by omega, HNM.out⟩
              · go_wp2_with fail
                refine (drawN_any s (ms.length : Int) zs _ HO.out.src (by omega) (by omega)).mono ?_
                rintro e wp ⟨j, rfl, hj0, hj1, h1, h2⟩
                have hj : j < ms.length := by
                  by_cases h : (ms.length : Int) ≤ 1
                  · have := hj0 h; omega
                  · have := hj1 (by omega); omega
                have HP : Hid (MS w wp s zs (.slice oa1 n cp1) (.slice oa2 ms.length cp2) ts ms) := HO.out.draw h1 h2
                clear h1 h2 hj0 hj1
                obtain ⟨g2, hg2⟩ : ∃ g2, oa2 = some ⟨g2, 0, none⟩ := by
                  rcases HP.out.r2.2 with ⟨_, h0⟩ | ⟨g, cap', cur, h9, _⟩
                  · omega
                  · simp only [Value.slice.injEq, true_and] at h9; exact ⟨g, h9.1⟩
                subst hg2
                have hOI := ownI_made HP.out.r2 (fun z hz => (HSM.out z hz).ok)
                have hcj := hOI.cell j hj
                have hfj := hOI.free j
                have hxs : small (ms.getD j 0) := HSM.out _ (getI_mem hj)
                obtain ⟨xj, hx⟩ : ∃ x, ms.getD j 0 = x := ⟨_, rfl⟩
                rw [hx] at hcj hxs
                have hx1 := hxs.1
                have hx2 := hxs.2
                have HZ : Hid (MS w (wp.setCell ⟨g2, j, none⟩ (.int .i64 (xj + 1))) s zs (.slice oa1 n cp1) (.slice (some ⟨g2, 0, none⟩) ms.length cp2) ts (ms.set j (xj + 1))) := HP.out.set rfl ⟨by omega, by omega⟩
                have HNS : Hid ((ms.set j (xj + 1)).length ≤ 20) := by show _ ≤ _; rw [List.length_set]; omega
                clear hOI hxs hx
                go_wp2_with fail
                refine (one_any s 12 zs _ HZ.out.src (by decide) (by decide)).mono ?_
                rintro e wa ⟨ba, rfl, h1, h2⟩
                have HA : Hid (MS w wa s zs (.slice oa1 n cp1) (.slice (some ⟨g2, 0, none⟩) ms.length cp2) ts (ms.set j (xj + 1))) := HZ.out.draw h1 h2
                clear h1 h2
                cases ba
                · go_wp2_with fail
                  refine (one_any s 12 zs _ HA.out.src (by decide) (by decide)).mono ?_
                  rintro e wb ⟨bb, rfl, h1, h2⟩
                  have HB : Hid (MS w wb s zs (.slice oa1 n cp1) (.slice (some ⟨g2, 0, none⟩) ms.length cp2) ts (ms.set j (xj + 1))) := HA.out.draw h1 h2
                  clear h1 h2
                  cases bb
                  · go_wp2
                    refine bodyPost_ret (v := .tuple #[.int .i64 (b0 : Int), (.slice oa1 n cp1), .int .i64 (p0 : Int), (.slice (some ⟨g2, 0, none⟩) ms.length cp2)]) (by simp [results, Try.results41, go_sem]) rfl ?_
                    exact ⟨(b0 : Int), (p0 : Int), (.slice oa1 n cp1), (.slice (some ⟨g2, 0, none⟩) ms.length cp2), s, ts, (ms.set j (xj + 1)), rfl, ⟨by omega, by omega⟩, ⟨by omega, by omega⟩, HB.out, by omega, HNS.out⟩
                  · go_wp2_with fail
                    refine (wild_any s zs _ HB.out.src).mono ?_
                    rintro e wc ⟨z, rfl, hz, h1, h2⟩
                    have HC : Hid (MS w wc s zs (.slice oa1 n cp1) (.slice (some ⟨g2, 0, none⟩) ms.length cp2) ts (ms.set j (xj + 1)) ∧ i64Ok z) := ⟨HB.out.draw h1 h2, hz⟩
                    clear h1 h2 hz
                    go_wp2_with fail
                    have hE := HC.out.1.more (World.grownBy_alloc wc (.cells #[.int .i64 (-1), .int .i64 1000001, .int .i64 z] 3) none)
                    refine (drawN_any s 3 zs _ hE.src (by decide) (by decide)).mono ?_
                    rintro e wd ⟨q, rfl, -, hq, h1, h2⟩
                    have hq3 : q < 3 := by have := hq (by decide); omega
                    have hsw : s < wc.heap.size := HC.out.1.src.lt
                    have hbl : wd.heap[wc.heap.size]? = some (.cells #[.int .i64 (-1), .int .i64 1000001, .int .i64 z] 3 (0, 0)) := (h2.block wc.heap.size (by simp) (by simp; omega)).trans (heap_alloc_new wc _)
                    obtain ⟨y, hx, hxo⟩ : ∃ x, wd.cell? ⟨wc.heap.size, q, none⟩ = some (.int .i64 x) ∧ i64Ok x := by
                      rcases (show q = 0 ∨ q = 1 ∨ q = 2 by omega) with rfl | rfl | rfl
                      · exact ⟨-1, by simp [World.cell?, hbl], by decide, by decide⟩
                      · exact ⟨1000001, by simp [World.cell?, hbl], by decide, by decide⟩
                      · exact ⟨z, by simp [World.cell?, hbl], HC.out.2⟩
                    have HD : Hid (MS w wd s zs (.slice oa1 n cp1) (.slice (some ⟨g2, 0, none⟩) ms.length cp2) ts (ms.set j (xj + 1)) ∧ i64Ok y) := ⟨hE.draw h1 h2, hxo⟩
                    clear h1 h2 hq hbl hxo hE HC hsw
                    go_wp2
                    refine bodyPost_ret (v := .tuple #[.int .i64 (b0 : Int), (.slice oa1 n cp1), .int .i64 y, (.slice (some ⟨g2, 0, none⟩) ms.length cp2)]) (by simp [results, Try.results41, go_sem]) rfl ?_
                    exact ⟨(b0 : Int), y, (.slice oa1 n cp1), (.slice (some ⟨g2, 0, none⟩) ms.length cp2), s, ts, (ms.set j (xj + 1)), rfl, ⟨by omega, by omega⟩, HD.out.2, HD.out.1, by omega, HNS.out⟩
                · go_wp2_with fail
                  refine (wild_any s zs _ HA.out.src).mono ?_
                  rintro e we ⟨z, rfl, hz, h1, h2⟩
                  have HC : Hid (MS w we s zs (.slice oa1 n cp1) (.slice (some ⟨g2, 0, none⟩) ms.length cp2) ts (ms.set j (xj + 1)) ∧ i64Ok z) := ⟨HA.out.draw h1 h2, hz⟩
                  clear h1 h2 hz
                  go_wp2_with fail
                  have hE := HC.out.1.more (World.grownBy_alloc we (.cells #[.int .i64 (-1), .int .i64 1000001, .int .i64 z] 3) none)
                  refine (drawN_any s 3 zs _ hE.src (by decide) (by decide)).mono ?_
                  rintro e wf ⟨q, rfl, -, hq, h1, h2⟩
                  have hq3 : q < 3 := by have := hq (by decide); omega
                  have hsw : s < we.heap.size := HC.out.1.src.lt
                  have hbl : wf.heap[we.heap.size]? = some (.cells #[.int .i64 (-1), .int .i64 1000001, .int .i64 z] 3 (0, 0)) := (h2.block we.heap.size (by simp) (by simp; omega)).trans (heap_alloc_new we _)
                  obtain ⟨x, hx, hxo⟩ : ∃ x, wf.cell? ⟨we.heap.size, q, none⟩ = some (.int .i64 x) ∧ i64Ok x := by
                    rcases (show q = 0 ∨ q = 1 ∨ q = 2 by omega) with rfl | rfl | rfl
                    · exact ⟨-1, by simp [World.cell?, hbl], by decide, by decide⟩
                    · exact ⟨1000001, by simp [World.cell?, hbl], by decide, by decide⟩
                    · exact ⟨z, by simp [World.cell?, hbl], HC.out.2⟩
                  have HF : Hid (MS w wf s zs (.slice oa1 n cp1) (.slice (some ⟨g2, 0, none⟩) ms.length cp2) ts (ms.set j (xj + 1)) ∧ i64Ok x) := ⟨hE.draw h1 h2, hxo⟩
                  clear h1 h2 hq hbl hxo hE HC hsw
                  go_wp2_with fail
                  refine (one_any s 12 zs _ HF.out.1.src (by decide) (by decide)).mono ?_
                  rintro e wb ⟨bb, rfl, h1, h2⟩
                  have HB : Hid (MS w wb s zs (.slice oa1 n cp1) (.slice (some ⟨g2, 0, none⟩) ms.length cp2) ts (ms.set j (xj + 1))) := HF.out.1.draw h1 h2
                  clear h1 h2
                  cases bb
                  · go_wp2
                    refine bodyPost_ret (v := .tuple #[.int .i64 x, (.slice oa1 n cp1), .int .i64 (p0 : Int), (.slice (some ⟨g2, 0, none⟩) ms.length cp2)]) (by simp [results, Try.results41, go_sem]) rfl ?_
                    exact ⟨x, (p0 : Int), (.slice oa1 n cp1), (.slice (some ⟨g2, 0, none⟩) ms.length cp2), s, ts, (ms.set j (xj + 1)), rfl, HF.out.2, ⟨by omega, by omega⟩, HB.out, by omega, HNS.out⟩
                  · go_wp2_with fail
                    refine (wild_any s zs _ HB.out.src).mono ?_
                    rintro e wc ⟨z, rfl, hz, h1, h2⟩
                    have HC : Hid (MS w wc s zs (.slice oa1 n cp1) (.slice (some ⟨g2, 0, none⟩) ms.length cp2) ts (ms.set j (xj + 1)) ∧ i64Ok z) := ⟨HB.out.draw h1 h2, hz⟩
                    clear h1 h2 hz
                    go_wp2_with fail
                    have hE := HC.out.1.more (World.grownBy_alloc wc (.cells #[.int .i64 (-1), .int .i64 1000001, .int .i64 z] 3) none)
                    refine (drawN_any s 3 zs _ hE.src (by decide) (by decide)).mono ?_
                    rintro e wd ⟨q, rfl, -, hq, h1, h2⟩
                    have hq3 : q < 3 := by have := hq (by decide); omega
                    have hsw : s < wc.heap.size := HC.out.1.src.lt
                    have hbl : wd.heap[wc.heap.size]? = some (.cells #[.int .i64 (-1), .int .i64 1000001, .int .i64 z] 3 (0, 0)) := (h2.block wc.heap.size (by simp) (by simp; omega)).trans (heap_alloc_new wc _)
                    obtain ⟨y, hx, hxo⟩ : ∃ x, wd.cell? ⟨wc.heap.size, q, none⟩ = some (.int .i64 x) ∧ i64Ok x := by
                      rcases (show q = 0 ∨ q = 1 ∨ q = 2 by omega) with rfl | rfl | rfl
                      · exact ⟨-1, by simp [World.cell?, hbl], by decide, by decide⟩
                      · exact ⟨1000001, by simp [World.cell?, hbl], by decide, by decide⟩
                      · exact ⟨z, by simp [World.cell?, hbl], HC.out.2⟩
                    have HD : Hid (MS w wd s zs (.slice oa1 n cp1) (.slice (some ⟨g2, 0, none⟩) ms.length cp2) ts (ms.set j (xj + 1)) ∧ i64Ok y) := ⟨hE.draw h1 h2, hxo⟩
                    clear h1 h2 hq hbl hxo hE HC hsw
                    go_wp2
                    refine bodyPost_ret (v := .tuple #[.int .i64 x, (.slice oa1 n cp1), .int .i64 y, (.slice (some ⟨g2, 0, none⟩) ms.length cp2)]) (by simp [results, Try.results41, go_sem]) rfl ?_
                    exact ⟨x, y, (.slice oa1 n cp1), (.slice (some ⟨g2, 0, none⟩) ms.length cp2), s, ts, (ms.set j (xj + 1)), rfl, HF.out.2, HD.out.2, HD.out.1, by omega, HNS.out⟩
end Go.Proofs.Ytionggfecikedaa
