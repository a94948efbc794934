/-
  A state laid down by the model: the walk.
-/
import Derived.Test.YtionggfecikedaaSpEnc
import Derived.Deep.RegionHeld3
import Derived.Deep.DeepCutAuto
namespace Go.Proofs.Ytionggfecikedaa
open Go.RowKit

set_option maxHeartbeats 400000 in
theorem specEncState_no (b : Nat) (oa : Option Addr) (cap : Nat) (L : List Se) (w : World) (hs : SesSl w oa L) (hL : L.length ≤ 1073741824) (hn : ∀ x ∈ L, x.c ≤ 4611686018427387904 ∧ x.q ≤ 4611686018427387904 ∧ x.i ≤ 4611686018427387904 ∧ x.d.length ≤ 1073741824) (hb : b ≤ 4611686018427387904) (hV : ¬ ValidS b (L.map Se.tell)) :
    Calls Try.prog 33 #[.agg #[.int .i64 (b : Int), .slice none 0 0, .slice oa L.length cap]] w fun e w' => e = .returned (.tuple #[.slice none 0 0, .int .i64 5]) ∧ w.grownBy w' none := by
  have HK : Hid (∀ w', w.grownBy w' none → Calls Try.prog 53 #[.agg #[.int .i64 (b : Int), .slice none 0 0, .slice oa L.length cap]] w' fun e w'' => e = .returned (.bool false) ∧ w.grownBy w'' none) := by
    intro w' hw'
    refine (l5valid_any b oa cap L w' (hs.grown hw') hL hn hb).mono ?_
    rintro e w'' ⟨r, rfl, hr, hG⟩
    cases r
    · exact ⟨rfl, grownBy_trans hw' hG⟩
    · exact absurd (hr.1 rfl) hV
  clear hs hn hV
  go_enter Try.func33, Try.ntmps33
  go_wp2_with fail
  refine (HK.out _ (World.grownBy_alloc _ _ _)).mono ?_
  rintro e w1 ⟨rfl, hG1⟩
  have HG : Hid (w.grownBy w1 none) := hG1
  clear hG1
  go_wp2
  go_ret2
  exact ⟨rfl, HG.out⟩
set_option maxRecDepth 4000 in
set_option maxHeartbeats 4000000 in
theorem specEncState_ok (b : Nat) (oa : Option Addr) (cap : Nat) (L : List Se) (w : World) (hs : SesSl w oa L) (hV : ValidS b (L.map Se.tell)) (hd : ∀ x ∈ L, ∀ z ∈ x.d, z < 256) :
    Calls Try.prog 33 #[.agg #[.int .i64 (b : Int), .slice none 0 0, .slice oa L.length cap]] w fun e w' => ∃ g n cp, e = .returned (.tuple #[.slice (some ⟨g, 0, none⟩) n cp, .int .i64 0]) ∧ n = (encSt b (L.map Se.tell)).length ∧ w.heap.size ≤ g ∧ Own w' 5 g (encSt b (L.map Se.tell)) ∧ w.grownBy w' none := by
  have hb : b ≤ 1000000 := hV.1
  have hL : L.length ≤ 50 := by have := hV.len; simpa using this
  have hn : ∀ x ∈ L, x.c ≤ 50 ∧ x.q ≤ 1000000000 ∧ x.i ≤ 1000000 ∧ x.d.length ≤ 64 := by
    intro x hx
    have h1 := hV.2.1 x.tell (List.mem_map.2 ⟨x, hx, rfl⟩)
    obtain ⟨⟨h2, h3, h4, h5, h6⟩, h7⟩ := h1
    simp only [Se.tell] at *
    refine ⟨?_, ?_, ?_, ?_⟩ <;> omega
  have HK : Hid (∀ w', w.grownBy w' none → Calls Try.prog 53 #[.agg #[.int .i64 (b : Int), .slice none 0 0, .slice oa L.length cap]] w' fun e w'' => e = .returned (.bool true) ∧ w'.grownBy w'' none) := by
    intro w' hw'
    refine (l5valid_any b oa cap L w' (hs.grown hw') (by omega) (fun x hx => by have := hn x hx; omega) (by omega)).mono ?_
    rintro e w'' ⟨r, rfl, hr, hG⟩
    cases r
    · have := hr.2 hV; cases this
    · exact ⟨rfl, hG⟩
  have HS : Hid (SesSl w oa L ∧ (∀ x ∈ L, x.c ≤ 50 ∧ x.q ≤ 1000000000 ∧ x.i ≤ 1000000 ∧ x.d.length ≤ 64) ∧ (∀ x ∈ L, ∀ z ∈ x.d, z < 256)) := ⟨hs, hn, hd⟩
  clear hs hn hd hV
  obtain ⟨i0, TB⟩ := byteT
  go_enter Try.func33, Try.ntmps33
  go_wp2_with fail
  refine (HK.out _ (World.grownBy_alloc _ _ _)).mono ?_
  rintro e w1 ⟨rfl, hG1⟩
  have hz : w.heap.size < w1.heap.size := by have := hG1.size; simp at this; omega
  have A0 : w1.cell? ⟨w.heap.size, 0, none⟩ = some (.int .i64 (b : Int)) := ((bcell hG1).1 _ _ (by simp)).trans (by simp)
  have A1 : w1.cell? ⟨w.heap.size, 1, none⟩ = some (.slice none 0 0) := ((bcell hG1).1 _ _ (by simp)).trans (by simp)
  have A2 : w1.cell? ⟨w.heap.size, 2, none⟩ = some (.slice oa L.length cap) := ((bcell hG1).1 _ _ (by simp)).trans (by simp)
  have HG : Hid (w.grownBy w1 none) := grownBy_trans (World.grownBy_alloc _ _ _) hG1
  clear hG1 HK
  have HL : Hid (∀ (V1 : Nat) X, V1 ≤ 4611686018427387904 → Same w1 X → _) := put2x8 w1 w.heap.size _ _ _ (by omega) A0 A1 A2
  have e0 : IntKind.i64.wrap (b : Int) = b := IntWalk.i64_in _ (by omega)
  go_upto_region 3 with fail
  go_cut [4] (fun o wx => ∃ g n cp, o = .slice (some ⟨g, 0, none⟩) n cp ∧ ES w wx w.heap.size b w1.heap.size (.slice oa L.length cap) g n cp (stTo b L 0))
  case first =>
    go_region_held3 (fun w' => w'.cell? ⟨w.heap.size, 0, none⟩ = some (.int .i64 (b : Int)) ∧ w'.cell? ⟨w.heap.size, 1, none⟩ = some (.slice none 0 0) ∧ w'.cell? ⟨w.heap.size, 2, none⟩ = some (.slice oa L.length cap)) (first | go_keep | exact hE | exact hD | (exact ⟨keep_far hgr.out hlt hne hD.1, keep_far hgr.out hlt hne hD.2.1, keep_far hgr.out hlt hne hD.2.2⟩) | fail)
      (first
        | (go_at_call 45; refine (HN.out _ _ (by omega) (by exact ⟨rfl, rfl, rfl, rfl⟩)).mono ?_; rintro e w2 ⟨g2, p2, rfl, hD, HR1, HR2, HG2⟩)
        | (go_at_call 45; refine (HL.out _ _ (by omega) (by exact ⟨rfl, rfl, rfl, rfl⟩)).mono ?_; rintro e wa ⟨ga, pa, rfl, hE, HN⟩)
        | (refine step_append_b (by rfl) (.tmp 18) (.tmp 22) TB (by rfl) (base := w1.heap.size) (g := ga) (n := 8) (cap := pa) (xs := leN b 8) (by rfl) (by exact ownsRow_heap HR1.out rfl) (oa := some ⟨g2, 0, none⟩) (m := 8) (c := p2) (zs := leN L.length 8) (by rfl) (by exact (ownsRow_sl HR2.out (leN_lt L.length 8)).heap rfl) (by omega) (by exact HG2.out.size) ?_; intro g3 c3 w3 hown hgr hat hsz; have hlt : w.heap.size < w2.heap.size := (by have := HG2.out.size; omega); have hne : w.heap.size ≠ ga := (by have := (HR1.out.lt ga rfl).1; omega))
        | (refine step_append_b (by rfl) (.tmp 18) (.tmp 22) TB (by rfl) (base := w1.heap.size) (g := g2) (n := 8) (cap := p2) (xs := leN b 8) (by rfl) (by exact ownsRow_heap HR2.out rfl) (oa := some ⟨ga, 0, none⟩) (m := 8) (c := pa) (zs := leN L.length 8) (by rfl) (by exact (ownsRow_sl HR1.out (leN_lt L.length 8)).heap rfl) (by omega) (by exact HG2.out.size) ?_; intro g3 c3 w3 hown hgr hat hsz; have hlt : w.heap.size < w2.heap.size := (by have := HG2.out.size; omega); have hne : w.heap.size ≠ g2 := (by have := (HR2.out.lt g2 rfl).1; omega))
        | fail)
    all_goals
      have HE : Hid (ES w w3 w.heap.size b w1.heap.size (.slice oa L.length cap) g3 16 c3 (stTo b L 0)) := by
        refine ⟨grown_next hgr.out (grownBy_trans HG.out HG2.out) ⟨rfl, rfl, rfl, rfl⟩ (by first | (have := (HR1.out.lt ga rfl).1; omega) | (have := (HR2.out.lt g2 rfl).1; omega)), ⟨keep_far hgr.out hlt hne hD.1, keep_far hgr.out hlt hne hD.2.1, keep_far hgr.out hlt hne hD.2.2⟩, ?_, hz, HG.out.size, Nat.le_trans HG2.out.size hsz, by rw [stTo_zero]; simp [leN_len]⟩
        rw [stTo_zero, List.map_append]
        exact hown.out
      clear hgr hat hown hD HR1 HR2 HG2 hne hlt hE HN
      go_wp2_with fail
      go_meet
      case rel => exact ⟨g3, 16, c3, rfl, HE.out⟩
  case rest =>
    obtain ⟨g0, n0, cp0, rfl, hE0⟩ := hcut
    have HE0 : Hid (ES w wc w.heap.size b w1.heap.size (.slice oa L.length cap) g0 n0 cp0 (stTo b L 0)) := hE0
    obtain ⟨t0, t1, t2⟩ := hE0.box
    generalize w1.heap.size = D at *
    clear hE0 HL A0 A1 A2 HG
    go_wp2
    go_loopw [4, 27] (fun o i wl => ∃ (k g n cp : Nat), k ≤ L.length ∧ i = .int .i64 (k : Int) ∧ o = .slice (some ⟨g, 0, none⟩) n cp ∧ ES w wl w.heap.size b D (.slice oa L.length cap) g n cp (stTo b L k) ∧ n ≤ 16 + 96 * k) (fun _ i _ => L.length - (intOf i).toNat)
    case atStart => exact ⟨0, g0, n0, cp0, Nat.zero_le _, rfl, rfl, HE0.out, by have := HE0.out.len; rw [stTo_zero] at this; simp [leN_len] at this; omega⟩
    case round =>
      clear HE0 t0 t1 t2
      obtain ⟨k, g, n, cp, hk, rfl, rfl, hE, hnk⟩ := hrel
      have HE : Hid (ES w wr w.heap.size b D (.slice oa L.length cap) g n cp (stTo b L k)) := hE
      clear hE
      by_cases hlt : k < L.length
      · obtain ⟨x, hx⟩ : ∃ x, L[k]? = some x := ⟨L[k], List.getElem?_eq_getElem hlt⟩
        obtain ⟨gx, rfl, x0, x1, x2, x3, x4, x5⟩ := (HS.out.1.grown HE.out.grown) k x hx
        obtain ⟨n1, n2, n3, n4⟩ := HS.out.2.1 x (List.mem_of_getElem? hx)
        have HX : Hid (stTo b L (k + 1) = stTo b L k ++ numTo x 4 ++ x.d ∧ OwnS w 5 (oad x.o) x.d.length x.d) := ⟨stTo_succ b L k x hx, by obtain ⟨_, _, _, _, _, _, h9, _⟩ := HS.out.1 k x hx; exact h9⟩
        have hkL : (k : Int) < (L.length : Int) := by omega
        have HE2 := Hid.mkS (HE.out.more (grownBy_alloc (World.grownBy_alloc wr (.cells #[.int .i64 (x.c : Int), .int .i64 (x.q : Int), .int .i64 (x.i : Int), .slice (oad x.o) x.d.length x.cp] 79) none) (.cells #[.int .i64 (x.c : Int), .int .i64 (x.q : Int), .int .i64 (x.i : Int), .int .i64 ((x.d.length : Nat) : Int)] 3)))
        have HXY : Hid (((wr.alloc (.cells #[.int .i64 (x.c : Int), .int .i64 (x.q : Int), .int .i64 (x.i : Int), .slice (oad x.o) x.d.length x.cp] 79)).alloc (.cells #[.int .i64 (x.c : Int), .int .i64 (x.q : Int), .int .i64 (x.i : Int), .int .i64 ((x.d.length : Nat) : Int)] 3)).heap[wr.heap.size]? = some (.cells #[.int .i64 (x.c : Int), .int .i64 (x.q : Int), .int .i64 (x.i : Int), .slice (oad x.o) x.d.length x.cp] 79 (0, 0)) ∧ ((wr.alloc (.cells #[.int .i64 (x.c : Int), .int .i64 (x.q : Int), .int .i64 (x.i : Int), .slice (oad x.o) x.d.length x.cp] 79)).alloc (.cells #[.int .i64 (x.c : Int), .int .i64 (x.q : Int), .int .i64 (x.i : Int), .int .i64 ((x.d.length : Nat) : Int)] 3)).heap[wr.heap.size + 1]? = some (.cells #[.int .i64 (x.c : Int), .int .i64 (x.q : Int), .int .i64 (x.i : Int), .int .i64 ((x.d.length : Nat) : Int)] 3 (0, 0))) := ⟨(Below.heap_alloc _ _ _ (by simp)).trans (heap_alloc_new wr _), heap_two wr _ _⟩
        clear hx x4 HE
        go_wp2
        generalize hXe : wr.heap.size = X at HXY ⊢
        go_loopw [4, 42] (fun o i wl => ∃ (j g n cp : Nat), j ≤ 4 ∧ i = .int .i64 (j : Int) ∧ o = .slice (some ⟨g, 0, none⟩) n cp ∧ ES w wl w.heap.size b D (.slice (some ⟨gx, 0, none⟩) L.length cap) g n cp (stTo b L k ++ numTo x j) ∧ n ≤ 16 + 96 * k + 8 * j ∧ wl.heap[X]? = some (.cells #[.int .i64 (x.c : Int), .int .i64 (x.q : Int), .int .i64 (x.i : Int), .slice (oad x.o) x.d.length x.cp] 79 (0, 0)) ∧ wl.heap[X + 1]? = some (.cells #[.int .i64 (x.c : Int), .int .i64 (x.q : Int), .int .i64 (x.i : Int), .int .i64 ((x.d.length : Nat) : Int)] 3 (0, 0))) (fun _ i _ => 4 - (intOf i).toNat)
        case atStart => exact ⟨0, g, n, cp, by omega, rfl, rfl, by have := HE2.out; simpa [numTo] using this, by omega, HXY.out.1, HXY.out.2⟩
        case round =>
          clear HE2 HXY x0 x1 x2 x3 x5 hXe
          obtain ⟨j, g3, n5, cp3, hj, rfl, rfl, hE3, hn5, hX3, hY3⟩ := hrel
          have HE3 : Hid (ES w wr w.heap.size b D (.slice (some ⟨gx, 0, none⟩) L.length cap) g3 n5 cp3 (stTo b L k ++ numTo x j) ∧ wr.heap[X]? = some (.cells #[.int .i64 (x.c : Int), .int .i64 (x.q : Int), .int .i64 (x.i : Int), .slice (oad x.o) x.d.length x.cp] 79 (0, 0)) ∧ wr.heap[X + 1]? = some (.cells #[.int .i64 (x.c : Int), .int .i64 (x.q : Int), .int .i64 (x.i : Int), .int .i64 ((x.d.length : Nat) : Int)] 3 (0, 0))) := ⟨hE3, hX3, hY3⟩
          by_cases hj4 : j < 4
          · obtain ⟨vj, hvj⟩ : ∃ vj, [x.c, x.q, x.i, x.d.length].getD j 0 = vj := ⟨_, rfl⟩
            have hvc : wr.cell? ⟨X + 1, j, none⟩ = some (.int .i64 (vj : Int)) := by
              rw [← hvj]
              rcases (show j = 0 ∨ j = 1 ∨ j = 2 ∨ j = 3 by omega) with rfl | rfl | rfl | rfl <;> simp [World.cell?, hY3]
            have hvb : vj ≤ 1000000000 := by
              rw [← hvj]
              rcases (show j = 0 ∨ j = 1 ∨ j = 2 ∨ j = 3 by omega) with rfl | rfl | rfl | rfl <;> simp <;> omega
            have HNS : Hid (numTo x (j + 1) = numTo x j ++ leN vj 8) := by show _ = _; rw [numTo_succ x j hj4, hvj]
            have hj4' : (j : Int) < 4 := by omega
            clear hE3 hX3 hY3 hvj
            go_wp2_with fail
            refine (l2Put8 vj wr (by omega)).mono ?_
            rintro e w5 ⟨g5, c5, rfl, hR5, hG5⟩
            have H5 : Hid (ES w w5 w.heap.size b D (.slice (some ⟨gx, 0, none⟩) L.length cap) g3 n5 cp3 (stTo b L k ++ numTo x j) ∧ w5.heap[X]? = some (.cells #[.int .i64 (x.c : Int), .int .i64 (x.q : Int), .int .i64 (x.i : Int), .slice (oad x.o) x.d.length x.cp] 79 (0, 0)) ∧ w5.heap[X + 1]? = some (.cells #[.int .i64 (x.c : Int), .int .i64 (x.q : Int), .int .i64 (x.i : Int), .int .i64 ((x.d.length : Nat) : Int)] 3 (0, 0)) ∧ SlB w5 (some ⟨g5, 0, none⟩) 8 (leN vj 8)) :=
              ⟨HE3.out.1.more hG5, (hG5.block X (Array.getElem?_eq_some_iff.1 HE3.out.2.1).1 (by simp)).trans HE3.out.2.1, (hG5.block (X + 1) (Array.getElem?_eq_some_iff.1 HE3.out.2.2).1 (by simp)).trans HE3.out.2.2, ownsRow_sl hR5 (leN_lt vj 8)⟩
            have hD5 := H5.out.1.hD
            clear hR5 hG5 HE3 hvc
            go_wp2_with (at_builtin; refine wpList_append_b (by rfl) (.tmp 46) (.tmp 48) TB (by rfl) (base := D) (g := g3) (n := n5) (cap := cp3) (xs := stTo b L k ++ numTo x j) (by rfl) (by exact H5.out.1.row) (oa := some ⟨g5, 0, none⟩) (m := 8) (c := c5) (zs := leN vj 8) (by rfl) (by exact H5.out.2.2.2) (by omega) (by omega) ?_)
            intro g6 c6 w6 hO6 hG6 hat6 hsz6
            have R6 : Hid (ES w w6 w.heap.size b D (.slice (some ⟨gx, 0, none⟩) L.length cap) g6 (n5 + 8) c6 (stTo b L k ++ numTo x (j + 1)) ∧ n5 + 8 ≤ 16 + 96 * k + 8 * (j + 1) ∧ w6.heap[X]? = some (.cells #[.int .i64 (x.c : Int), .int .i64 (x.q : Int), .int .i64 (x.i : Int), .slice (oad x.o) x.d.length x.cp] 79 (0, 0)) ∧ w6.heap[X + 1]? = some (.cells #[.int .i64 (x.c : Int), .int .i64 (x.q : Int), .int .i64 (x.i : Int), .int .i64 ((x.d.length : Nat) : Int)] 3 (0, 0))) := by
              have e1 : X ≠ g3 := row_ne H5.out.1.row H5.out.2.1 (by decide)
              have e2 : X + 1 ≠ g3 := row_ne H5.out.1.row H5.out.2.2.1 (by decide)
              refine ⟨H5.out.1.app ?_ hG6.out, by omega, (hG6.out.block X (Array.getElem?_eq_some_iff.1 H5.out.2.1).1 (by simp only [ne_eq, Option.some.injEq]; omega)).trans H5.out.2.1, (hG6.out.block (X + 1) (Array.getElem?_eq_some_iff.1 H5.out.2.2.1).1 (by simp only [ne_eq, Option.some.injEq]; omega)).trans H5.out.2.2.1⟩
              simp only [HNS.out, List.map_append]
              exact hO6.out
            clear hO6 hG6 hat6 H5
            go_wp2
            go_roundw
            case rel => exact ⟨j + 1, g6, n5 + 8, c6, by omega, by go_num, rfl, R6.out⟩
            case measure => simp [intOf]; omega
          · obtain rfl : j = 4 := by omega
            have c3 : wr.cell? ⟨X, 3, none⟩ = some (.slice (oad x.o) x.d.length x.cp) := by simp [World.cell?, hX3]
            have hD3 := hE3.hD
            have HSD : Hid (SlB wr (oad x.o) x.d.length x.d) := (HX.out.2.grown0 hE3.grown).sl
            clear hE3 hX3 hY3
            go_wp2_with (at_builtin; refine wpList_append_b (by rfl) (.tmp 51) (.tmp 53) TB (by rfl) (base := D) (g := g3) (n := n5) (cap := cp3) (xs := stTo b L k ++ numTo x 4) (by rfl) (by exact HE3.out.1.row) (oa := oad x.o) (m := x.d.length) (c := x.cp) (zs := x.d) (by rfl) (by exact HSD.out) (by omega) (by omega) ?_)
            intro g6 c6 w6 hO6 hG6 hat6 hsz6
            have R6 : Hid (ES w w6 w.heap.size b D (.slice (some ⟨gx, 0, none⟩) L.length cap) g6 (n5 + x.d.length) c6 (stTo b L (k + 1)) ∧ n5 + x.d.length ≤ 16 + 96 * (k + 1)) := by
              refine ⟨HE3.out.1.app ?_ hG6.out, by omega⟩
              simp only [HX.out.1, List.map_append, List.append_assoc]
              exact hO6.out
            clear hO6 hG6 hat6 HE3
            go_wp2
            go_roundw
            case rel => exact ⟨k + 1, g6, n5 + x.d.length, c6, by omega, by go_num, rfl, R6.out⟩
            case measure => simp [intOf]; omega
      · obtain rfl : k = L.length := by omega
        go_wp2
        go_ret2
        have h8 := HE.out.row
        rw [stTo_all] at h8
        exact ⟨g, n, cp, rfl, by have := HE.out.len; rw [stTo_all] at this; exact this.symm, Nat.le_trans HE.out.hw (h8.lt g rfl).1, own_made h8 (by rw [← stTo_all]; exact stTo_lt b L _ HS.out.2.2), HE.out.grown⟩
end Go.Proofs.Ytionggfecikedaa
