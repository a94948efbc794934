/-
  ImEnc, StDec
-/
import Derived.Test.YtdajcpcajdhplaaDoorSvc21
import Derived.Test.YtdajcpcajdhplaaDoorSvc7
import Derived.Deep.RegionHeld3
import Derived.Deep.DeepCutAuto
import Derived.Test.YtdajcpcajdhplaaDoorSvc6
/-
  A state laid down by the program, with kept items: the walk.
-/
namespace Go.Proofs.YtdajcpcajdhplaaDoor
open Go.RowKit

theorem pay2 (a b : Nat) : payN [a, b] = leN a 8 ++ leN b 8 := by simp [payN]
theorem pay4 (x : Se) : payN [x.c, x.q, x.i, x.d.length] = numTo x 4 := by simp [payN, numTo]
theorem two_cells (X : World) (Y : Nat) (a b : Nat) (h : X.heap[Y]? = some (.cells #[.int .i64 (a : Int), .int .i64 (b : Int)] 3 (0, 0))) : ∀ (i v : Nat), [a, b][i]? = some v → X.cell? ⟨Y, i, none⟩ = some (.int .i64 (v : Int)) := by
  intro i v hv
  match i, hv with
  | 0, hv => simp at hv; subst hv; simp [World.cell?, h]
  | 1, hv => simp at hv; subst hv; simp [World.cell?, h]
theorem four_cells (X : World) (Y : Nat) (a b c d : Nat) (h : X.heap[Y]? = some (.cells #[.int .i64 (a : Int), .int .i64 (b : Int), .int .i64 (c : Int), .int .i64 (d : Int)] 3 (0, 0))) : ∀ (i v : Nat), [a, b, c, d][i]? = some v → X.cell? ⟨Y, i, none⟩ = some (.int .i64 (v : Int)) := by
  intro i v hv
  match i, hv with
  | 0, hv => simp at hv; subst hv; simp [World.cell?, h]
  | 1, hv => simp at hv; subst hv; simp [World.cell?, h]
  | 2, hv => simp at hv; subst hv; simp [World.cell?, h]
  | 3, hv => simp at hv; subst hv; simp [World.cell?, h]
set_option maxHeartbeats 400000 in
theorem implEncG_no (bb : Int) (ko : Option Addr) (kn kc : Nat) (oa : Option Addr) (sn cap : Nat) (w : World) (hval : ∀ w', w.grownBy w' none → Calls Tryd.prog 33 #[.agg #[.int .i64 bb, .slice ko kn kc, .slice oa sn cap]] w' fun e w'' => e = .returned (.bool false) ∧ w'.grownBy w'' none) :
    Calls Tryd.prog 15 #[.agg #[.int .i64 bb, .slice ko kn kc, .slice oa sn cap]] w fun e w' => e = .returned (.tuple #[.slice none 0 0, .int .i64 5]) ∧ w.grownBy w' none := by
  have HK : Hid (∀ w', w.grownBy w' none → Calls Tryd.prog 33 #[.agg #[.int .i64 bb, .slice ko kn kc, .slice oa sn cap]] w' fun e w'' => e = .returned (.bool false) ∧ w'.grownBy w'' none) := hval; clear hval
  go_enter Tryd.func15, Tryd.ntmps15
  go_wp2_with fail; refine (HK.out _ (World.grownBy_alloc _ _ _)).mono ?_; rintro e w1 ⟨rfl, hG1⟩; have HG : Hid (w.grownBy w1 none) := grownBy_trans (World.grownBy_alloc _ _ _) hG1; clear hG1; go_wp2
  go_ret2
  exact ⟨rfl, HG.out⟩
theorem ownsRow_caps {w : World} {base e size g n cap : Nat} {xs : List Value} (h : w.ownsRow base e size (.slice (some ⟨g, 0, none⟩) n cap) n xs) : n ≤ cap ∧ cap ≤ maxLen := by
  rcases h.2 with ⟨h0, _⟩ | ⟨g', cap', cur, h0, _, _, hc, hm, _⟩
  · cases h0
  · simp only [Value.slice.injEq, Option.some.injEq, Addr.mk.injEq, and_true, true_and] at h0; obtain ⟨-, rfl⟩ := h0; exact ⟨hc, hm⟩
/-- what stands at a round's head -/
structure EG (w wl : World) (D g n cp : Nat) (zs : List Nat) : Prop where
  grown : w.grownBy wl none
  row : wl.ownsRow D 5 1 (.slice (some ⟨g, 0, none⟩) n cp) n (zs.map bv)
  hw : w.heap.size ≤ D
  hD : D ≤ wl.heap.size
  len : zs.length = n
theorem EG.more {w wl wx : World} {D g n cp : Nat} {zs : List Nat} (h : EG w wl D g n cp zs) (hg : wl.grownBy wx none) : EG w wx D g n cp zs :=
  ⟨grownBy_trans h.grown hg, World.ownsRow.kept h.row hg (.inr (by simp [Value.ownBlock])), h.hw, Nat.le_trans h.hD hg.size, h.len⟩
theorem EG.app {w wl wx : World} {D g n cp g' n' cp' : Nat} {zs zs' : List Nat} (h : EG w wl D g n cp zs) (hown : wx.ownsRow D 5 1 (.slice (some ⟨g', 0, none⟩) n' cp') n' (zs'.map bv)) (hg : wl.grownBy wx (some g)) : EG w wx D g' n' cp' zs' :=
  ⟨grownBy_new h.grown hg (Nat.le_trans h.hw (h.row.lt g rfl).1), hown, h.hw, Nat.le_trans h.hD hg.size, by simpa using hown.1⟩
set_option maxRecDepth 4000 in
set_option maxHeartbeats 4000000 in
theorem implEncG_ok (bb : Int) (ko : Option Addr) (kn kc : Nat) (b : Nat) (hbk : bb + (kn : Int) = (b : Int)) (hbb : 0 ≤ bb) (hkn : kn ≤ 1048576) (oa : Option Addr) (cap : Nat) (L : List Se) (w : World) (hs : SesSl w oa L) (hV : ValidW b (L.map Se.tell)) (hd : ∀ x ∈ L, ∀ z ∈ x.d, z < 256)
    (hval : ∀ w', w.grownBy w' none → Calls Tryd.prog 33 #[.agg #[.int .i64 bb, .slice ko kn kc, .slice oa L.length cap]] w' fun e w'' => e = .returned (.bool true) ∧ w'.grownBy w'' none) :
    Calls Tryd.prog 15 #[.agg #[.int .i64 bb, .slice ko kn kc, .slice oa L.length cap]] w fun e w' => ∃ g n cp, e = .returned (.tuple #[.slice (some ⟨g, 0, none⟩) n cp, .int .i64 0]) ∧ n = (encSt b (L.map Se.tell)).length ∧ w.heap.size ≤ g ∧ Own w' 5 g (encSt b (L.map Se.tell)) ∧ w.grownBy w' none ∧ n ≤ cp ∧ cp ≤ maxLen := by
  have hb : b ≤ 2000000 := hV.1
  have hL : L.length ≤ 50 := by have := hV.len; simpa using this
  have hn : ∀ x ∈ L, x.c ≤ 50 ∧ x.q ≤ 1000000000 ∧ x.i ≤ 2000000 ∧ x.d.length ≤ 64 := by
    intro x hx; have h1 := hV.2.1 x.tell (List.mem_map.2 ⟨x, hx, rfl⟩); obtain ⟨⟨h2, h3, h4, h5, h6⟩, h7⟩ := h1; simp only [Se.tell] at *; refine ⟨?_, ?_, ?_, ?_⟩ <;> omega
  have HK : Hid (∀ w', w.grownBy w' none → Calls Tryd.prog 33 #[.agg #[.int .i64 bb, .slice ko kn kc, .slice oa L.length cap]] w' fun e w'' => e = .returned (.bool true) ∧ w'.grownBy w'' none) := hval; have HS : Hid (SesSl w oa L ∧ (∀ x ∈ L, x.c ≤ 50 ∧ x.q ≤ 1000000000 ∧ x.i ≤ 2000000 ∧ x.d.length ≤ 64) ∧ (∀ x ∈ L, ∀ z ∈ x.d, z < 256)) := ⟨hs, hn, hd⟩; have HBK : Hid (bb + (kn : Int) = (b : Int)) := hbk; clear hs hn hd hV hval hbk; obtain ⟨i0, TB⟩ := byteT
  go_enter Tryd.func15, Tryd.ntmps15
  go_wp2_with fail; refine (HK.out _ (World.grownBy_alloc _ _ _)).mono ?_; rintro e w1 ⟨rfl, hG1⟩
  have hz : w.heap.size < w1.heap.size := by have := hG1.size; simp at this; omega
  have A0 : w1.cell? ⟨w.heap.size, 0, none⟩ = some (.int .i64 bb) := ((bcell hG1).1 _ _ (by simp)).trans (by simp); have A1 : w1.cell? ⟨w.heap.size, 1, none⟩ = some (.slice ko kn kc) := ((bcell hG1).1 _ _ (by simp)).trans (by simp); have A2 : w1.cell? ⟨w.heap.size, 2, none⟩ = some (.slice oa L.length cap) := ((bcell hG1).1 _ _ (by simp)).trans (by simp); have HG : Hid (w.grownBy w1 none) := grownBy_trans (World.grownBy_alloc _ _ _) hG1; clear hG1 HK
  have HC : Hid (∀ X, w1.grownBy X none → Calls Tryd.prog 38 #[.agg #[.int .i64 bb, .slice ko kn kc, .slice oa L.length cap]] X fun e w2 => e = .returned (.int .i64 (b : Int)) ∧ (w2.cell? ⟨w.heap.size, 0, none⟩ = some (.int .i64 bb) ∧ w2.cell? ⟨w.heap.size, 1, none⟩ = some (.slice ko kn kc) ∧ w2.cell? ⟨w.heap.size, 2, none⟩ = some (.slice oa L.length cap)) ∧ w.heap.size < w2.heap.size ∧ Hid (w1.grownBy w2 none)) := by
    intro X hX; refine (countE_any bb ko kn kc _ X (by have := HBK.out; omega) hkn).mono ?_; rintro e w2 ⟨rfl, hG2⟩; have G := grownBy_trans hX hG2; exact ⟨by rw [HBK.out], ⟨((bcell G).1 _ _ hz).trans A0, ((bcell G).1 _ _ hz).trans A1, ((bcell G).1 _ _ hz).trans A2⟩, Nat.lt_of_lt_of_le hz G.size, G⟩
  go_upto_region 3 with fail
  go_cut [4] (fun o wx => ∃ g n cp, o = .slice (some ⟨g, 0, none⟩) n cp ∧ EG w wx w1.heap.size g n cp (stTo b L 0) ∧ wx.cell? ⟨w.heap.size, 2, none⟩ = some (.slice oa L.length cap))
  case first =>
    go_region_with (first
      | (go_at_call 38; refine (HC.out _ (by repeat (first | exact grownBy_refl _ _ | apply grownBy_drew | apply grownBy_alloc))).mono ?_; rintro e w2 ⟨rfl, ⟨d0, d1, d2⟩, hz2, HG2⟩)
      | (go_at_call 37; refine (payload_any w2.heap.size 2 2 [b, L.length] _ (two_cells _ _ _ _ (by first | exact heap_alloc_new _ _ | simp)) rfl (by omega) (by intro v hv; simp at hv; omega)).mono ?_; rintro e w3 ⟨rfl, hR3, hG3⟩)
      | fail)
    all_goals
      have HE : Hid (EG w w3 w1.heap.size (w2.heap.size + 1) 16 16 (stTo b L 0) ∧ w3.cell? ⟨w.heap.size, 2, none⟩ = some (.slice oa L.length cap)) := by
        have hs2 := HG2.out.size; have G3 := grownBy_trans (grownBy_trans (grownBy_trans HG.out HG2.out) (World.grownBy_alloc w2 _ none)) hG3; rw [pay2] at hR3; refine ⟨⟨G3, ?_, HG.out.size, Nat.le_trans hs2 (Nat.le_trans (by simp) hG3.size), by rw [stTo_zero]; simp [leN_len]⟩, ((bcell hG3).1 _ _ (by simp; omega)).trans (((bcell (World.grownBy_alloc w2 _ none)).1 _ _ hz2).trans d2)⟩; rw [stTo_zero]; refine ownsRow_base ?_ (base := w2.heap.size + 1) (by omega)
        simpa using hR3
      clear hR3 hG3; go_wp2_with fail; go_meet
      case rel => exact ⟨_, 16, 16, rfl, HE.out⟩
  case rest =>
    obtain ⟨g0, n0, cp0, rfl, hE0, t2⟩ := hcut; have HE0 : Hid (EG w wc w1.heap.size g0 n0 cp0 (stTo b L 0)) := hE0; generalize w1.heap.size = D at *; clear hE0 HC A0 A1 A2 HG; go_wp2
    go_loopw [4, 20] (fun o i wl => ∃ (k g n cp : Nat), k ≤ L.length ∧ i = .int .i64 (k : Int) ∧ o = .slice (some ⟨g, 0, none⟩) n cp ∧ EG w wl D g n cp (stTo b L k) ∧ n ≤ 16 + 96 * k) (fun _ i _ => L.length - (intOf i).toNat)
    case atStart => exact ⟨0, g0, n0, cp0, Nat.zero_le _, rfl, rfl, HE0.out, by have := HE0.out.len; rw [stTo_zero] at this; simp [leN_len] at this; omega⟩
    case round =>
      clear HE0 t2; obtain ⟨k, g, n, cp, hk, rfl, rfl, hE, hnk⟩ := hrel; have HE : Hid (EG w wr D g n cp (stTo b L k)) := hE; clear hE
      by_cases hlt : k < L.length
      · obtain ⟨x, hx⟩ : ∃ x, L[k]? = some x := ⟨L[k], List.getElem?_eq_getElem hlt⟩; obtain ⟨gx, rfl, x0, x1, x2, x3, x4, x5⟩ := (HS.out.1.grown HE.out.grown) k x hx; obtain ⟨n1, n2, n3, n4⟩ := HS.out.2.1 x (List.mem_of_getElem? hx); have HX : Hid (stTo b L (k + 1) = stTo b L k ++ numTo x 4 ++ x.d ∧ OwnS w 5 (oad x.o) x.d.length x.d) := ⟨stTo_succ b L k x hx, by obtain ⟨_, _, _, _, _, _, h9, _⟩ := HS.out.1 k x hx; exact h9⟩
        have hkL : (k : Int) < (L.length : Int) := by omega
        have HE2 := Hid.mkS (HE.out.more (grownBy_alloc (World.grownBy_alloc wr (.cells #[.int .i64 (x.c : Int), .int .i64 (x.q : Int), .int .i64 (x.i : Int), .slice (oad x.o) x.d.length x.cp] 74) none) (.cells #[.int .i64 (x.c : Int), .int .i64 (x.q : Int), .int .i64 (x.i : Int), .int .i64 ((x.d.length : Nat) : Int)] 3))); have HXY : Hid (((wr.alloc (.cells #[.int .i64 (x.c : Int), .int .i64 (x.q : Int), .int .i64 (x.i : Int), .slice (oad x.o) x.d.length x.cp] 74)).alloc (.cells #[.int .i64 (x.c : Int), .int .i64 (x.q : Int), .int .i64 (x.i : Int), .int .i64 ((x.d.length : Nat) : Int)] 3)).heap[wr.heap.size]? = some (.cells #[.int .i64 (x.c : Int), .int .i64 (x.q : Int), .int .i64 (x.i : Int), .slice (oad x.o) x.d.length x.cp] 74 (0, 0)) ∧ ((wr.alloc (.cells #[.int .i64 (x.c : Int), .int .i64 (x.q : Int), .int .i64 (x.i : Int), .slice (oad x.o) x.d.length x.cp] 74)).alloc (.cells #[.int .i64 (x.c : Int), .int .i64 (x.q : Int), .int .i64 (x.i : Int), .int .i64 ((x.d.length : Nat) : Int)] 3)).heap[wr.heap.size + 1]? = some (.cells #[.int .i64 (x.c : Int), .int .i64 (x.q : Int), .int .i64 (x.i : Int), .int .i64 ((x.d.length : Nat) : Int)] 3 (0, 0))) := ⟨(Below.heap_alloc _ _ _ (by simp)).trans (heap_alloc_new wr _), heap_two wr _ _⟩; clear hx x4 HE; go_wp2_with fail; refine (payload_any (wr.heap.size + 1) 4 4 [x.c, x.q, x.i, x.d.length] _ (four_cells _ _ _ _ _ _ HXY.out.2) rfl (by omega) (by intro v hv; simp at hv; omega)).mono ?_; rintro e w5 ⟨rfl, hR5, hG5⟩; rw [pay4] at hR5; obtain ⟨g5, hg5⟩ : ∃ g5, g5 = ((wr.alloc (.cells #[.int .i64 (x.c : Int), .int .i64 (x.q : Int), .int .i64 (x.i : Int), .slice (oad x.o) x.d.length x.cp] 74)).alloc (.cells #[.int .i64 (x.c : Int), .int .i64 (x.q : Int), .int .i64 (x.i : Int), .int .i64 ((x.d.length : Nat) : Int)] 3)).heap.size := ⟨_, rfl⟩
        have H5 : Hid (EG w w5 D g n cp (stTo b L k) ∧ w5.heap[wr.heap.size]? = some (.cells #[.int .i64 (x.c : Int), .int .i64 (x.q : Int), .int .i64 (x.i : Int), .slice (oad x.o) x.d.length x.cp] 74 (0, 0)) ∧ SlB w5 (some ⟨g5, 0, none⟩) 32 (numTo x 4)) := by
          refine ⟨HE2.out.more hG5, (hG5.block _ (Array.getElem?_eq_some_iff.1 HXY.out.1).1 (by simp)).trans HXY.out.1, ?_⟩; rw [← hg5] at hR5; exact ownsRow_sl hR5 (numTo_lt x 4)
        rw [← hg5]; have hD5 := H5.out.1.hD; clear hR5 hG5 HE2 hg5 HXY x0 x1 x2 x3
        go_wp2_with (at_builtin; refine wpList_append_b (by rfl) (.tmp 24) (.tmp 35) TB (by rfl) (base := D) (g := g) (n := n) (cap := cp) (xs := stTo b L k) (by rfl) (by exact H5.out.1.row) (oa := some ⟨g5, 0, none⟩) (m := 32) (c := 32) (zs := numTo x 4) (by rfl) (by exact H5.out.2.2) (by omega) (by omega) ?_)
        intro g6 c6 w6 hO6 hG6 hat6 hsz6; have e1 : wr.heap.size ≠ g := row_ne H5.out.1.row H5.out.2.1 (by decide); have hX6 : w6.heap[wr.heap.size]? = some (.cells #[.int .i64 (x.c : Int), .int .i64 (x.q : Int), .int .i64 (x.i : Int), .slice (oad x.o) x.d.length x.cp] 74 (0, 0)) := (hG6.out.block _ (Array.getElem?_eq_some_iff.1 H5.out.2.1).1 (by simp only [ne_eq, Option.some.injEq]; omega)).trans H5.out.2.1
        have c3 : w6.cell? ⟨wr.heap.size, 3, none⟩ = some (.slice (oad x.o) x.d.length x.cp) := by simp [World.cell?, hX6]
        have R6 : Hid (EG w w6 D g6 (n + 32) c6 (stTo b L k ++ numTo x 4) ∧ SlB w6 (oad x.o) x.d.length x.d) := by
          have h9 := H5.out.1.app (zs' := stTo b L k ++ numTo x 4) (by rw [List.map_append]; exact hO6.out) hG6.out; exact ⟨h9, (HX.out.2.grown0 h9.grown).sl⟩
        have hD6 := R6.out.1.hD; clear hO6 hG6 hat6 H5 hX6 e1
        go_wp2_with (at_builtin; refine wpList_append_b (by rfl) (.tmp 37) (.tmp 39) TB (by rfl) (base := D) (g := g6) (n := n + 32) (cap := c6) (xs := stTo b L k ++ numTo x 4) (by rfl) (by exact R6.out.1.row) (oa := oad x.o) (m := x.d.length) (c := x.cp) (zs := x.d) (by rfl) (by exact R6.out.2) (by omega) (by omega) ?_)
        intro g7 c7 w7 hO7 hG7 hat7 hsz7
        have R7 : Hid (EG w w7 D g7 (n + 32 + x.d.length) c7 (stTo b L (k + 1)) ∧ n + 32 + x.d.length ≤ 16 + 96 * (k + 1)) := by
          refine ⟨R6.out.1.app ?_ hG7.out, by omega⟩; simp only [HX.out.1, List.map_append, List.append_assoc]; exact hO7.out
        clear hO7 hG7 hat7 R6; go_wp2; go_roundw
        case rel => exact ⟨k + 1, g7, n + 32 + x.d.length, c7, by omega, by go_num, rfl, R7.out⟩
        case measure => simp [intOf]; omega
      · obtain rfl : k = L.length := by omega
        go_wp2
        go_ret2
        have h8 := HE.out.row; rw [stTo_all] at h8; exact ⟨g, n, cp, rfl, by have := HE.out.len; rw [stTo_all] at this; exact this.symm, Nat.le_trans HE.out.hw (h8.lt g rfl).1, own_made h8 (by rw [← stTo_all]; exact stTo_lt b L _ HS.out.2.2), HE.out.grown, (ownsRow_caps h8).1, (ownsRow_caps h8).2⟩
/-- what the reading of numbers says, one behind the other -/
def NumStep (wr : Bool) (zs : List Nat) (v : Nat) (wr' : Bool) (zs' : List Nat) : Prop :=
  v ≤ 1000000000 ∧ (wr = true → wr' = true) ∧ (wr' = false → zs = leN v 8 ++ zs') ∧ (∀ v0 t, wr = false → zs = leN v0 8 ++ t → v0 ≤ 1000000000 → wr' = false)
def BytStep (wr : Bool) (zs : List Nat) (n m : Nat) (d : List Nat) (wr' : Bool) (zs' : List Nat) : Prop :=
  (wr = true → wr' = true) ∧ (wr' = false → m = n ∧ zs = d ++ zs') ∧ (wr = false → n ≤ zs.length → wr' = false)
theorem NumStep.back {wr wr' : Bool} {zs zs' : List Nat} {v : Nat} (h : NumStep wr zs v wr' zs') (h' : wr' = false) : wr = false ∧ zs = leN v 8 ++ zs' := by
  refine ⟨?_, h.2.2.1 h'⟩
  cases wr with
  | false => rfl
  | true => have := h.2.1 rfl; rw [h'] at this; cases this
theorem NumStep.on {wr wr' : Bool} {zs zs' : List Nat} {v v0 : Nat} {t : List Nat} (h : NumStep wr zs v wr' zs') (hw : wr = false) (he : zs = leN v0 8 ++ t) (hv : v0 ≤ 1000000000) : wr' = false ∧ v = v0 ∧ zs' = t := by
  have h1 := h.2.2.2 v0 t hw he hv; have h2 := h.2.2.1 h1; have h3 := h.1; rw [h2] at he; obtain ⟨h4, h5⟩ := num_inj (by unfold P64; omega) (by unfold P64; omega) he; exact ⟨h1, h4, h5⟩
theorem step_back {wr wr1 wr2 wr3 wr4 wr5 : Bool} {zs z1 z2 z3 z4 z5 d : List Nat} {c q i n m : Nat} (h1 : NumStep wr zs c wr1 z1) (h2 : NumStep wr1 z1 q wr2 z2) (h3 : NumStep wr2 z2 i wr3 z3) (h4 : NumStep wr3 z3 n wr4 z4) (h5 : BytStep wr4 z4 n m d wr5 z5) (hm : d.length = m) (h : wr5 = false) :
    wr = false ∧ zs = encS ⟨c, q, i, d⟩ ++ z5 := by
  obtain ⟨h6, h7⟩ := h5.2.1 h
  have w4 : wr4 = false := by
    cases wr4 with
    | false => rfl
    | true => have := h5.1 rfl; rw [h] at this; cases this
  obtain ⟨w3, e4⟩ := h4.back w4; obtain ⟨w2, e3⟩ := h3.back w3; obtain ⟨w1, e2⟩ := h2.back w2; obtain ⟨w0, e1⟩ := h1.back w1; refine ⟨w0, ?_⟩; rw [e1, e2, e3, e4, h7]
  unfold encS
  simp only [List.append_assoc]; rw [hm, h6]
theorem step_on {wr wr1 wr2 wr3 wr4 wr5 : Bool} {zs z1 z2 z3 z4 z5 d t : List Nat} {c q i n m : Nat} (y : Sn) (b : Nat) (h1 : NumStep wr zs c wr1 z1) (h2 : NumStep wr1 z1 q wr2 z2) (h3 : NumStep wr2 z2 i wr3 z3) (h4 : NumStep wr3 z3 n wr4 z4) (h5 : BytStep wr4 z4 n m d wr5 z5) (hw : wr = false) (he : zs = encS y ++ t) (hy : okS y ∧ y.i < b) (hb : b ≤ 1000000) : wr5 = false := by
  obtain ⟨⟨y1, y2, y3, y4, y5⟩, y6⟩ := hy
  unfold encS at he
  simp only [List.append_assoc] at he; obtain ⟨w1, _, e1⟩ := h1.on hw he (by omega); obtain ⟨w2, _, e2⟩ := h2.on w1 e1 (by omega); obtain ⟨w3, _, e3⟩ := h3.on w2 e2 (by omega); obtain ⟨w4, hn, e4⟩ := h4.on w3 e3 (by omega); exact h5.2.2 w4 (by rw [e4, List.length_append]; omega)

/-- what stands while a state is read -/
structure PS (w0 wl : World) (p r b : Nat) (wr : Bool) (zs : List Nat) : Prop where
  grown : w0.grownBy wl none
  rd : ∃ off len cap, Rd wl r b off len cap wr ∧ SlB wl (some ⟨b, off, none⟩) len zs ∧ len ≤ cap ∧ cap ≤ maxLen ∧ len ≤ 1073741824
  pv : wl.heap[p]? = some (.cells #[.int .i64 0, .slice none 0 0, .slice none 0 0] 28 (0, 0))
  hb : b < w0.heap.size
  hp : w0.heap.size ≤ p
  hr : p < r
theorem PS.plt {w0 wl : World} {p r b : Nat} {wr : Bool} {zs : List Nat} (h : PS w0 wl p r b wr zs) : p < wl.heap.size := (Array.getElem?_eq_some_iff.1 h.pv).1
theorem PS.more {w0 wl wx : World} {p r b : Nat} {wr : Bool} {zs : List Nat} (h : PS w0 wl p r b wr zs) (hg : wl.grownBy wx none) : PS w0 wx p r b wr zs := by
  obtain ⟨off, len, cap, h1, h2, h3⟩ := h.rd; exact ⟨grownBy_trans h.grown hg, ⟨off, len, cap, h1.grown hg (by simp), h2.grown0 hg, h3⟩, (hg.block p h.plt (by simp)).trans h.pv, h.hb, h.hp, h.hr⟩
/-- a number is read -/
theorem PS.number {w0 wl : World} {p r b : Nat} {wr : Bool} {zs : List Nat} (h : PS w0 wl p r b wr zs) :
    Calls Tryd.prog 39 #[.pointer (some ⟨r, 0, none⟩)] wl fun e wx => ∃ (v : Nat) (wr' : Bool) (zs' : List Nat), e = .returned (.int .i64 (v : Int)) ∧ NumStep wr zs v wr' zs' ∧ PS w0 wx p r b wr' zs' ∧ wl.grownBy wx (some r) := by
  obtain ⟨off, len, cap, h1, h2, h3, h4, h5⟩ := h.rd; have hbl := Nat.lt_of_lt_of_le h.hb h.grown.size; have hpp := h.hp; have hrr := h.hr; have hbb := h.hb; refine (number_any r b off len cap wr zs wl h1 h2 hbl (by omega) h3 h4).mono ?_; rintro e wx ⟨v, wr', zs', rfl, hv, ⟨off', len', cap', r1, r2, r3, r4, r5, r6, r7⟩, f1, f2⟩; exact ⟨v, wr', zs', rfl, ⟨hv, r7, f1, f2⟩, ⟨grownBy_new h.grown r6 (by omega), ⟨off', len', cap', r1, r2, r4, r5, by omega⟩, (r6.block p h.plt (by simp only [ne_eq, Option.some.injEq]; omega)).trans h.pv, h.hb, h.hp, h.hr⟩, r6⟩
theorem PS.bytes {w0 wl : World} {p r b : Nat} {wr : Bool} {zs : List Nat} (h : PS w0 wl p r b wr zs) (n : Nat) :
    Calls Tryd.prog 40 #[.pointer (some ⟨r, 0, none⟩), .int .i64 (n : Int)] wl fun e wx => ∃ (o : Option Nat) (m cp : Nat) (d : List Nat) (wr' : Bool) (zs' : List Nat), e = .returned (.slice (oad o) m cp) ∧ OwnS wx 5 (oad o) m d ∧ (o = none → cp = 0) ∧ (∀ g, o = some g → wl.heap.size ≤ g) ∧ m ≤ 1073741824 ∧
      BytStep wr zs n m d wr' zs' ∧ PS w0 wx p r b wr' zs' ∧ wl.grownBy wx (some r) := by
  obtain ⟨off, len, cap, h1, h2, h3, h4, h5⟩ := h.rd; have hbl := Nat.lt_of_lt_of_le h.hb h.grown.size; have hpp := h.hp; have hrr := h.hr; have hbb := h.hb; refine (rbytes_any r b off len cap n wr zs wl h1 h2 hbl (by omega) h3 h4 h5).mono ?_; rintro e wx ⟨o, m, cp, d, wr', zs', rfl, hO, ho, hg, ⟨off', len', cap', r1, r2, r3, r4, r5, r6, r7⟩, f1, f2, f3⟩; exact ⟨o, m, cp, d, wr', zs', rfl, hO, ho, hg, f3, ⟨r7, f1, by rw [h2.1]; exact f2⟩, ⟨grownBy_new h.grown r6 (by omega), ⟨off', len', cap', r1, r2, r4, r5, by omega⟩, (r6.block p h.plt (by simp only [ne_eq, Option.some.injEq]; omega)).trans h.pv, h.hb, h.hp, h.hr⟩, r6⟩
end Go.Proofs.YtdajcpcajdhplaaDoor
