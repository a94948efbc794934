/-
  SvValid
-/
import Derived.Test.YtdajcpcajdhplaaDoorSvc3
import Derived.Test.YtdajcpcajdhplaaDoorSvc1
import Derived.Deep.CutRange
import Derived.Deep.RegionWith
/-
  A service without kept items, held against the bounds: the program's valid and the model's.
-/
namespace Go.Proofs.YtdajcpcajdhplaaDoor
open Go.RowKit

set_option maxHeartbeats 400000 in
theorem sesItem_any (c q i : Int) (oa : Option Addr) (n cp : Nat) (w : World) :
    Calls Tryd.prog 55 #[.agg #[.int .i64 c, .int .i64 q, .int .i64 i, .slice oa n cp]] w fun e w' => e = .returned (.agg #[.int .i64 c, .int .i64 q, .slice oa n cp]) ∧ w.grownBy w' none := by
  go_enter Tryd.func55, Tryd.ntmps55
  go_wp2; refine bodyPost_ret (v := .agg #[.int .i64 c, .int .i64 q, .slice oa n cp]) (by simp [results, Tryd.results55, go_sem]) rfl ⟨rfl, ?_⟩
  repeat (first | exact grownBy_refl _ _ | apply grownBy_alloc)
set_option maxHeartbeats 400000 in
theorem count_any (b : Nat) (v : Value) (w : World) (hb : b ≤ 1000000000000) :
    Calls Tryd.prog 38 #[.agg #[.int .i64 (b : Int), .slice none 0 0, v]] w fun e w' => e = .returned (.int .i64 (b : Int)) ∧ w.grownBy w' none := by
  go_enter Tryd.func38, Tryd.ntmps38
  go_wp2; go_ret; refine ⟨rfl, ?_⟩
  repeat (first | exact grownBy_refl _ _ | apply grownBy_alloc)
/-- the first k are as they should be -/
def okTo (b : Nat) (L : List Se) (k : Nat) : Prop := (∀ x ∈ (L.take k).map Se.tell, okS x ∧ x.i < b) ∧ rises 0 ((L.take k).map Se.tell)
/-- the client of the last of the first k -/
def lastC (L : List Se) (k : Nat) : Nat := (((L.take k).map Se.tell).getLast?.map Sn.c).getD 0
theorem okTo_succ (b : Nat) (L : List Se) (k : Nat) (x : Se) (hx : L[k]? = some x) : okTo b L (k + 1) ↔ okTo b L k ∧ (okS x.tell ∧ x.i < b) ∧ lastC L k < x.c := by
  have hk : k < L.length := (List.getElem?_eq_some_iff.1 hx).1
  have e : L.take (k + 1) = L.take k ++ [x] := by
    rw [List.getElem?_eq_getElem hk] at hx; rw [List.take_succ_eq_append_getElem hk, Option.some.inj hx]
  unfold okTo lastC
  rw [e, List.map_append, List.map_cons, List.map_nil, rises_snoc]
  constructor
  · rintro ⟨h1, h2, h3⟩; refine ⟨⟨fun y hy => h1 y (by simp only [List.mem_append]; exact .inl hy), h2⟩, h1 x.tell (by simp), h3⟩
  · rintro ⟨⟨h1, h2⟩, h3, h4⟩; refine ⟨fun y hy => ?_, h2, h4⟩
    rcases List.mem_append.1 hy with h | h
    · exact h1 y h
    · obtain rfl : y = x.tell := by simpa using h
      exact h3
theorem lastC_succ (L : List Se) (k : Nat) (x : Se) (hx : L[k]? = some x) : lastC L (k + 1) = x.c := by
  have hk : k < L.length := (List.getElem?_eq_some_iff.1 hx).1
  have e : L.take (k + 1) = L.take k ++ [x] := by
    rw [List.getElem?_eq_getElem hk] at hx; rw [List.take_succ_eq_append_getElem hk, Option.some.inj hx]
  unfold lastC
  rw [e]
  simp [Se.tell]
theorem rises_pre (a c : List Sn) : ∀ b, rises b (a ++ c) → rises b a := by
  induction a with
  | nil => intro b _; trivial
  | cons x a ih => intro b h; exact ⟨h.1, ih x.c h.2⟩
theorem okTo_of (b : Nat) (L : List Se) (h : ValidS b (L.map Se.tell)) (k : Nat) : okTo b L k := by
  obtain ⟨_, h2, h3⟩ := h
  have e : L.map Se.tell = (L.take k).map Se.tell ++ (L.drop k).map Se.tell := by rw [← List.map_append, List.take_append_drop]
  rw [e] at h2 h3; exact ⟨fun x hx => h2 x (by simp only [List.mem_append]; exact .inl hx), rises_pre _ _ _ h3⟩
theorem valid_of (b : Nat) (L : List Se) (hb : b ≤ 1000000) (h : okTo b L L.length) : ValidS b (L.map Se.tell) := by
  unfold okTo at h
  rw [List.take_length] at h; exact ⟨hb, h.1, h.2⟩
theorem item_ok (x : Se) : itemOk (x.c : Int) (x.q : Int) x.d.length ↔ okS x.tell := by
  unfold itemOk okS Se.tell
  simp only
  omega
/-- the service in its box and the session in its variable, where more has come -/
def BoxX (w : World) (p x b : Nat) (v : Value) (y : Se) : Prop := w.cell? ⟨p, 0, none⟩ = some (.int .i64 (b : Int)) ∧ w.cell? ⟨p, 1, none⟩ = some (.slice none 0 0) ∧ w.cell? ⟨p, 2, none⟩ = some v ∧
  w.cell? ⟨x, 0, none⟩ = some (.int .i64 (y.c : Int)) ∧ w.cell? ⟨x, 1, none⟩ = some (.int .i64 (y.q : Int)) ∧ w.cell? ⟨x, 2, none⟩ = some (.int .i64 (y.i : Int)) ∧ w.cell? ⟨x, 3, none⟩ = some (.slice (oad y.o) y.d.length y.cp)
theorem BoxX.grown {w w' : World} {p x b : Nat} {v : Value} {y : Se} (h : BoxX w p x b v y) (hg : w.grownBy w' none) (hp : p < w.heap.size) (hx : x < w.heap.size) : BoxX w' p x b v y := by
  obtain ⟨hc, -⟩ := bcell hg; obtain ⟨h1, h2, h3, h4, h5, h6, h7⟩ := h; exact ⟨(hc _ _ hp).trans h1, (hc _ _ hp).trans h2, (hc _ _ hp).trans h3, (hc _ _ hx).trans h4, (hc _ _ hx).trans h5, (hc _ _ hx).trans h6, (hc _ _ hx).trans h7⟩
set_option maxRecDepth 4000 in
set_option maxHeartbeats 4000000 in
theorem svalid_any (b : Nat) (oa : Option Addr) (cap : Nat) (L : List Se) (w : World) (hs : SesSl w oa L) (hL : L.length ≤ 1073741824) (hn : ∀ x ∈ L, x.c ≤ 4611686018427387904 ∧ x.q ≤ 4611686018427387904 ∧ x.i ≤ 4611686018427387904 ∧ x.d.length ≤ 1073741824) (hb : b ≤ 4611686018427387904) :
    Calls Tryd.prog 33 #[.agg #[.int .i64 (b : Int), .slice none 0 0, .slice oa L.length cap]] w fun e w' => ∃ r : Bool, e = .returned (.bool r) ∧ (r = true ↔ ValidS b (L.map Se.tell)) ∧ w.grownBy w' none := by
  have HS : Hid (SesSl w oa L ∧ ∀ x ∈ L, x.c ≤ 4611686018427387904 ∧ x.q ≤ 4611686018427387904 ∧ x.i ≤ 4611686018427387904 ∧ x.d.length ≤ 1073741824) := ⟨hs, hn⟩; clear hs hn
  by_cases hbig : 1000000 < b
  · have hb1 : (1000000 : Int) < (b : Int) := by omega
    go_enter Tryd.func33, Tryd.ntmps33
    go_wp2; go_ret; refine ⟨false, rfl, ⟨fun h => (by cases h), fun h => absurd h.1 (by omega)⟩, ?_⟩
    repeat (first | exact grownBy_refl _ _ | apply grownBy_alloc)
  have hb1 : (b : Int) ≤ 1000000 := by omega
  go_enter Tryd.func33, Tryd.ntmps33
  go_wp2
  go_loop [25] (fun i => i = .int .i64 0) (fun _ => 0)
  case atStart => rfl
  case round =>
    obtain rfl := hrel; go_wp2
    go_loopw [5, 36] (fun bf i wl => ∃ k : Nat, k ≤ L.length ∧ i = .int .i64 (k : Int) ∧ bf = .int .i64 (lastC L k : Int) ∧ okTo b L k ∧ (w.alloc (.cells #[.int .i64 (b : Int), .slice none 0 0, .slice oa L.length cap] 28)).grownBy wl none) (fun _ i _ => L.length - (intOf i).toNat)
    case atStart => exact ⟨0, Nat.zero_le _, rfl, rfl, ⟨by simp, by simp [rises]⟩, grownBy_refl _ _⟩
    case round =>
      obtain ⟨k, hk, rfl, rfl, hok, hG⟩ := hrel
      have hp : w.heap.size < wr.heap.size := by have := hG.size; simp at this; omega
      obtain ⟨hc, -⟩ := bcell hG; have s0 : wr.cell? ⟨w.heap.size, 0, none⟩ = some (.int .i64 (b : Int)) := (hc _ _ (by simp)).trans (by simp); have s1 : wr.cell? ⟨w.heap.size, 1, none⟩ = some (.slice none 0 0) := (hc _ _ (by simp)).trans (by simp); have s2 : wr.cell? ⟨w.heap.size, 2, none⟩ = some (.slice oa L.length cap) := (hc _ _ (by simp)).trans (by simp); have HG : Hid (w.grownBy wr none ∧ (w.alloc (.cells #[.int .i64 (b : Int), .slice none 0 0, .slice oa L.length cap] 28)).grownBy wr none ∧ okTo b L k) := ⟨grownBy_trans (World.grownBy_alloc _ _ _) hG, hG, hok⟩; clear hG hc hok
      by_cases hlt : k < L.length
      · obtain ⟨x, hx⟩ : ∃ x, L[k]? = some x := ⟨L[k], List.getElem?_eq_getElem hlt⟩; obtain ⟨g, rfl, x0, x1, x2, x3, x4, x5⟩ := (HS.out.1.grown HG.out.1) k x hx; obtain ⟨n1, n2, n3, n4⟩ := HS.out.2 x (List.mem_of_getElem? hx); have HX : Hid (L[k]? = some x ∧ (okTo b L (k + 1) ↔ okTo b L k ∧ (okS x.tell ∧ x.i < b) ∧ lastC L k < x.c) ∧ lastC L (k + 1) = x.c) := ⟨hx, okTo_succ b L k x hx, lastC_succ L k x hx⟩; generalize lastC L k = lc at *; clear hx x4
        have HB0 : Hid (BoxX (wr.alloc (.cells #[.int .i64 (x.c : Int), .int .i64 (x.q : Int), .int .i64 (x.i : Int), .slice (oad x.o) x.d.length x.cp] 74)) w.heap.size wr.heap.size b (.slice (some ⟨g, 0, none⟩) L.length cap) x) := by
          obtain ⟨hc, -⟩ := bcell (World.grownBy_alloc wr (.cells #[.int .i64 (x.c : Int), .int .i64 (x.q : Int), .int .i64 (x.i : Int), .slice (oad x.o) x.d.length x.cp] 74) none); exact ⟨(hc _ _ hp).trans s0, (hc _ _ hp).trans s1, (hc _ _ hp).trans s2, by simp, by simp, by simp, by simp⟩
        have HI : Hid (∀ w', (wr.alloc (.cells #[.int .i64 (x.c : Int), .int .i64 (x.q : Int), .int .i64 (x.i : Int), .slice (oad x.o) x.d.length x.cp] 74)).grownBy w' none → Calls Tryd.prog 55 #[.agg #[.int .i64 (x.c : Int), .int .i64 (x.q : Int), .int .i64 (x.i : Int), .slice (oad x.o) x.d.length x.cp]] w' fun e w'' => e = .returned (.agg #[.int .i64 (x.c : Int), .int .i64 (x.q : Int), .slice (oad x.o) x.d.length x.cp]) ∧ BoxX w'' w.heap.size wr.heap.size b (.slice (some ⟨g, 0, none⟩) L.length cap) x ∧ Hid ((wr.alloc (.cells #[.int .i64 (x.c : Int), .int .i64 (x.q : Int), .int .i64 (x.i : Int), .slice (oad x.o) x.d.length x.cp] 74)).grownBy w'' none)) := by
          intro w' hw'; refine (sesItem_any _ _ _ _ _ _ w').mono ?_; rintro e w'' ⟨rfl, hG⟩; exact ⟨rfl, HB0.out.grown (grownBy_trans hw' hG) (by simp; omega) (by simp), grownBy_trans hw' hG⟩
        have HV0 : ∀ w', (wr.alloc (.cells #[.int .i64 (x.c : Int), .int .i64 (x.q : Int), .int .i64 (x.i : Int), .slice (oad x.o) x.d.length x.cp] 74)).grownBy w' none → Calls Tryd.prog 28 #[.agg #[.int .i64 (x.c : Int), .int .i64 (x.q : Int), .slice (oad x.o) x.d.length x.cp]] w' fun e w'' => e = .returned (.bool (decide (itemOk (x.c : Int) (x.q : Int) x.d.length))) ∧ BoxX w'' w.heap.size wr.heap.size b (.slice (some ⟨g, 0, none⟩) L.length cap) x ∧ Hid ((wr.alloc (.cells #[.int .i64 (x.c : Int), .int .i64 (x.q : Int), .int .i64 (x.i : Int), .slice (oad x.o) x.d.length x.cp] 74)).grownBy w'' none) := by
          intro w' hw'; refine (valid_any _ _ _ _ _ w' (by unfold maxLen; omega)).mono ?_; rintro e w'' ⟨rfl, hG⟩; exact ⟨rfl, HB0.out.grown (grownBy_trans hw' hG) (by simp; omega) (by simp), grownBy_trans hw' hG⟩
        have HC : Hid (∀ w', (wr.alloc (.cells #[.int .i64 (x.c : Int), .int .i64 (x.q : Int), .int .i64 (x.i : Int), .slice (oad x.o) x.d.length x.cp] 74)).grownBy w' none → Calls Tryd.prog 38 #[.agg #[.int .i64 (b : Int), .slice none 0 0, .slice (some ⟨g, 0, none⟩) L.length cap]] w' fun e w'' => e = .returned (.int .i64 (b : Int)) ∧ BoxX w'' w.heap.size wr.heap.size b (.slice (some ⟨g, 0, none⟩) L.length cap) x ∧ Hid ((wr.alloc (.cells #[.int .i64 (x.c : Int), .int .i64 (x.q : Int), .int .i64 (x.i : Int), .slice (oad x.o) x.d.length x.cp] 74)).grownBy w'' none)) := by
          intro w' hw'; refine (count_any b _ w' (by omega)).mono ?_; rintro e w'' ⟨rfl, hG⟩; exact ⟨rfl, HB0.out.grown (grownBy_trans hw' hG) (by simp; omega) (by simp), grownBy_trans hw' hG⟩
        have hkL : (k : Int) < (L.length : Int) := by omega
        go_upto_region 13 with fail
        have z0 : (wr.alloc (.cells #[.int .i64 (x.c : Int), .int .i64 (x.q : Int), .int .i64 (x.i : Int), .slice (oad x.o) x.d.length x.cp] 74)).cell? ⟨wr.heap.size, 0, none⟩ = some (.int .i64 (x.c : Int)) := HB0.out.2.2.2.1
        go_cut [61] from 37 to 64 (fun v wx => ∃ bad : Bool, v = .bool bad ∧ (bad = false ↔ (okS x.tell ∧ x.i < b) ∧ lc < x.c) ∧ (wr.alloc (.cells #[.int .i64 (x.c : Int), .int .i64 (x.q : Int), .int .i64 (x.i : Int), .slice (oad x.o) x.d.length x.cp] 74)).grownBy wx none)
        case first =>
          by_cases h1 : okS x.tell
          · have HV : Hid _ := HV0; rw [decide_eq_true ((item_ok x).2 h1)] at HV; clear HV0
            by_cases h2 : lc < x.c
            · by_cases h3 : x.i < b
              · have j2 : decide (x.c ≤ lc) = false := by simp; omega
                have j2' : decide ((x.c : Int) ≤ (lc : Int)) = false := by simp; omega
                have j3 : decide (b ≤ x.i) = false := by simp; omega
                have j3' : decide ((b : Int) ≤ (x.i : Int)) = false := by simp; omega
                have j4 : decide ((x.i : Int) < 0) = false := by simp
                first | go_region_with (first | (go_at_call 55; refine (HI.out _ (by repeat (first | exact grownBy_refl _ _ | apply grownBy_drew | apply grownBy_alloc))).mono ?_; rintro e w5 ⟨rfl, ⟨y0, y1, y2, y3, y4, y5, y6⟩, HG5⟩) | (go_at_call 28; refine (HV.out _ HG5.out).mono ?_; rintro e w6 ⟨rfl, ⟨u0, u1, u2, u3, u4, u5, u6⟩, HG6⟩) | (go_at_call 38; refine (HC.out _ HG6.out).mono ?_; rintro e w7 ⟨rfl, ⟨v0, v1, v2, v3, v4, v5, v6⟩, HG7⟩) | fail) | fail
                all_goals
                  go_wp2_with fail; go_meet
                  case rel => exact ⟨false, by simp, ⟨fun _ => ⟨⟨h1, h3⟩, h2⟩, fun _ => rfl⟩, HG7.out⟩
              · have j2 : decide (x.c ≤ lc) = false := by simp; omega
                have j2' : decide ((x.c : Int) ≤ (lc : Int)) = false := by simp; omega
                have j3 : decide (b ≤ x.i) = true := by simp; omega
                have j3' : decide ((b : Int) ≤ (x.i : Int)) = true := by simp; omega
                have j4 : decide ((x.i : Int) < 0) = false := by simp
                first | go_region_with (first | (go_at_call 55; refine (HI.out _ (by repeat (first | exact grownBy_refl _ _ | apply grownBy_drew | apply grownBy_alloc))).mono ?_; rintro e w5 ⟨rfl, ⟨y0, y1, y2, y3, y4, y5, y6⟩, HG5⟩) | (go_at_call 28; refine (HV.out _ HG5.out).mono ?_; rintro e w6 ⟨rfl, ⟨u0, u1, u2, u3, u4, u5, u6⟩, HG6⟩) | (go_at_call 38; refine (HC.out _ HG6.out).mono ?_; rintro e w7 ⟨rfl, ⟨v0, v1, v2, v3, v4, v5, v6⟩, HG7⟩) | fail) | fail
                all_goals
                  go_wp2_with fail; go_meet
                  case rel => exact ⟨true, by simp, ⟨fun h => (by cases h), fun h => absurd h.1.2 h3⟩, HG7.out⟩
            · have j2 : decide (x.c ≤ lc) = true := by simp; omega
              have j2' : decide ((x.c : Int) ≤ (lc : Int)) = true := by simp; omega
              first | go_region_with (first | (go_at_call 55; refine (HI.out _ (by repeat (first | exact grownBy_refl _ _ | apply grownBy_drew | apply grownBy_alloc))).mono ?_; rintro e w5 ⟨rfl, ⟨y0, y1, y2, y3, y4, y5, y6⟩, HG5⟩) | (go_at_call 28; refine (HV.out _ HG5.out).mono ?_; rintro e w6 ⟨rfl, ⟨u0, u1, u2, u3, u4, u5, u6⟩, HG6⟩) | (go_at_call 38; refine (HC.out _ HG6.out).mono ?_; rintro e w7 ⟨rfl, ⟨v0, v1, v2, v3, v4, v5, v6⟩, HG7⟩) | fail) | fail
              all_goals
                go_wp2_with fail; go_meet
                case rel => exact ⟨true, by simp, ⟨fun h => (by cases h), fun h => absurd h.2 h2⟩, HG6.out⟩
          · have HV : Hid _ := HV0; rw [decide_eq_false (fun h => h1 ((item_ok x).1 h))] at HV; clear HV0
            first | go_region_with (first | (go_at_call 55; refine (HI.out _ (by repeat (first | exact grownBy_refl _ _ | apply grownBy_drew | apply grownBy_alloc))).mono ?_; rintro e w5 ⟨rfl, ⟨y0, y1, y2, y3, y4, y5, y6⟩, HG5⟩) | (go_at_call 28; refine (HV.out _ HG5.out).mono ?_; rintro e w6 ⟨rfl, ⟨u0, u1, u2, u3, u4, u5, u6⟩, HG6⟩) | (go_at_call 38; refine (HC.out _ HG6.out).mono ?_; rintro e w7 ⟨rfl, ⟨v0, v1, v2, v3, v4, v5, v6⟩, HG7⟩) | fail) | fail
            all_goals
              go_wp2_with fail; go_meet
              case rel => exact ⟨true, by simp, ⟨fun h => (by cases h), fun h => absurd h.1.1 h1⟩, HG6.out⟩
        case rest =>
          obtain ⟨bad, rfl, hbad, hGc⟩ := hcut; have HB1 : Hid (BoxX wc w.heap.size wr.heap.size b (.slice (some ⟨g, 0, none⟩) L.length cap) x ∧ (w.alloc (.cells #[.int .i64 (b : Int), .slice none 0 0, .slice (some ⟨g, 0, none⟩) L.length cap] 28)).grownBy wc none ∧ w.grownBy wc none) := ⟨HB0.out.grown hGc (by simp; omega) (by simp), grownBy_trans (grownBy_alloc HG.out.2.1 _) hGc, grownBy_trans (grownBy_alloc HG.out.1 _) hGc⟩; have t0 := HB1.out.1.2.2.2.1; have HBAD : Hid (bad = false ↔ (okS x.tell ∧ x.i < b) ∧ lc < x.c) := hbad; clear hbad hGc HB0 HI HV0 HC x0 x1 x2 x3 s0 s1 s2 z0
          cases bad
          · go_wp2; go_roundw
            case rel => exact ⟨k + 1, by omega, by go_num, by rw [HX.out.2.2], HX.out.2.1.2 ⟨HG.out.2.2, HBAD.out.1 rfl⟩, HB1.out.2.1⟩
            case measure => simp [intOf]; omega
          · go_wp2; go_ret; refine ⟨false, rfl, ⟨fun h => (by cases h), fun h => ?_⟩, HB1.out.2.2⟩; have h9 := HX.out.2.1.1 (okTo_of b L h (k + 1)); have h8 := HBAD.out.2 h9.2
            cases h8
      · obtain rfl : k = L.length := by omega
        go_wp2; go_ret; exact ⟨true, rfl, ⟨fun _ => valid_of b L (by omega) HG.out.2.2, fun _ => rfl⟩, HG.out.1⟩
end Go.Proofs.YtdajcpcajdhplaaDoor
