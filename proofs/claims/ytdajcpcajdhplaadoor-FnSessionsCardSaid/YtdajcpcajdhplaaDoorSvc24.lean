/-
  FnSessionsWalk
-/
import Derived.Test.YtdajcpcajdhplaaDoorSvc23
import Derived.Test.YtdajcpcajdhplaaDoorSvc4
import Derived.Test.YtdajcpcajdhplaaDoorSvc17
/-
  FnSessions: the law's walk.
-/
namespace Go.Proofs.YtdajcpcajdhplaaDoor.fnSessions
open Go.RowKit

/-- the drawn item, in its own memory -/
structure IT (wl : World) (ix gx n cx c q : Nat) (xs : List Nat) : Prop where
  it : wl.heap[ix]? = some (.cells #[.int .i64 (c : Int), .int .i64 (q : Int), .slice (some ⟨gx, 0, none⟩) n cx] 32 (0, 0))
  ox : Own wl 5 gx xs
  ok : itemOk (c : Int) (q : Int) n
  xl : xs.length = n
theorem IT.more {wl wx : World} {ix gx n cx c q : Nat} {xs : List Nat} (h : IT wl ix gx n cx c q xs) (hg : wl.grownBy wx none) : IT wx ix gx n cx c q xs :=
  ⟨(hg.block _ (Array.getElem?_eq_some_iff.1 h.it).1 (by simp)).trans h.it, h.ox.grown hg (by simp), h.ok, h.xl⟩
theorem IT.cells {wl : World} {ix gx n cx c q : Nat} {xs : List Nat} (h : IT wl ix gx n cx c q xs) : wl.cell? ⟨ix, 0, none⟩ = some (.int .i64 (c : Int)) ∧ wl.cell? ⟨ix, 1, none⟩ = some (.int .i64 (q : Int)) ∧ wl.cell? ⟨ix, 2, none⟩ = some (.slice (some ⟨gx, 0, none⟩) n cx) := by
  have := h.it
  simp [World.cell?, this]
set_option maxRecDepth 100000 in
set_option maxHeartbeats 12000000 in
theorem walk (oa : Option Addr) (len cap : Nat) (zs : List Nat) (ad : Nat → Addr) (w : World) (hE : ErrsAt w ad) (hsl : SlB w oa len zs) (hmx : len ≤ maxLen) :
    Calls Tryd.prog 3 #[.slice oa len cap] w fun e w' => e = .returned (.bool true) ∧ w.grownBy w' none := by
  unfold maxLen at hmx
  by_cases hbig : 1048576 < len
  · clear hsl hE
    go_enter Tryd.func3, Tryd.ntmps3
    go_wp2; go_ret; exact ⟨rfl, grownBy_refl _ _⟩
  have HS : Hid (SlB w oa len zs ∧ ErrsAt w ad) := ⟨hsl, hE⟩
  have hlen : len ≤ 1048576 := by omega
  clear hsl hE
  go_enter Tryd.func3, Tryd.ntmps3
  go_wp2_with fail; refine (l1Draw_any oa len cap zs _ HS.out.1 (by omega)).mono ?_; rintro e w1 ⟨g, rfl, hg1, hS1, hG1⟩; obtain ⟨bv, hbv⟩ : ∃ bv, w1.heap.size = bv := ⟨_, rfl⟩; obtain ⟨W2, hW2⟩ : ∃ W2, W2 = (w1.alloc (.cells #[.int .i64 0, .slice none 0 0, .slice none 0 0] 28)).alloc (.cells #[] 32) := ⟨_, rfl⟩
  have HM : Hid (SM w W2 zs g bv zeroSv (.slice (some ⟨bv + 1, 0, none⟩) 0 0) []) := by
    have G2 : w1.grownBy W2 none := by rw [hW2]; exact grownBy_alloc (World.grownBy_alloc _ _ _) _
    have hlt := hS1.lt; refine ⟨grownBy_trans hG1 G2, hS1.grown0 G2, hg1, by omega, ?_, .inr rfl, ?_, by simp, fun k _ => zero_noB k⟩
    · rw [hW2, ← hbv]; exact (Below.heap_alloc _ _ _ (by simp)).trans (heap_alloc_new w1 _)
    · refine ⟨rfl, .inr ⟨bv + 1, 0, #[], rfl, Nat.le_refl _, ?_, Nat.le_refl _, Nat.zero_le _, rfl, rfl⟩⟩; rw [hW2, ← hbv]; exact heap_two w1 _ _
  have HW2 : Hid (W2 = (w1.alloc (.cells #[.int .i64 0, .slice none 0 0, .slice none 0 0] 28)).alloc (.cells #[] 32)) := hW2; clear hg1 hS1 hG1 hW2
  go_upto_region 6 with fail
  rw [← HW2.out]; clear HW2 hbv; clear w1; go_wp2_with fail; refine (l1Size_any oa len cap 47 _ (by omega) (by omega)).mono ?_; rintro e w3 ⟨r, rfl, hr, hw3⟩; subst hw3; go_wp2_with fail; refine (drawN_any g (r : Int) zs w3 HM.out.src (by omega) (by omega)).mono ?_; rintro e w4 ⟨r4, rfl, hr0, hr1, hS4, hG4⟩
  have hr4 : r4 ≤ 47 := by
    by_cases h1 : (r : Int) ≤ 1
    · have := hr0 h1; omega
    · have := hr1 (by omega); omega
  have HM4 : Hid (SM w w4 zs g bv zeroSv (.slice (some ⟨bv + 1, 0, none⟩) 0 0) []) := HM.out.drawn hG4 hS4; clear hr0 hr1 hS4 hG4 HM; go_wp2
  go_loopw [5, 6] (fun vg ki wr => ∃ (k : Nat) (v : Sv) (G : List El), ki = .int .i64 (k : Int) ∧ G.length + k ≤ 50 ∧ SM w wr zs g bv v vg G ∧ SK v G) (fun _ ki _ => (intOf ki).toNat)
  case atStart => exact ⟨3 + r4, zeroSv, [], by go_num, by simp; omega, HM4.out, SK.start⟩
  case round =>
    clear HM4 hr4 hr; obtain ⟨k, v, G, rfl, hk50, hM, hK⟩ := hrel; have HM : Hid (SM w wr zs g bv v u5 G ∧ SK v G) := ⟨hM, hK⟩; clear hM hK
    by_cases hk0 : k = 0
    · subst hk0; go_wp2; go_ret; exact ⟨rfl, HM.out.1.gr⟩
    have hkI : (0 : Int) < (k : Int) := by omega
    go_wp2_with fail; refine (drawItem_any g zs wr HM.out.1.src).mono ?_; rintro e w1 ⟨c, q, n, gx, cx, xs, rfl, hok, hxl, hgx, hOx, hS1, hG1⟩; have GA := World.grownBy_alloc w1 (.cells #[.int .i64 (c : Int), .int .i64 (q : Int), .slice (some ⟨gx, 0, none⟩) n cx] 32) none; have HM1 : Hid (SM w (w1.alloc (.cells #[.int .i64 (c : Int), .int .i64 (q : Int), .slice (some ⟨gx, 0, none⟩) n cx] 32)) zs g bv v u5 G ∧ SK v G ∧ IT (w1.alloc (.cells #[.int .i64 (c : Int), .int .i64 (q : Int), .slice (some ⟨gx, 0, none⟩) n cx] 32)) w1.heap.size gx n cx c q xs) := ⟨(HM.out.1.drawn hG1 hS1).more GA, HM.out.2, heap_alloc_new w1 _, hOx.grown GA (by simp), hok, hxl⟩; have hn64 : n ≤ 64 := hok.2.2.2.2; clear hok hxl hgx hOx hS1 hG1 GA HM
    go_upto_region 10 with fail
    generalize w1.alloc (.cells #[.int .i64 (c : Int), .int .i64 (q : Int), .slice (some ⟨gx, 0, none⟩) n cx] 32) = W1 at *; generalize w1.heap.size = ix at *; clear w1
    go_cut [8, 9] (fun b8 e9 wx => ∃ gb cb, b8 = .slice (some ⟨gb, 0, none⟩) (8 + n) cb ∧ e9 = .int .i64 0 ∧ SM w wx zs g bv v u5 G ∧ IT wx ix gx n cx c q xs ∧ Own wx 5 gb (itemB c q xs))
    case first =>
      as_aux_lemma =>
        obtain ⟨a0, a1, a2⟩ := HM1.out.2.2.cells
        have HCP : Hid (∀ Y : World, Same W1 Y → Calls Tryd.prog 10 #[.slice (some ⟨gx, 0, none⟩) n cx] Y fun e w2 => ∃ g2 c2, e = .returned (.slice (some ⟨g2, 0, none⟩) n c2) ∧ (w2.cell? ⟨ix, 0, none⟩ = some (.int .i64 (c : Int)) ∧ w2.cell? ⟨ix, 1, none⟩ = some (.int .i64 (q : Int)) ∧ w2.cell? ⟨ix, 2, none⟩ = some (.slice (some ⟨gx, 0, none⟩) n cx)) ∧ Hid (∀ Z : World, Same w2 Z → Calls Tryd.prog 9 #[.agg #[.int .i64 (c : Int), .int .i64 (q : Int), .slice (some ⟨g2, 0, none⟩) n c2]] Z fun e w3 => ∃ gb cb, e = .returned (.tuple #[.slice (some ⟨gb, 0, none⟩) (8 + n) cb, .int .i64 0]) ∧ (w3.cell? ⟨ix, 0, none⟩ = some (.int .i64 (c : Int)) ∧ w3.cell? ⟨ix, 1, none⟩ = some (.int .i64 (q : Int)) ∧ w3.cell? ⟨ix, 2, none⟩ = some (.slice (some ⟨gx, 0, none⟩) n cx)) ∧ Hid (W1.grownBy w3 none ∧ Own w3 5 gb (itemB c q xs)))) := by
          intro Y hY; have hI := HM1.out.2.2; have GY : W1.grownBy Y none := grownBy_same (grownBy_refl _ _) hY; refine (cp_any (some ⟨gx, 0, none⟩) n cx xs Y ((hI.more GY).ox.sl n hI.xl) (by omega)).mono ?_; rintro e w2 ⟨g2, c2, rfl, hO2, hG2⟩; have G2 := grownBy_trans GY hG2; refine ⟨g2, c2, rfl, (hI.more G2).cells, fun Z hZ => ?_⟩; have GZ : w2.grownBy Z none := grownBy_same (grownBy_refl _ _) hZ; have hOw : Own w2 5 g2 xs := own_made hO2 (hI.ox.sl n hI.xl).2.1; refine (implEncodeItem_ok c q (some ⟨g2, 0, none⟩) n c2 xs Z hI.ok ((hOw.grown GZ (by simp)).sl n hI.xl)).mono ?_; rintro e w3 ⟨gb, nb, cb, rfl, rfl, hgb, hOb, hG3⟩; have G3 := grownBy_trans (grownBy_trans G2 GZ) hG3; exact ⟨gb, cb, rfl, (hI.more G3).cells, G3, hOb⟩
        go_region_held3 (fun W => (W.cell? ⟨ix, 0, none⟩ = some (.int .i64 (c : Int)) ∧ W.cell? ⟨ix, 1, none⟩ = some (.int .i64 (q : Int)) ∧ W.cell? ⟨ix, 2, none⟩ = some (.slice (some ⟨gx, 0, none⟩) n cx))) (first | exact ⟨a0, a1, a2⟩ | exact hI2 | exact hI3 | (go_keep; done) | fail)
          (first
            | (go_at_call 10; refine (HCP.out _ (by exact ⟨rfl, rfl, rfl, rfl⟩)).mono ?_; rintro e w2 ⟨g2, c2, rfl, hI2, HEN⟩)
            | (go_at_call 9; refine (HEN.out _ (by exact ⟨rfl, rfl, rfl, rfl⟩)).mono ?_; rintro e w3 ⟨gb, cb, rfl, hI3, HR3⟩)
            | fail)
        all_goals
          go_wp2_with fail; go_meet
          case rel => exact ⟨gb, cb, rfl, rfl, HM1.out.1.more HR3.out.1, HM1.out.2.2.more HR3.out.1, HR3.out.2⟩
    case rest =>
      obtain ⟨gb, cb, rfl, rfl, hM3, hI3, hO3⟩ := hcut; have HM3 : Hid (SM w wc zs g bv v u5 G ∧ SK v G ∧ IT wc ix gx n cx c q xs ∧ Own wc 5 gb (itemB c q xs)) := ⟨hM3, HM1.out.2.1, hI3, hO3⟩; clear hM3 hI3 hO3 HM1
      have HBD : Hid (decGood (itemB c q xs) ∧ decCl (itemB c q xs) = c ∧ decSq (itemB c q xs) = q ∧ (itemB c q xs).drop 8 = xs ∧ (itemB c q xs).length = 8 + n) := by
        have h1 := itemB_dec c q xs (by rw [HM3.out.2.2.1.xl]; exact HM3.out.2.2.1.ok); exact ⟨h1.1, h1.2.1, h1.2.2.1, h1.2.2.2, by rw [itemB_len, HM3.out.2.2.1.xl]⟩
      go_wp2_with fail; refine (cp_any (some ⟨gb, 0, none⟩) (8 + n) cb (itemB c q xs) _ (HM3.out.2.2.2.sl (8 + n) HBD.out.2.2.2.2) (by omega)).mono ?_; rintro e w4 ⟨g4, c4, rfl, hO4, hG4⟩; have HM4 : Hid (SM w w4 zs g bv v u5 G ∧ SK v G ∧ IT w4 ix gx n cx c q xs ∧ Own w4 5 gb (itemB c q xs) ∧ Own w4 5 g4 (itemB c q xs) ∧ 8 + n ≤ c4) := ⟨HM3.out.1.more hG4, HM3.out.2.1, HM3.out.2.2.1.more hG4, HM3.out.2.2.2.grown hG4 (by simp), own_made hO4 (HM3.out.2.2.2.sl (8 + n) HBD.out.2.2.2.2).2.1, (ownsRow_caps hO4).1⟩
      have HDI : Hid (Calls Tryd.prog 11 #[.slice (some ⟨g4, 0, none⟩) (8 + n) c4] w4 fun e w5 => ∃ g5 c5, e = .returned (.tuple #[.agg #[.int .i64 (c : Int), .int .i64 (q : Int), .slice (some ⟨g5, 0, none⟩) n c5], .int .i64 0]) ∧ Hid (Own w5 5 g5 xs ∧ w4.grownBy w5 none)) := by
        refine (decItem_good (some ⟨g4, 0, none⟩) (8 + n) c4 (itemB c q xs) w4 (HM4.out.2.2.2.2.1.sl (8 + n) HBD.out.2.2.2.2) HM4.out.2.2.2.2.2 (by omega) HBD.out.1).mono ?_; rintro e w5 ⟨g5, c5, rfl, -, hO5, hG5⟩; rw [HBD.out.2.1, HBD.out.2.2.1, show 8 + n - 8 = n by omega]; rw [HBD.out.2.2.2.1] at hO5; exact ⟨g5, c5, rfl, hO5, hG5⟩
      clear hO4 hG4 HM3; go_wp2_with fail; refine HDI.out.mono ?_; rintro e w5 ⟨g5, c5, rfl, HR5⟩; have GA := World.grownBy_alloc w5 (.cells #[.int .i64 (c : Int), .int .i64 (q : Int), .slice (some ⟨g5, 0, none⟩) n c5] 32) none; have HM5 : Hid (SM w (w5.alloc (.cells #[.int .i64 (c : Int), .int .i64 (q : Int), .slice (some ⟨g5, 0, none⟩) n c5] 32)) zs g bv v u5 G ∧ SK v G ∧ IT (w5.alloc (.cells #[.int .i64 (c : Int), .int .i64 (q : Int), .slice (some ⟨g5, 0, none⟩) n c5] 32)) ix gx n cx c q xs ∧ Own (w5.alloc (.cells #[.int .i64 (c : Int), .int .i64 (q : Int), .slice (some ⟨g5, 0, none⟩) n c5] 32)) 5 gb (itemB c q xs) ∧ IT (w5.alloc (.cells #[.int .i64 (c : Int), .int .i64 (q : Int), .slice (some ⟨g5, 0, none⟩) n c5] 32)) w5.heap.size g5 n c5 c q xs) := ⟨(HM4.out.1.more HR5.out.2).more GA, HM4.out.2.1, (HM4.out.2.2.1.more HR5.out.2).more GA, (HM4.out.2.2.2.1.grown HR5.out.2 (by simp)).grown GA (by simp), heap_alloc_new w5 _, HR5.out.1.grown GA (by simp), HM4.out.2.2.1.ok, HM4.out.2.2.1.xl⟩; clear GA HR5 HM4 HDI
      go_upto_region 12 with fail
      generalize w5.alloc (.cells #[.int .i64 (c : Int), .int .i64 (q : Int), .slice (some ⟨g5, 0, none⟩) n c5] 32) = W5 at *; generalize w5.heap.size = iy at *; clear w5; obtain ⟨a0, a1, a2⟩ := HM5.out.2.2.1.cells; obtain ⟨b0, b1, b2⟩ := HM5.out.2.2.2.2.cells
      have HSM : Hid (Calls Tryd.prog 12 #[.agg #[.int .i64 (c : Int), .int .i64 (q : Int), .slice (some ⟨g5, 0, none⟩) n c5], .agg #[.int .i64 (c : Int), .int .i64 (q : Int), .slice (some ⟨gx, 0, none⟩) n cx]] W5 fun e w6 => e = .returned (.bool true) ∧ W5.grownBy w6 none) := by
        refine (smItem_any (c : Int) (q : Int) (some ⟨g5, 0, none⟩) n c5 xs (c : Int) (q : Int) (some ⟨gx, 0, none⟩) n cx xs W5 (HM5.out.2.2.2.2.ox.sl n HM5.out.2.2.2.2.xl) (HM5.out.2.2.1.ox.sl n HM5.out.2.2.1.xl)).mono ?_; rintro e w6 ⟨r, rfl, hr, hG⟩; obtain rfl : r = true := hr.2 ⟨rfl, rfl, rfl⟩; exact ⟨rfl, hG⟩
      go_wp2_with fail; refine HSM.out.mono ?_; rintro e w6 ⟨rfl, hG6⟩; have HM6 : Hid (SM w w6 zs g bv v u5 G ∧ SK v G ∧ IT w6 ix gx n cx c q xs ∧ Own w6 5 gb (itemB c q xs)) := ⟨HM5.out.1.more hG6, HM5.out.2.1, HM5.out.2.2.1.more hG6, HM5.out.2.2.2.1.grown hG6 (by simp)⟩; clear hG6 HSM HM5 a0 a1 a2 b0 b1 b2
      obtain ⟨og, cg, hvg⟩ : ∃ og cg, u5 = .slice og G.length cg := by
        rcases HM6.out.1.row.2 with ⟨h0, h1⟩ | ⟨g', cap', cur, h0, _⟩
        · exact ⟨none, 0, by rw [h0, h1]⟩
        · exact ⟨_, _, h0⟩
      subst hvg
      have HGN : Hid (G.length ≤ 50) := by show _ ≤ _; omega
      go_wp2; obtain ⟨x, hx⟩ : ∃ x : El, x = ⟨[(c : Int), (q : Int)], xs, some gx, cx⟩ := ⟨_, rfl⟩; have HEX : Hid (x = ⟨[(c : Int), (q : Int)], xs, some gx, cx⟩ ∧ x.c = (c : Int) ∧ x.q = (q : Int) ∧ x.d = xs) := ⟨hx, by rw [hx]; rfl, by rw [hx]; rfl, by rw [hx]⟩; clear hx
      go_loopw [12, 13, 77] (fun sb pb jb wr => ∃ (j p : Nat) (b : Bool), j ≤ G.length ∧ jb = .int .i64 (j : Int) ∧ sb = .bool b ∧ pb = .int .i64 (p : Int) ∧ w6.grownBy wr none ∧ StaleTo G (c : Int) (q : Int) j b ∧ PlaceTo G x j p) (fun _ _ jb _ => G.length - (intOf jb).toNat)
      case atStart => exact ⟨0, G.length, false, Nat.zero_le _, rfl, rfl, rfl, grownBy_refl _ _, .zero _ _ _, .zero _ _⟩
      case round =>
        obtain ⟨j, p, b, hj, rfl, rfl, rfl, hG7, hst, hpl⟩ := hrel; have HIN : Hid (StaleTo G (c : Int) (q : Int) j b ∧ PlaceTo G x j p) := ⟨hst, hpl⟩; clear hst hpl
        by_cases hlt : j < G.length
        · as_aux_lemma =>
            obtain ⟨y, hy⟩ : ∃ y, G[j]? = some y := ⟨_, List.getElem?_eq_getElem hlt⟩; have hM7 := HM6.out.1.more hG7; obtain ⟨gr, n0, n1, hgr, hhd, c0, c1, c2⟩ := row_get2 hM7.row rfl (fun x hx => (hM7.gd x hx).1) hy; subst hgr
            have hjI : (j : Int) < (G.length : Int) := by omega
            have HY : Hid (G[j]? = some y ∧ y.c = n0 ∧ y.q = n1 ∧ SlB wr (oad y.o) y.d.length y.d) := ⟨hy, by simp [El.c, hhd], by simp [El.q, hhd], (hM7.gd y (List.mem_of_getElem? hy)).2.sl⟩; clear hy hM7 hhd
            go_upto_region 19 with fail
            have GA := World.grownBy_alloc wr (.cells #[.int .i64 n0, .int .i64 n1, .slice (oad y.o) y.d.length y.cp] 32) none; have HX7 : Hid (w6.grownBy (wr.alloc (.cells #[.int .i64 n0, .int .i64 n1, .slice (oad y.o) y.d.length y.cp] 32)) none ∧ SlB (wr.alloc (.cells #[.int .i64 n0, .int .i64 n1, .slice (oad y.o) y.d.length y.cp] 32)) (oad y.o) y.d.length y.d ∧ IT (wr.alloc (.cells #[.int .i64 n0, .int .i64 n1, .slice (oad y.o) y.d.length y.cp] 32)) ix gx n cx c q xs) := ⟨grownBy_trans hG7 GA, HY.out.2.2.2.grown0 GA, (HM6.out.2.2.1.more hG7).more GA⟩; have hjx : (wr.alloc (.cells #[.int .i64 n0, .int .i64 n1, .slice (oad y.o) y.d.length y.cp] 32)).heap[wr.heap.size]? = some (.cells #[.int .i64 n0, .int .i64 n1, .slice (oad y.o) y.d.length y.cp] 32 (0, 0)) := heap_alloc_new _ _; clear GA c0 c1 c2 hG7; generalize wr.alloc (.cells #[.int .i64 n0, .int .i64 n1, .slice (oad y.o) y.d.length y.cp] 32) = X at *; generalize wr.heap.size = jx at *
            have d0 : X.cell? ⟨jx, 0, none⟩ = some (.int .i64 n0) := by simp [World.cell?, hjx]
            have d1 : X.cell? ⟨jx, 1, none⟩ = some (.int .i64 n1) := by simp [World.cell?, hjx]
            have d2 : X.cell? ⟨jx, 2, none⟩ = some (.slice (oad y.o) y.d.length y.cp) := by simp [World.cell?, hjx]
            obtain ⟨i0, i1, i2⟩ := HX7.out.2.2.cells; clear hjx; have HSI : Hid (Calls Tryd.prog 12 #[.agg #[.int .i64 (c : Int), .int .i64 (q : Int), .slice (some ⟨gx, 0, none⟩) n cx], .agg #[.int .i64 n0, .int .i64 n1, .slice (oad y.o) y.d.length y.cp]] X fun e w8 => ∃ r : Bool, e = .returned (.bool r) ∧ (r = true ↔ (c : Int) = n0 ∧ (q : Int) = n1 ∧ xs = y.d) ∧ X.grownBy w8 none) := smItem_any _ _ _ _ _ _ _ _ _ _ _ _ X (HX7.out.2.2.ox.sl n HX7.out.2.2.xl) HX7.out.2.1
            by_cases hcc : n0 = (c : Int)
            · have t0 : (n0 == (c : Int)) = true := by simp [hcc]
              by_cases hqq : (q : Int) ≤ n1
              · have HCC : Hid (n0 = (c : Int) ∧ (q : Int) ≤ n1) := ⟨hcc, hqq⟩; clear hcc; go_wp2_with fail; refine HSI.out.mono ?_; rintro e w8 ⟨r, rfl, hr, hG8⟩; have HR8 : Hid ((r = true ↔ (c : Int) = n0 ∧ (q : Int) = n1 ∧ xs = y.d) ∧ X.grownBy w8 none) := ⟨hr, hG8⟩; clear hr hG8
                cases r with
                | true =>
                  go_wp2; go_roundw
                  case rel => exact ⟨j + 1, j, true, by omega, by go_num, rfl, rfl, grownBy_trans HX7.out.1 HR8.out.2, .yes HY.out.1 (by rw [HY.out.2.1]; exact HCC.out.1) (by rw [HY.out.2.2.1]; exact HCC.out.2), .yes HY.out.1 ⟨by rw [HEX.out.2.1, HY.out.2.1]; exact (HR8.out.1.1 (by simp)).1, by rw [HEX.out.2.2.1, HY.out.2.2.1]; exact (HR8.out.1.1 (by simp)).2.1, by rw [HEX.out.2.2.2]; exact (HR8.out.1.1 (by simp)).2.2⟩⟩
                  case measure => simp [intOf]; omega
                | false =>
                  go_wp2; go_roundw
                  case rel => exact ⟨j + 1, p, true, by omega, by go_num, rfl, rfl, grownBy_trans HX7.out.1 HR8.out.2, .yes HY.out.1 (by rw [HY.out.2.1]; exact HCC.out.1) (by rw [HY.out.2.2.1]; exact HCC.out.2), HIN.out.2.no HY.out.1 (fun hs => by
                    have h1 := hs.1; have h2 := hs.2.1; have h3 := hs.2.2; rw [HEX.out.2.1, HY.out.2.1] at h1; rw [HEX.out.2.2.1, HY.out.2.2.1] at h2; rw [HEX.out.2.2.2] at h3
                    exact absurd (HR8.out.1.2 ⟨h1, h2, h3⟩) (by simp))⟩
                  case measure => simp [intOf]; omega
              · have HCC : Hid (¬ (n0 = (c : Int) ∧ (q : Int) ≤ n1)) := fun h => hqq h.2
                clear hcc; go_wp2_with fail; refine HSI.out.mono ?_; rintro e w8 ⟨r, rfl, hr, hG8⟩; have HR8 : Hid ((r = true ↔ (c : Int) = n0 ∧ (q : Int) = n1 ∧ xs = y.d) ∧ X.grownBy w8 none) := ⟨hr, hG8⟩; clear hr hG8
                cases r with
                | true =>
                  go_wp2; go_roundw
                  case rel => exact ⟨j + 1, j, b, by omega, by go_num, rfl, rfl, grownBy_trans HX7.out.1 HR8.out.2, HIN.out.1.no HY.out.1 (fun h => HCC.out ⟨by rw [← HY.out.2.1]; exact h.1, by rw [← HY.out.2.2.1]; exact h.2⟩), .yes HY.out.1 ⟨by rw [HEX.out.2.1, HY.out.2.1]; exact (HR8.out.1.1 (by simp)).1, by rw [HEX.out.2.2.1, HY.out.2.2.1]; exact (HR8.out.1.1 (by simp)).2.1, by rw [HEX.out.2.2.2]; exact (HR8.out.1.1 (by simp)).2.2⟩⟩
                  case measure => simp [intOf]; omega
                | false =>
                  go_wp2; go_roundw
                  case rel => exact ⟨j + 1, p, b, by omega, by go_num, rfl, rfl, grownBy_trans HX7.out.1 HR8.out.2, HIN.out.1.no HY.out.1 (fun h => HCC.out ⟨by rw [← HY.out.2.1]; exact h.1, by rw [← HY.out.2.2.1]; exact h.2⟩), HIN.out.2.no HY.out.1 (fun hs => by
                    have h1 := hs.1; have h2 := hs.2.1; have h3 := hs.2.2; rw [HEX.out.2.1, HY.out.2.1] at h1; rw [HEX.out.2.2.1, HY.out.2.2.1] at h2; rw [HEX.out.2.2.2] at h3
                    exact absurd (HR8.out.1.2 ⟨h1, h2, h3⟩) (by simp))⟩
                  case measure => simp [intOf]; omega
            · have t0 : (n0 == (c : Int)) = false := by simp [hcc]
              have HCC : Hid (¬ (n0 = (c : Int) ∧ (q : Int) ≤ n1)) := fun h => hcc h.1
              clear hcc; go_wp2_with fail; refine HSI.out.mono ?_; rintro e w8 ⟨r, rfl, hr, hG8⟩; have HR8 : Hid ((r = true ↔ (c : Int) = n0 ∧ (q : Int) = n1 ∧ xs = y.d) ∧ X.grownBy w8 none) := ⟨hr, hG8⟩; clear hr hG8
              cases r with
              | true =>
                go_wp2; go_roundw
                case rel => exact ⟨j + 1, j, b, by omega, by go_num, rfl, rfl, grownBy_trans HX7.out.1 HR8.out.2, HIN.out.1.no HY.out.1 (fun h => HCC.out ⟨by rw [← HY.out.2.1]; exact h.1, by rw [← HY.out.2.2.1]; exact h.2⟩), .yes HY.out.1 ⟨by rw [HEX.out.2.1, HY.out.2.1]; exact (HR8.out.1.1 (by simp)).1, by rw [HEX.out.2.2.1, HY.out.2.2.1]; exact (HR8.out.1.1 (by simp)).2.1, by rw [HEX.out.2.2.2]; exact (HR8.out.1.1 (by simp)).2.2⟩⟩
                case measure => simp [intOf]; omega
              | false =>
                go_wp2; go_roundw
                case rel => exact ⟨j + 1, p, b, by omega, by go_num, rfl, rfl, grownBy_trans HX7.out.1 HR8.out.2, HIN.out.1.no HY.out.1 (fun h => HCC.out ⟨by rw [← HY.out.2.1]; exact h.1, by rw [← HY.out.2.2.1]; exact h.2⟩), HIN.out.2.no HY.out.1 (fun hs => by
                  have h1 := hs.1; have h2 := hs.2.1; have h3 := hs.2.2; rw [HEX.out.2.1, HY.out.2.1] at h1; rw [HEX.out.2.2.1, HY.out.2.2.1] at h2; rw [HEX.out.2.2.2] at h3
                  exact absurd (HR8.out.1.2 ⟨h1, h2, h3⟩) (by simp))⟩
                case measure => simp [intOf]; omega
        · obtain rfl : j = G.length := by omega
          have HM7 : Hid (SM w wr zs g bv v (.slice og G.length cg) G ∧ SK v G ∧ IT wr ix gx n cx c q xs ∧ Own wr 5 gb (itemB c q xs)) := ⟨HM6.out.1.more hG7, HM6.out.2.1, HM6.out.2.2.1.more hG7, HM6.out.2.2.2.grown hG7 (by simp)⟩; clear HM6 hG7; obtain ⟨w7, hw7⟩ : ∃ w7, wr = w7 := ⟨_, rfl⟩; rw [hw7] at HM7 ⊢; clear hw7; go_wp2
          go_loopw [13, 101] (fun pb jb wr => ∃ (j p2 : Nat), j ≤ G.length ∧ jb = .int .i64 (j : Int) ∧ pb = .int .i64 (p2 : Int) ∧ w7.grownBy wr none ∧ OverTo G (c : Int) (q : Int) j p p2) (fun _ jb _ => G.length - (intOf jb).toNat)
          case atStart => exact ⟨0, p, Nat.zero_le _, rfl, rfl, grownBy_refl _ _, .zero _ _ _ _⟩
          case round =>
            obtain ⟨j, p2, hj, rfl, rfl, hG7, hov⟩ := hrel; have HOV : Hid (OverTo G (c : Int) (q : Int) j p p2) := hov; clear hov
            by_cases hlt : j < G.length
            · as_aux_lemma =>
                obtain ⟨y, hy⟩ : ∃ y, G[j]? = some y := ⟨_, List.getElem?_eq_getElem hlt⟩; have hM7 := HM7.out.1.more hG7; obtain ⟨gr, n0, n1, hgr, hhd, c0, c1, c2⟩ := row_get2 hM7.row rfl (fun x hx => (hM7.gd x hx).1) hy; subst hgr
                have hjI : (j : Int) < (G.length : Int) := by omega
                have HY : Hid (G[j]? = some y ∧ y.c = n0 ∧ y.q = n1 ∧ SlB wr (oad y.o) y.d.length y.d) := ⟨hy, by simp [El.c, hhd], by simp [El.q, hhd], (hM7.gd y (List.mem_of_getElem? hy)).2.sl⟩; clear hy hM7 hhd
                go_upto_region 27 with fail
                have GA := World.grownBy_alloc wr (.cells #[.int .i64 n0, .int .i64 n1, .slice (oad y.o) y.d.length y.cp] 32) none; have HX7 : Hid (w7.grownBy (wr.alloc (.cells #[.int .i64 n0, .int .i64 n1, .slice (oad y.o) y.d.length y.cp] 32)) none ∧ SlB (wr.alloc (.cells #[.int .i64 n0, .int .i64 n1, .slice (oad y.o) y.d.length y.cp] 32)) (oad y.o) y.d.length y.d ∧ IT (wr.alloc (.cells #[.int .i64 n0, .int .i64 n1, .slice (oad y.o) y.d.length y.cp] 32)) ix gx n cx c q xs) := ⟨grownBy_trans hG7 GA, HY.out.2.2.2.grown0 GA, (HM7.out.2.2.1.more hG7).more GA⟩; have hjx : (wr.alloc (.cells #[.int .i64 n0, .int .i64 n1, .slice (oad y.o) y.d.length y.cp] 32)).heap[wr.heap.size]? = some (.cells #[.int .i64 n0, .int .i64 n1, .slice (oad y.o) y.d.length y.cp] 32 (0, 0)) := heap_alloc_new _ _; clear GA c0 c1 c2 hG7; generalize wr.alloc (.cells #[.int .i64 n0, .int .i64 n1, .slice (oad y.o) y.d.length y.cp] 32) = X at *; generalize wr.heap.size = jx at *
                have d0 : X.cell? ⟨jx, 0, none⟩ = some (.int .i64 n0) := by simp [World.cell?, hjx]
                have d1 : X.cell? ⟨jx, 1, none⟩ = some (.int .i64 n1) := by simp [World.cell?, hjx]
                have d2 : X.cell? ⟨jx, 2, none⟩ = some (.slice (oad y.o) y.d.length y.cp) := by simp [World.cell?, hjx]
                obtain ⟨i0, i1, i2⟩ := HX7.out.2.2.cells; clear hjx
                by_cases hcc : n0 = (c : Int)
                · have t0 : (n0 == (c : Int)) = true := by simp [hcc]
                  by_cases hqq : (q : Int) < n1
                  · have HCC : Hid (n0 = (c : Int) ∧ (q : Int) < n1) := ⟨hcc, hqq⟩; clear hcc; go_wp2; go_roundw
                    case rel => exact ⟨j + 1, G.length, by omega, by go_num, rfl, HX7.out.1, .yes HY.out.1 (by rw [HY.out.2.1]; exact HCC.out.1) (by rw [HY.out.2.2.1]; exact HCC.out.2)⟩
                    case measure => simp [intOf]; omega
                  · have HCC : Hid (¬ (n0 = (c : Int) ∧ (q : Int) < n1)) := fun h => hqq h.2
                    clear hcc; go_wp2; go_roundw
                    case rel => exact ⟨j + 1, p2, by omega, by go_num, rfl, HX7.out.1, HOV.out.no HY.out.1 (fun h => HCC.out ⟨by rw [← HY.out.2.1]; exact h.1, by rw [← HY.out.2.2.1]; exact h.2⟩)⟩
                    case measure => simp [intOf]; omega
                · have t0 : (n0 == (c : Int)) = false := by simp [hcc]
                  have HCC : Hid (¬ (n0 = (c : Int) ∧ (q : Int) < n1)) := fun h => hcc h.1
                  clear hcc; go_wp2; go_roundw
                  case rel => exact ⟨j + 1, p2, by omega, by go_num, rfl, HX7.out.1, HOV.out.no HY.out.1 (fun h => HCC.out ⟨by rw [← HY.out.2.1]; exact h.1, by rw [← HY.out.2.2.1]; exact h.2⟩)⟩
                  case measure => simp [intOf]; omega
            · obtain rfl : j = G.length := by omega
              have HM8 : Hid (SM w wr zs g bv v (.slice og G.length cg) G ∧ SK v G ∧ IT wr ix gx n cx c q xs ∧ Own wr 5 gb (itemB c q xs)) := ⟨HM7.out.1.more hG7, HM7.out.2.1, HM7.out.2.2.1.more hG7, HM7.out.2.2.2.grown hG7 (by simp)⟩; clear HM7 hG7; obtain ⟨w8, hw8⟩ : ∃ w8, wr = w8 := ⟨_, rfl⟩; rw [hw8] at HM8 ⊢; clear hw8; go_wp2_with fail
              have HBX : Hid (∀ Y : World, w8.grownBy Y none → (Y.cell? ⟨bv, 0, none⟩ = some (.int .i64 v.b) ∧ Y.cell? ⟨bv, 1, none⟩ = some (.slice v.ko v.K.length v.kc) ∧ Y.cell? ⟨bv, 2, none⟩ = some (.slice v.so v.S.length v.sc))) := fun Y hY => by
                obtain ⟨q0, q1, q2, -⟩ := (HM8.out.1.more hY).cells; exact ⟨q0, q1, q2⟩
              go_cut [18, 19, 20] (fun pp aa bb wx => NextAt w8 wx v (itemB c q xs) pp aa bb)
              case first =>
                as_aux_lemma =>
                  have HCP : Hid (∀ Y : World, w8.grownBy Y none → Calls Tryd.prog 10 #[.slice (some ⟨gb, 0, none⟩) (8 + n) cb] Y fun e w2 => ∃ g2 c2, e = .returned (.slice (some ⟨g2, 0, none⟩) (8 + n) c2) ∧ Hid (w8.grownBy w2 none) ∧ Hid (Y.grownBy w2 none ∧ Own w2 5 g2 (itemB c q xs) ∧ 8 + n ≤ c2)) := fun Y hY => by
                    have hOY := HM8.out.2.2.2.grown hY (by simp); refine (cp_any (some ⟨gb, 0, none⟩) (8 + n) cb (itemB c q xs) Y (hOY.sl (8 + n) HBD.out.2.2.2.2) (by omega)).mono ?_; rintro e w2 ⟨g2, c2, rfl, hO2, hG2⟩; exact ⟨g2, c2, rfl, grownBy_trans hY hG2, hG2, own_made hO2 (hOY.sl (8 + n) HBD.out.2.2.2.2).2.1, (ownsRow_caps hO2).1⟩
                  have HAP : Hid (∀ (g2 c2 : Nat) (X : World), w8.grownBy X none → Own X 5 g2 (itemB c q xs) → 8 + n ≤ c2 → Calls Tryd.prog 13 #[.agg #[.int .i64 v.b, .slice v.ko v.K.length v.kc, .slice v.so v.S.length v.sc], .slice (some ⟨g2, 0, none⟩) (8 + n) c2] X fun e w3 => ∃ (r : Sv) (pl cd : Int), e = .returned (.tuple #[.agg #[.int .i64 r.b, .slice r.ko r.K.length r.kc, .slice r.so r.S.length r.sc], .int .i64 pl, .int .i64 cd]) ∧ Hid (w8.grownBy w3 none) ∧ Hid (r.b = 0 ∧ ApSays 0 v.K v.S (itemB c q xs) pl cd (r.K.map El.tell) (r.S.map El.tell) ∧ SvFull w3 r ∧ (∀ k, SvB r k → X.heap.size ≤ k) ∧ X.grownBy w3 none)) := fun g2 c2 X hX hO hc => by
                    refine (ses_apply HM8.out.1 HM8.out.2.1 (HS.out.2.grown HM8.out.1.gr) (itemB c q xs) g2 (8 + n) c2 X hX hO HBD.out.2.2.2.2 hc (by omega)).mono ?_; rintro e w3 ⟨r, pl, cd, rfl, HR⟩; exact ⟨r, pl, cd, rfl, grownBy_trans hX HR.out.2.2.2.2, HR⟩
                  obtain ⟨q0, q1, q2⟩ := HBX.out w8 (grownBy_refl _ _)
                  go_region_held3 (fun W => (W.cell? ⟨bv, 0, none⟩ = some (.int .i64 v.b) ∧ W.cell? ⟨bv, 1, none⟩ = some (.slice v.ko v.K.length v.kc) ∧ W.cell? ⟨bv, 2, none⟩ = some (.slice v.so v.S.length v.sc))) (first | exact HBX.out _ (by repeat (first | exact grownBy_refl _ _ | exact HW3.out | exact HW2.out | apply grownBy_drew | apply grownBy_alloc | (refine grownBy_setNew ?_ (by have := HW2.out.size; simp; try omega)))) | (go_keep; done) | fail)
                    (first
                      | (go_at_call 10; refine (HCP.out _ (by repeat (first | exact grownBy_refl _ _ | apply grownBy_drew | apply grownBy_alloc))).mono ?_; rintro e w2 ⟨g2, c2, rfl, HW2, HR2⟩; have hzk : w2.heap[w8.heap.size]? = some (.cells #[.int .i64 0, .slice none 0 0, .slice none 0 0] 28  (0, 0)) := (by exact (HR2.out.1.block w8.heap.size (by simp) (by simp)).trans (heap_alloc_new w8 _)))
                      | (go_at_call 10; refine (HCP.out _ (by repeat (first | exact grownBy_refl _ _ | apply grownBy_drew | apply grownBy_alloc))).mono ?_; rintro e w2 ⟨g2, c2, rfl, HW2, HR2⟩)
                      | (go_at_call 13; refine (HAP.out g2 c2 _ (by exact HW2.out) (by exact HR2.out.2.1) HR2.out.2.2).mono ?_; rintro e w3 ⟨r, pl, cd, rfl, HW3, HR3⟩; have hkb := (by exact (HR3.out.2.2.2.2.block w8.heap.size (by exact (Array.getElem?_eq_some_iff.1 hzk).1) (by simp)).trans hzk); obtain ⟨⟨k0, k1, k2⟩, k3, k4, k5⟩ := svz3 hkb)
                      | (go_at_call 13; refine (HAP.out g2 c2 (w2.alloc (.cells #[.int .i64 0, .slice none 0 0, .slice none 0 0] 28)) (by exact grownBy_alloc HW2.out _) (by exact HR2.out.2.1.grown (World.grownBy_alloc _ _ none) (by simp)) HR2.out.2.2).mono ?_; rintro e w3 ⟨r, pl, cd, rfl, HW3, HR3⟩; have hkb := (by exact (HR3.out.2.2.2.2.block w2.heap.size (by simp) (by simp)).trans (heap_alloc_new w2 (.cells #[.int .i64 0, .slice none 0 0, .slice none 0 0] 28))); obtain ⟨⟨k0, k1, k2⟩, k3, k4, k5⟩ := svz3 hkb)
                      | (go_at_call 13; refine (HAP.out g2 c2 _ (by exact HW2.out) (by exact HR2.out.2.1) HR2.out.2.2).mono ?_; rintro e w3 ⟨r, pl, cd, rfl, HW3, HR3⟩)
                      | fail)
                  all_goals
                    go_wp2_with fail; go_meet
                    case rel =>
                      first
                        | exact next_alloc HW2.out HR3.out
                        | exact next_set HW2.out HR3.out hkb (by have := HW2.out.size; omega)
                        | exact next_set (grownBy_alloc HW2.out _) HR3.out hkb (by have := HW2.out.size; omega)
              case rest =>
                obtain ⟨bn, r, pl, cd, rfl, rfl, rfl, hrb, hsay, hbn, hrF, hrB, hG9, hbl⟩ := hcut; have HM9 : Hid (SM w wc zs g bv v (.slice og G.length cg) G ∧ SK v G ∧ IT wc ix gx n cx c q xs) := ⟨HM8.out.1.more hG9, HM8.out.2.1, HM8.out.2.2.1.more hG9⟩
                have HR9 : Hid (r.b = 0 ∧ ApSays 0 v.K v.S (itemB c q xs) pl cd (r.K.map El.tell) (r.S.map El.tell) ∧ wc.heap[bn]? = some (svObj r) ∧ SvFull wc r ∧ (∀ k, (Value.slice og G.length cg).ownBlock = some k → ¬ SvB r k) ∧ bv < bn ∧ (∀ k, SvB r k → bv < k) ∧ ∀ k, (Value.slice og G.length cg).ownBlock = some k → k ≠ bn) := by
                  have hlt := HM8.out.1.slt; refine ⟨hrb, hsay, hbn, hrF, fun k hk hkB => ?_, by omega, (fun k hk => by have := hrB k hk; omega), fun k hk => by have := (HM8.out.1.row.lt k hk).2; omega⟩; have h1 := (HM8.out.1.row.lt k hk).2; have h2 := hrB k hkB
                  omega
                have HJ : Hid ((cd = 4 ∧ pl = 0 ∧ b = true ∧ p2 = G.length ∧ r.K.map El.tell = G.map El.tell ∧ r.S.map El.tell = v.S.map El.tell) ∨ (cd = 0 ∧ pl = (p2 : Int) ∧ b = true ∧ p2 ≠ G.length ∧ r.K.map El.tell = G.map El.tell ∧ r.S.map El.tell = v.S.map El.tell) ∨ (cd = 0 ∧ pl = (G.length : Int) ∧ b = false ∧ p2 = G.length ∧ r.K.map El.tell = (G ++ [x]).map El.tell ∧ ∃ S', r.S.map El.tell = S'.map El.tell ∧ Kn (G ++ [x]) S')) := by
                  have hI := HM9.out.2.2; have hxx := HEX.out; have hst := HIN.out.1; have hov := HOV.out; rw [← hxx.2.1, ← hxx.2.2.1] at hst hov; refine judge_to HM9.out.2.1.kn HM9.out.2.1.vk (by have := HGN.out; omega) ?_ ?_ HBD.out.1 (by rw [HBD.out.2.1, hxx.2.1]) (by rw [HBD.out.2.2.1, hxx.2.2.1]) (by rw [HBD.out.2.2.2.1, hxx.2.2.2]) HR9.out.2.1 hst HIN.out.2 hov
                  · unfold okE
                    rw [hxx.2.1, hxx.2.2.1, hxx.2.2.2, hI.xl]; exact hI.ok
                  · rw [hxx.1]; rfl
                have HPOS : Hid (b = true → 0 < G.length) := fun hb => by
                  obtain ⟨i, y, hi, _⟩ := HIN.out.1.1 hb
                  omega
                clear hrb hsay hbn hrF hrB hG9 hbl HBX HM8
                rcases HJ.out with ⟨hc2, hpl2, hb2, hp2, hKK, hSS⟩ | ⟨hc2, hpl2, hb2, hp2, hKK, hSS⟩ | ⟨hc2, hpl2, hb2, hp2, hKK, S', hSS, hKn⟩
                · have HKS : Hid (SK r G ∧ 0 < G.length ∧ r.tell = v.tell) := ⟨⟨HM9.out.2.1.kn.tell hSS, HR9.out.1, hKK, by have := HGN.out; omega⟩, HPOS.out hb2, by simp [Sv.tell, HR9.out.1, HM9.out.2.1.vb, hKK, HM9.out.2.1.vk, hSS]⟩; have HSM : Hid (Calls Tryd.prog 14 #[.agg #[.int .i64 r.b, .slice r.ko r.K.length r.kc, .slice r.so r.S.length r.sc], .agg #[.int .i64 v.b, .slice v.ko v.K.length v.kc, .slice v.so v.S.length v.sc]] wc fun e wd => e = .returned (.bool true) ∧ wc.grownBy wd none) := smService_same r v wc HR9.out.2.2.2.1.at_ HM9.out.1.av HKS.out.2.2 HKS.out.1.small; clear HJ hKK hSS; subst hc2 hpl2 hb2 hp2; obtain ⟨q0, q1, q2, -⟩ := HM9.out.1.cells; have hbn := HR9.out.2.2.1
                  unfold svObj at hbn
                  have e0 : wc.cell? ⟨bn, 0, none⟩ = some (.int .i64 r.b) := by simp [World.cell?, hbn]
                  have e1 : wc.cell? ⟨bn, 1, none⟩ = some (.slice r.ko r.K.length r.kc) := by simp [World.cell?, hbn]
                  have e2 : wc.cell? ⟨bn, 2, none⟩ = some (.slice r.so r.S.length r.sc) := by simp [World.cell?, hbn]
                  clear hbn; go_wp2_with fail; refine HSM.out.mono ?_; rintro e wd ⟨rfl, hGd⟩; have HMd : Hid (SM w wd zs g bv v (.slice og G.length cg) G ∧ SvFull wd r) := ⟨HM9.out.1.more hGd, HR9.out.2.2.2.1.grown0 hGd⟩; have e0' := ((bcell hGd).1 _ _ (cell_block_lt e0)).trans e0; have e1' := ((bcell hGd).1 _ _ (cell_block_lt e1)).trans e1; have e2' := ((bcell hGd).1 _ _ (cell_block_lt e2)).trans e2; clear q0 q1 q2 e0 e1 e2 hGd HSM; obtain ⟨q0, q1, q2, q3, q4, q5⟩ := HMd.out.1.cells; obtain ⟨WE, hWE⟩ : ∃ WE, WE = ((wd.setCell ⟨bv, 0, none⟩ (.int .i64 r.b)).setCell ⟨bv, 1, none⟩ (.slice r.ko r.K.length r.kc)).setCell ⟨bv, 2, none⟩ (.slice r.so r.S.length r.sc) := ⟨_, rfl⟩
                  have HME : Hid (SM w WE zs g bv r (.slice og G.length cg) G) := by rw [hWE]; exact HMd.out.1.put HMd.out.2 HR9.out.2.2.2.2.1
                  have HWE : Hid (WE = ((wd.setCell ⟨bv, 0, none⟩ (.int .i64 r.b)).setCell ⟨bv, 1, none⟩ (.slice r.ko r.K.length r.kc)).setCell ⟨bv, 2, none⟩ (.slice r.so r.S.length r.sc)) := hWE; clear hWE
                  go_upto_region 39 with fail
                  rw [← HWE.out]; clear HWE HMd e0' e1' e2' q0 q1 q2 q3 q4 q5 HM9 HR9 HIN HOV HPOS
                  have HGL : Hid (G.length + (k - 1) ≤ 50) := by show _ ≤ _; omega
                  obtain ⟨q0, q1, q2, q3, q4, q5⟩ := HME.out.cells; have HKL : Hid (r.K.length = G.length ∧ r.b = 0) := ⟨by have := congrArg List.length HKS.out.1.vk; simpa using this, HKS.out.1.vb⟩; rw [HKL.out.2] at q0; rw [HKL.out.1] at q1; clear q3 q4 q5; go_wp2_with fail; refine (drawN_any g 8 zs WE HME.out.src (by decide) (by decide)).mono ?_; rintro e wf ⟨r8, rfl, -, -, hSf, hGf⟩; have HMf : Hid (SM w wf zs g bv r (.slice og G.length cg) (G)) := HME.out.drawn hGf hSf; clear q0 q1 q2 hSf hGf HME
                  by_cases hr8 : r8 = 0
                  · have t8 : ((r8 : Int) == 0) = true := by simp [hr8]
                    clear hr8; obtain ⟨q0, q1, q2, q3, q4, q5⟩ := HMf.out.cells; rw [HKL.out.2] at q0; rw [HKL.out.1] at q1
                    have HEN : Hid (Calls Tryd.prog 15 #[.agg #[.int .i64 0, .slice r.ko G.length r.kc, .slice r.so r.S.length r.sc]] wf fun e wg => ∃ (ge ne ce : Nat) (L : List Se), e = .returned (.tuple #[.slice (some ⟨ge, 0, none⟩) ne ce, .int .i64 0]) ∧ Hid (r.S = L.map Se.el ∧ ValidW G.length (L.map Se.tell) ∧ ne = (encSt G.length (L.map Se.tell)).length ∧ Own wg 5 ge (encSt G.length (L.map Se.tell)) ∧ wf.grownBy wg none ∧ ne ≤ ce ∧ ce ≤ maxLen)) := by
                      have h := implEnc_valid r wf HMf.out.av HKS.out.1.small HKS.out.1.valid; rw [HKL.out.1, HKL.out.2] at h; refine h.mono ?_; rintro e wg ⟨ge, ne, ce, cn, L, rfl, HR⟩; obtain ⟨h1, h2, h3, h4, h5, h6, h7, h8, h9⟩ := HR.out
                      obtain rfl : cn = G.length := by omega
                      exact ⟨ge, ne, ce, L, rfl, h1, h3, h4, h6, h7, h8, h9⟩
                    go_wp2_with fail; refine HEN.out.mono ?_; rintro e wg ⟨ge, ne, ce, L, rfl, HRg⟩; have HMg : Hid (SM w wg zs g bv r (.slice og G.length cg) (G)) := HMf.out.more HRg.out.2.2.2.2.1
                    have HDE : Hid (Calls Tryd.prog 16 #[.slice (some ⟨ge, 0, none⟩) ne ce] wg fun e wh => ∃ (oS : Option Addr) (sS cS : Nat) (S2 : List El), e = .returned (.tuple #[.agg #[.int .i64 ((G.length : Nat) : Int), .slice none 0 0, .slice oS sS cS], .int .i64 0]) ∧ Hid (S2.length = sS ∧ S2.map El.tell = r.S.map El.tell ∧ ElO wh 74 3 oS cS S2 ∧ (∀ k, ElB oS S2 k → wg.heap.size ≤ k) ∧ wg.grownBy wh none)) := by
                      have h := implDec_valid ge ne ce (G.length) L wg HRg.out.2.2.2.1 HRg.out.2.2.1 HRg.out.2.1 (by have := HGN.out; omega) HRg.out.2.2.2.2.2.1 HRg.out.2.2.2.2.2.2; refine h.mono ?_; rintro e wh ⟨oS, sS, cS, S2, rfl, HR⟩; rw [HRg.out.1]; exact ⟨oS, sS, cS, S2, rfl, HR.out⟩
                    clear q0 q1 q2 q3 q4 q5 HEN HMf; go_wp2_with fail; refine HDE.out.mono ?_; rintro e wh ⟨oS, sS, cS, S2, rfl, HRh⟩; have GA := World.grownBy_alloc wh (.cells #[.int .i64 ((G.length : Nat) : Int), .slice none 0 0, .slice oS sS cS] 28) none; have HMh : Hid (wg.grownBy (wh.alloc (.cells #[.int .i64 ((G.length : Nat) : Int), .slice none 0 0, .slice oS sS cS] 28)) none ∧ (wh.alloc (.cells #[.int .i64 ((G.length : Nat) : Int), .slice none 0 0, .slice oS sS cS] 28)).heap[wh.heap.size]? = some (.cells #[.int .i64 ((G.length : Nat) : Int), .slice none 0 0, .slice oS sS cS] 28 (0, 0)) ∧ ElO (wh.alloc (.cells #[.int .i64 ((G.length : Nat) : Int), .slice none 0 0, .slice oS sS cS] 28)) 74 3 oS cS S2 ∧ (∀ k, ElB oS S2 k → wg.heap.size ≤ k ∧ k < wh.heap.size) ∧ wg.heap.size ≤ wh.heap.size) := ⟨grownBy_trans HRh.out.2.2.2.2 GA, heap_alloc_new wh _, HRh.out.2.2.1.grown0 GA, fun k hk => ⟨HRh.out.2.2.2.1 k hk, HRh.out.2.2.1.lt k hk⟩, HRh.out.2.2.2.2.size⟩; have HST : Hid (S2.length = sS ∧ S2.map El.tell = r.S.map El.tell) := ⟨HRh.out.1, HRh.out.2.1⟩; clear GA HRh HDE HRg
                    go_upto_region 44 with fail
                    generalize wh.alloc (.cells #[.int .i64 ((G.length : Nat) : Int), .slice none 0 0, .slice oS sS cS] 28) = WH at *; generalize wh.heap.size = bs at *
                    obtain ⟨gk, hgk⟩ : ∃ gk, r.ko = some ⟨gk, 0, none⟩ := by
                      rcases HMg.out.full with hf | hz
                      · exact hf.kb
                      · have h1 := HKL.out.1; have h2 := HKS.out.2.1; rw [hz] at h1
                        simp [zeroSv] at h1
                        try simp at h2
                        omega
                    have HGK : Hid (r.ko = some ⟨gk, 0, none⟩) := hgk
                    have hbsv : bv ≠ bs := by have h1 := HMg.out.slt; have h2 := HMh.out.2.2.2.2; omega
                    obtain ⟨q0, q1, q2, -⟩ := (HMg.out.more HMh.out.1).cells; rw [HKL.out.2] at q0; rw [HKL.out.1, hgk] at q1; have hbs := HMh.out.2.1
                    have s0 : WH.cell? ⟨bs, 0, none⟩ = some (.int .i64 ((G.length : Nat) : Int)) := by simp [World.cell?, hbs]
                    have s1 : WH.cell? ⟨bs, 1, none⟩ = some (.slice none 0 0) := by simp [World.cell?, hbs]
                    have f0 : WH.frozen? ⟨bs, 0, none⟩ = false := by simp [World.frozen?, hbs]
                    obtain ⟨WI, hWI⟩ : ∃ WI, WI = WH.setCell ⟨bs, 0, none⟩ (.int .i64 0) := ⟨_, rfl⟩
                    have HMI : Hid (wg.grownBy WI none ∧ WI.heap[bs]? = some (.cells #[.int .i64 0, .slice none 0 0, .slice oS sS cS] 28 (0, 0)) ∧ ElO WI 74 3 oS cS S2) := by
                      rw [hWI]; refine ⟨grownBy_setNew HMh.out.1 HMh.out.2.2.2.2, heap_setCell_same _ _ 0 _ _ _ hbs, HMh.out.2.2.1.apart ((Only.refl (fun j => j = bs) WH).set bs 0 _ rfl) (fun k hk e => ?_)⟩; have := (HMh.out.2.2.2.1 k hk).2
                      omega
                    have HWI : Hid (WI = WH.setCell ⟨bs, 0, none⟩ (.int .i64 0)) := hWI; clear hWI hbs hgk
                    go_upto_region 47 with fail
                    rw [← HWI.out]; clear HWI s0 s1 f0 q0 q1 q2; obtain ⟨q0, q1, q2, -⟩ := (HMg.out.more HMI.out.1).cells; rw [HKL.out.1, HGK.out] at q1; have hbs := HMI.out.2.1
                    have s1 : WI.cell? ⟨bs, 1, none⟩ = some (.slice none 0 0) := by simp [World.cell?, hbs]
                    clear hbs
                    have HKE : Hid (ElAt WI 32 2 gk r.K) := by
                      have hA := (HMg.out.more HMI.out.1).av.kk; rw [HGK.out] at hA; exact hA.here
                    obtain ⟨ir, hri, hr0, hr1, hr2⟩ := info_parts Tryd.infoItem
                    go_wp2_with (at_builtin; refine wpList_append_lies rfl _ _ 25 rfl WI.heap.size 32 ir (.agg #[.int .i64 0, .int .i64 0, .slice none 0 0]) 3 40 Tryd.underlying25 hri hr0 hr1 hr2 rfl (by decide) _ 0 [] rfl (by exact World.ownsRow_nil _ _ _ _) ⟨gk, 0, none⟩ (G.length) r.kc (r.K.flatMap El.cells) rfl ?hl ?c1 ?c2 ?hm ?c3 ?c4 ?c5 ?_)
                    case hl => rw [elflat_len 2 r.K HKE.out.hds, HKL.out.1]
                    case c1 =>
                      intro j u hj; have h := HKE.out.flat j u hj
                      by_cases e : j = 0
                      · subst e; simpa [Addr.add] using h
                      · simpa [Addr.add, e] using h
                    case c2 => exact elflat_one r.K
                    case hm => have := HKS.out.2.1; first | omega | (simp at this; omega) | simp
                    case c3 => have := HGN.out; unfold maxLen; omega
                    case c4 => have := HGN.out; omega
                    case c5 => exact Nat.le_refl _
                    intro g7 c7 wj hown hgj hat; have hGj : WI.grownBy wj none := hgj; have hbj := (hGj.block bs (Array.getElem?_eq_some_iff.1 HMI.out.2.1).1 (by simp)).trans HMI.out.2.1
                    have j1 : wj.cell? ⟨bs, 1, none⟩ = some (.slice none 0 0) := by simp [World.cell?, hbj]
                    have j2 : wj.frozen? ⟨bs, 1, none⟩ = false := by simp [World.frozen?, hbj]
                    obtain ⟨WK, hWK⟩ : ∃ WK, WK = wj.setCell ⟨bs, 1, none⟩ (.slice (some ⟨g7, 0, none⟩) (G.length) c7) := ⟨_, rfl⟩
                    have HMK : Hid (wg.grownBy WK none ∧ WK.heap[bs]? = some (.cells #[.int .i64 0, .slice (some ⟨g7, 0, none⟩) (G.length) c7, .slice oS sS cS] 28 (0, 0)) ∧ SvAt WK ⟨0, some ⟨g7, 0, none⟩, c7, r.K, oS, cS, S2⟩) := by
                      have O : Only (fun j => j = bs) wj WK := by rw [hWK]; exact (Only.refl (fun j => j = bs) wj).set bs 1 _ rfl
                      have hGg := grownBy_trans HMI.out.1 hGj
                      have hrow : wj.ownsRow WI.heap.size 32 3 (.slice (some ⟨g7, 0, none⟩) (G.length) c7) r.K.length (r.K.flatMap El.cells) := by rw [HKL.out.1]; exact hown
                      have hKj : ElAt wj 32 2 gk r.K := HKE.out.kept (fun k hk _ => hGj.block k hk (by simp)); obtain ⟨oa', cap', e', ho', hb', -, -⟩ := elO_of_row hrow (fun x hx => by obtain ⟨i, hi⟩ := List.getElem?_of_mem hx; exact hKj.own i x hi) hKj.far; simp only [Value.slice.injEq] at e'; obtain ⟨rfl, -, rfl⟩ := e'; have hg7 := (hb' g7 rfl).1; have hvlt : ∀ k, SvB r k → k < wg.heap.size := HMg.out.av.lt; have hbl := HMh.out.2.2.2.2; have hbw := (Array.getElem?_eq_some_iff.1 HMI.out.2.1).1; refine ⟨by rw [hWK]; exact grownBy_setNew hGg hbl, by rw [hWK]; exact heap_setCell_same _ _ 1 _ _ _ hbj, ho'.apart O (fun k hk e => ?_), (HMI.out.2.2.grown0 hGj).apart O (fun k hk e => ?_), fun x hx y hy jj hxj hyj => ?_⟩
                      · rcases hk with hk | ⟨x, hx, hxo⟩
                        · simp only [Option.some.injEq, Addr.mk.injEq, and_true] at hk
                          omega
                        · have := hvlt k (.inl (.inr ⟨x, hx, hxo⟩)); omega
                      · have := (HMh.out.2.2.2.1 k hk).2; omega
                      · have h1 := hvlt jj (.inl (.inr ⟨x, hx, hxj⟩)); have h2 := (HMh.out.2.2.2.1 jj (.inr ⟨y, hy, hyj⟩)).1
                        omega
                    have HWK : Hid (WK = wj.setCell ⟨bs, 1, none⟩ (.slice (some ⟨g7, 0, none⟩) (G.length) c7)) := hWK; clear hown hgj hat hGj hbj hWK q0 q1 q2 s1 hri hr0 hr1 hr2
                    go_upto_region 48 with fail
                    rw [← HWK.out]; clear HWK j1 j2; obtain ⟨q0, q1, q2, -⟩ := (HMg.out.more HMK.out.1).cells; have hbs := HMK.out.2.1
                    have s0 : WK.cell? ⟨bs, 0, none⟩ = some (.int .i64 0) := by simp [World.cell?, hbs]
                    have s1 : WK.cell? ⟨bs, 1, none⟩ = some (.slice (some ⟨g7, 0, none⟩) (G.length) c7) := by simp [World.cell?, hbs]
                    have s2 : WK.cell? ⟨bs, 2, none⟩ = some (.slice oS sS cS) := by simp [World.cell?, hbs]
                    clear hbs
                    have HSS : Hid (Calls Tryd.prog 14 #[.agg #[.int .i64 0, .slice (some ⟨g7, 0, none⟩) (G.length) c7, .slice oS sS cS], .agg #[.int .i64 r.b, .slice r.ko r.K.length r.kc, .slice r.so r.S.length r.sc]] WK fun e wz => e = .returned (.bool true) ∧ WK.grownBy wz none) := by
                      have h := smService_same ⟨0, some ⟨g7, 0, none⟩, c7, r.K, oS, cS, S2⟩ r WK HMK.out.2.2 (HMg.out.more HMK.out.1).av (by simp [Sv.tell, HKL.out.2, HST.out.2]) (by
                        have hs := HKS.out.1.small; refine ⟨hs.1, ?_, hs.2.2.1, fun y hy => ?_⟩
                        · have := congrArg List.length HST.out.2; simp at this; have h2 := hs.2.1; simp only; omega
                        · obtain ⟨i, hi⟩ := List.getElem?_of_mem hy; obtain ⟨u, hu, e⟩ := tell_get HST.out.2 hi; have := hs.2.2.2 u (List.mem_of_getElem? hu); rw [(tell_eq e).2.2.2] at this
                          exact this)
                      simp only at h; rw [HKL.out.1, HST.out.1] at h; rw [HKL.out.1]; exact h
                    go_wp2_with fail; refine HSS.out.mono ?_; rintro e wz ⟨rfl, hGz⟩; have HMz : Hid (SM w wz zs g bv r (.slice og G.length cg) (G)) := (HMg.out.more HMK.out.1).more hGz; clear hGz HSS q0 q1 q2 s0 s1 s2 HMK HMI HMh HMg; go_wp2; go_roundw
                    case rel => exact ⟨k - 1, r, G, by go_num, by have := HGL.out; simp; omega, HMz.out, HKS.out.1⟩
                    case measure => simp [intOf]; omega
                  · have t8 : ((r8 : Int) == 0) = false := by simp [hr8]
                    clear hr8; go_wp2; go_roundw
                    case rel => exact ⟨k - 1, r, G, by go_num, by have := HGL.out; simp; omega, HMf.out, HKS.out.1⟩
                    case measure => simp [intOf]; omega
                · have HKS : Hid (SK r G ∧ 0 < G.length) := ⟨⟨HM9.out.2.1.kn.tell hSS, HR9.out.1, hKK, by have := HGN.out; omega⟩, HPOS.out hb2⟩; have HKS : Hid (SK r G ∧ 0 < G.length ∧ True) := ⟨HKS.out.1, HKS.out.2, trivial⟩
                  have tp : ((p2 : Int) == (G.length : Int)) = false := by simp; omega
                  clear HJ hKK hSS; subst hc2 hpl2 hb2; obtain ⟨q0, q1, q2, q3, q4, q5⟩ := HM9.out.1.cells; have hbn := HR9.out.2.2.1
                  unfold svObj at hbn
                  have e0 : wc.cell? ⟨bn, 0, none⟩ = some (.int .i64 r.b) := by simp [World.cell?, hbn]
                  have e1 : wc.cell? ⟨bn, 1, none⟩ = some (.slice r.ko r.K.length r.kc) := by simp [World.cell?, hbn]
                  have e2 : wc.cell? ⟨bn, 2, none⟩ = some (.slice r.so r.S.length r.sc) := by simp [World.cell?, hbn]
                  obtain ⟨WE, hWE⟩ : ∃ WE, WE = ((wc.setCell ⟨bv, 0, none⟩ (.int .i64 r.b)).setCell ⟨bv, 1, none⟩ (.slice r.ko r.K.length r.kc)).setCell ⟨bv, 2, none⟩ (.slice r.so r.S.length r.sc) := ⟨_, rfl⟩
                  have HME : Hid (SM w WE zs g bv r (.slice og G.length cg) G) := by rw [hWE]; exact HM9.out.1.put HR9.out.2.2.2.1 HR9.out.2.2.2.2.1
                  have HWE : Hid (WE = ((wc.setCell ⟨bv, 0, none⟩ (.int .i64 r.b)).setCell ⟨bv, 1, none⟩ (.slice r.ko r.K.length r.kc)).setCell ⟨bv, 2, none⟩ (.slice r.so r.S.length r.sc)) := hWE; clear hWE hbn hp2
                  go_upto_region 39 with fail
                  rw [← HWE.out]; clear HWE e0 e1 e2 q0 q1 q2 q3 q4 q5 HM9 HR9 HIN HOV HPOS tp
                  have HGL : Hid (G.length + (k - 1) ≤ 50) := by show _ ≤ _; omega
                  obtain ⟨q0, q1, q2, q3, q4, q5⟩ := HME.out.cells; have HKL : Hid (r.K.length = G.length ∧ r.b = 0) := ⟨by have := congrArg List.length HKS.out.1.vk; simpa using this, HKS.out.1.vb⟩; rw [HKL.out.2] at q0; rw [HKL.out.1] at q1; clear q3 q4 q5; go_wp2_with fail; refine (drawN_any g 8 zs WE HME.out.src (by decide) (by decide)).mono ?_; rintro e wf ⟨r8, rfl, -, -, hSf, hGf⟩; have HMf : Hid (SM w wf zs g bv r (.slice og G.length cg) (G)) := HME.out.drawn hGf hSf; clear q0 q1 q2 hSf hGf HME
                  by_cases hr8 : r8 = 0
                  · have t8 : ((r8 : Int) == 0) = true := by simp [hr8]
                    clear hr8; obtain ⟨q0, q1, q2, q3, q4, q5⟩ := HMf.out.cells; rw [HKL.out.2] at q0; rw [HKL.out.1] at q1
                    have HEN : Hid (Calls Tryd.prog 15 #[.agg #[.int .i64 0, .slice r.ko G.length r.kc, .slice r.so r.S.length r.sc]] wf fun e wg => ∃ (ge ne ce : Nat) (L : List Se), e = .returned (.tuple #[.slice (some ⟨ge, 0, none⟩) ne ce, .int .i64 0]) ∧ Hid (r.S = L.map Se.el ∧ ValidW G.length (L.map Se.tell) ∧ ne = (encSt G.length (L.map Se.tell)).length ∧ Own wg 5 ge (encSt G.length (L.map Se.tell)) ∧ wf.grownBy wg none ∧ ne ≤ ce ∧ ce ≤ maxLen)) := by
                      have h := implEnc_valid r wf HMf.out.av HKS.out.1.small HKS.out.1.valid; rw [HKL.out.1, HKL.out.2] at h; refine h.mono ?_; rintro e wg ⟨ge, ne, ce, cn, L, rfl, HR⟩; obtain ⟨h1, h2, h3, h4, h5, h6, h7, h8, h9⟩ := HR.out
                      obtain rfl : cn = G.length := by omega
                      exact ⟨ge, ne, ce, L, rfl, h1, h3, h4, h6, h7, h8, h9⟩
                    go_wp2_with fail; refine HEN.out.mono ?_; rintro e wg ⟨ge, ne, ce, L, rfl, HRg⟩; have HMg : Hid (SM w wg zs g bv r (.slice og G.length cg) (G)) := HMf.out.more HRg.out.2.2.2.2.1
                    have HDE : Hid (Calls Tryd.prog 16 #[.slice (some ⟨ge, 0, none⟩) ne ce] wg fun e wh => ∃ (oS : Option Addr) (sS cS : Nat) (S2 : List El), e = .returned (.tuple #[.agg #[.int .i64 ((G.length : Nat) : Int), .slice none 0 0, .slice oS sS cS], .int .i64 0]) ∧ Hid (S2.length = sS ∧ S2.map El.tell = r.S.map El.tell ∧ ElO wh 74 3 oS cS S2 ∧ (∀ k, ElB oS S2 k → wg.heap.size ≤ k) ∧ wg.grownBy wh none)) := by
                      have h := implDec_valid ge ne ce (G.length) L wg HRg.out.2.2.2.1 HRg.out.2.2.1 HRg.out.2.1 (by have := HGN.out; omega) HRg.out.2.2.2.2.2.1 HRg.out.2.2.2.2.2.2; refine h.mono ?_; rintro e wh ⟨oS, sS, cS, S2, rfl, HR⟩; rw [HRg.out.1]; exact ⟨oS, sS, cS, S2, rfl, HR.out⟩
                    clear q0 q1 q2 q3 q4 q5 HEN HMf; go_wp2_with fail; refine HDE.out.mono ?_; rintro e wh ⟨oS, sS, cS, S2, rfl, HRh⟩; have GA := World.grownBy_alloc wh (.cells #[.int .i64 ((G.length : Nat) : Int), .slice none 0 0, .slice oS sS cS] 28) none; have HMh : Hid (wg.grownBy (wh.alloc (.cells #[.int .i64 ((G.length : Nat) : Int), .slice none 0 0, .slice oS sS cS] 28)) none ∧ (wh.alloc (.cells #[.int .i64 ((G.length : Nat) : Int), .slice none 0 0, .slice oS sS cS] 28)).heap[wh.heap.size]? = some (.cells #[.int .i64 ((G.length : Nat) : Int), .slice none 0 0, .slice oS sS cS] 28 (0, 0)) ∧ ElO (wh.alloc (.cells #[.int .i64 ((G.length : Nat) : Int), .slice none 0 0, .slice oS sS cS] 28)) 74 3 oS cS S2 ∧ (∀ k, ElB oS S2 k → wg.heap.size ≤ k ∧ k < wh.heap.size) ∧ wg.heap.size ≤ wh.heap.size) := ⟨grownBy_trans HRh.out.2.2.2.2 GA, heap_alloc_new wh _, HRh.out.2.2.1.grown0 GA, fun k hk => ⟨HRh.out.2.2.2.1 k hk, HRh.out.2.2.1.lt k hk⟩, HRh.out.2.2.2.2.size⟩; have HST : Hid (S2.length = sS ∧ S2.map El.tell = r.S.map El.tell) := ⟨HRh.out.1, HRh.out.2.1⟩; clear GA HRh HDE HRg
                    go_upto_region 44 with fail
                    generalize wh.alloc (.cells #[.int .i64 ((G.length : Nat) : Int), .slice none 0 0, .slice oS sS cS] 28) = WH at *; generalize wh.heap.size = bs at *
                    obtain ⟨gk, hgk⟩ : ∃ gk, r.ko = some ⟨gk, 0, none⟩ := by
                      rcases HMg.out.full with hf | hz
                      · exact hf.kb
                      · have h1 := HKL.out.1; have h2 := HKS.out.2.1; rw [hz] at h1
                        simp [zeroSv] at h1
                        try simp at h2
                        omega
                    have HGK : Hid (r.ko = some ⟨gk, 0, none⟩) := hgk
                    have hbsv : bv ≠ bs := by have h1 := HMg.out.slt; have h2 := HMh.out.2.2.2.2; omega
                    obtain ⟨q0, q1, q2, -⟩ := (HMg.out.more HMh.out.1).cells; rw [HKL.out.2] at q0; rw [HKL.out.1, hgk] at q1; have hbs := HMh.out.2.1
                    have s0 : WH.cell? ⟨bs, 0, none⟩ = some (.int .i64 ((G.length : Nat) : Int)) := by simp [World.cell?, hbs]
                    have s1 : WH.cell? ⟨bs, 1, none⟩ = some (.slice none 0 0) := by simp [World.cell?, hbs]
                    have f0 : WH.frozen? ⟨bs, 0, none⟩ = false := by simp [World.frozen?, hbs]
                    obtain ⟨WI, hWI⟩ : ∃ WI, WI = WH.setCell ⟨bs, 0, none⟩ (.int .i64 0) := ⟨_, rfl⟩
                    have HMI : Hid (wg.grownBy WI none ∧ WI.heap[bs]? = some (.cells #[.int .i64 0, .slice none 0 0, .slice oS sS cS] 28 (0, 0)) ∧ ElO WI 74 3 oS cS S2) := by
                      rw [hWI]; refine ⟨grownBy_setNew HMh.out.1 HMh.out.2.2.2.2, heap_setCell_same _ _ 0 _ _ _ hbs, HMh.out.2.2.1.apart ((Only.refl (fun j => j = bs) WH).set bs 0 _ rfl) (fun k hk e => ?_)⟩; have := (HMh.out.2.2.2.1 k hk).2
                      omega
                    have HWI : Hid (WI = WH.setCell ⟨bs, 0, none⟩ (.int .i64 0)) := hWI; clear hWI hbs hgk
                    go_upto_region 47 with fail
                    rw [← HWI.out]; clear HWI s0 s1 f0 q0 q1 q2; obtain ⟨q0, q1, q2, -⟩ := (HMg.out.more HMI.out.1).cells; rw [HKL.out.1, HGK.out] at q1; have hbs := HMI.out.2.1
                    have s1 : WI.cell? ⟨bs, 1, none⟩ = some (.slice none 0 0) := by simp [World.cell?, hbs]
                    clear hbs
                    have HKE : Hid (ElAt WI 32 2 gk r.K) := by
                      have hA := (HMg.out.more HMI.out.1).av.kk; rw [HGK.out] at hA; exact hA.here
                    obtain ⟨ir, hri, hr0, hr1, hr2⟩ := info_parts Tryd.infoItem
                    go_wp2_with (at_builtin; refine wpList_append_lies rfl _ _ 25 rfl WI.heap.size 32 ir (.agg #[.int .i64 0, .int .i64 0, .slice none 0 0]) 3 40 Tryd.underlying25 hri hr0 hr1 hr2 rfl (by decide) _ 0 [] rfl (by exact World.ownsRow_nil _ _ _ _) ⟨gk, 0, none⟩ (G.length) r.kc (r.K.flatMap El.cells) rfl ?hl ?c1 ?c2 ?hm ?c3 ?c4 ?c5 ?_)
                    case hl => rw [elflat_len 2 r.K HKE.out.hds, HKL.out.1]
                    case c1 =>
                      intro j u hj; have h := HKE.out.flat j u hj
                      by_cases e : j = 0
                      · subst e; simpa [Addr.add] using h
                      · simpa [Addr.add, e] using h
                    case c2 => exact elflat_one r.K
                    case hm => have := HKS.out.2.1; first | omega | (simp at this; omega) | simp
                    case c3 => have := HGN.out; unfold maxLen; omega
                    case c4 => have := HGN.out; omega
                    case c5 => exact Nat.le_refl _
                    intro g7 c7 wj hown hgj hat; have hGj : WI.grownBy wj none := hgj; have hbj := (hGj.block bs (Array.getElem?_eq_some_iff.1 HMI.out.2.1).1 (by simp)).trans HMI.out.2.1
                    have j1 : wj.cell? ⟨bs, 1, none⟩ = some (.slice none 0 0) := by simp [World.cell?, hbj]
                    have j2 : wj.frozen? ⟨bs, 1, none⟩ = false := by simp [World.frozen?, hbj]
                    obtain ⟨WK, hWK⟩ : ∃ WK, WK = wj.setCell ⟨bs, 1, none⟩ (.slice (some ⟨g7, 0, none⟩) (G.length) c7) := ⟨_, rfl⟩
                    have HMK : Hid (wg.grownBy WK none ∧ WK.heap[bs]? = some (.cells #[.int .i64 0, .slice (some ⟨g7, 0, none⟩) (G.length) c7, .slice oS sS cS] 28 (0, 0)) ∧ SvAt WK ⟨0, some ⟨g7, 0, none⟩, c7, r.K, oS, cS, S2⟩) := by
                      have O : Only (fun j => j = bs) wj WK := by rw [hWK]; exact (Only.refl (fun j => j = bs) wj).set bs 1 _ rfl
                      have hGg := grownBy_trans HMI.out.1 hGj
                      have hrow : wj.ownsRow WI.heap.size 32 3 (.slice (some ⟨g7, 0, none⟩) (G.length) c7) r.K.length (r.K.flatMap El.cells) := by rw [HKL.out.1]; exact hown
                      have hKj : ElAt wj 32 2 gk r.K := HKE.out.kept (fun k hk _ => hGj.block k hk (by simp)); obtain ⟨oa', cap', e', ho', hb', -, -⟩ := elO_of_row hrow (fun x hx => by obtain ⟨i, hi⟩ := List.getElem?_of_mem hx; exact hKj.own i x hi) hKj.far; simp only [Value.slice.injEq] at e'; obtain ⟨rfl, -, rfl⟩ := e'; have hg7 := (hb' g7 rfl).1; have hvlt : ∀ k, SvB r k → k < wg.heap.size := HMg.out.av.lt; have hbl := HMh.out.2.2.2.2; have hbw := (Array.getElem?_eq_some_iff.1 HMI.out.2.1).1; refine ⟨by rw [hWK]; exact grownBy_setNew hGg hbl, by rw [hWK]; exact heap_setCell_same _ _ 1 _ _ _ hbj, ho'.apart O (fun k hk e => ?_), (HMI.out.2.2.grown0 hGj).apart O (fun k hk e => ?_), fun x hx y hy jj hxj hyj => ?_⟩
                      · rcases hk with hk | ⟨x, hx, hxo⟩
                        · simp only [Option.some.injEq, Addr.mk.injEq, and_true] at hk
                          omega
                        · have := hvlt k (.inl (.inr ⟨x, hx, hxo⟩)); omega
                      · have := (HMh.out.2.2.2.1 k hk).2; omega
                      · have h1 := hvlt jj (.inl (.inr ⟨x, hx, hxj⟩)); have h2 := (HMh.out.2.2.2.1 jj (.inr ⟨y, hy, hyj⟩)).1
                        omega
                    have HWK : Hid (WK = wj.setCell ⟨bs, 1, none⟩ (.slice (some ⟨g7, 0, none⟩) (G.length) c7)) := hWK; clear hown hgj hat hGj hbj hWK q0 q1 q2 s1 hri hr0 hr1 hr2
                    go_upto_region 48 with fail
                    rw [← HWK.out]; clear HWK j1 j2; obtain ⟨q0, q1, q2, -⟩ := (HMg.out.more HMK.out.1).cells; have hbs := HMK.out.2.1
                    have s0 : WK.cell? ⟨bs, 0, none⟩ = some (.int .i64 0) := by simp [World.cell?, hbs]
                    have s1 : WK.cell? ⟨bs, 1, none⟩ = some (.slice (some ⟨g7, 0, none⟩) (G.length) c7) := by simp [World.cell?, hbs]
                    have s2 : WK.cell? ⟨bs, 2, none⟩ = some (.slice oS sS cS) := by simp [World.cell?, hbs]
                    clear hbs
                    have HSS : Hid (Calls Tryd.prog 14 #[.agg #[.int .i64 0, .slice (some ⟨g7, 0, none⟩) (G.length) c7, .slice oS sS cS], .agg #[.int .i64 r.b, .slice r.ko r.K.length r.kc, .slice r.so r.S.length r.sc]] WK fun e wz => e = .returned (.bool true) ∧ WK.grownBy wz none) := by
                      have h := smService_same ⟨0, some ⟨g7, 0, none⟩, c7, r.K, oS, cS, S2⟩ r WK HMK.out.2.2 (HMg.out.more HMK.out.1).av (by simp [Sv.tell, HKL.out.2, HST.out.2]) (by
                        have hs := HKS.out.1.small; refine ⟨hs.1, ?_, hs.2.2.1, fun y hy => ?_⟩
                        · have := congrArg List.length HST.out.2; simp at this; have h2 := hs.2.1; simp only; omega
                        · obtain ⟨i, hi⟩ := List.getElem?_of_mem hy; obtain ⟨u, hu, e⟩ := tell_get HST.out.2 hi; have := hs.2.2.2 u (List.mem_of_getElem? hu); rw [(tell_eq e).2.2.2] at this
                          exact this)
                      simp only at h; rw [HKL.out.1, HST.out.1] at h; rw [HKL.out.1]; exact h
                    go_wp2_with fail; refine HSS.out.mono ?_; rintro e wz ⟨rfl, hGz⟩; have HMz : Hid (SM w wz zs g bv r (.slice og G.length cg) (G)) := (HMg.out.more HMK.out.1).more hGz; clear hGz HSS q0 q1 q2 s0 s1 s2 HMK HMI HMh HMg; go_wp2; go_roundw
                    case rel => exact ⟨k - 1, r, G, by go_num, by have := HGL.out; simp; omega, HMz.out, HKS.out.1⟩
                    case measure => simp [intOf]; omega
                  · have t8 : ((r8 : Int) == 0) = false := by simp [hr8]
                    clear hr8; go_wp2; go_roundw
                    case rel => exact ⟨k - 1, r, G, by go_num, by have := HGL.out; simp; omega, HMf.out, HKS.out.1⟩
                    case measure => simp [intOf]; omega
                · obtain ⟨nG, hnG⟩ : ∃ nG, G.length + 1 = nG := ⟨_, rfl⟩; have HNG : Hid (G.length + 1 = nG) := hnG; have HKS : Hid (SK r (G ++ [x]) ∧ 0 < nG) := ⟨⟨hKn.tell hSS, HR9.out.1, hKK, by have := HGN.out; simp; omega⟩, by omega⟩; have HKS : Hid (SK r (G ++ [x]) ∧ 0 < nG ∧ True) := ⟨HKS.out.1, HKS.out.2, trivial⟩; clear HJ hKK hSS hKn hnG; subst hc2 hpl2 hb2 hp2; obtain ⟨a0, a1, a2⟩ := HM9.out.2.2.cells; have GA := World.grownBy_alloc wc (.cells #[.int .i64 (c : Int), .int .i64 (q : Int), .slice (some ⟨gx, 0, none⟩) n cx] 32) none; have HMA : Hid (SM w (wc.alloc (.cells #[.int .i64 (c : Int), .int .i64 (q : Int), .slice (some ⟨gx, 0, none⟩) n cx] 32)) zs g bv v (.slice og G.length cg) G ∧ SvFull (wc.alloc (.cells #[.int .i64 (c : Int), .int .i64 (q : Int), .slice (some ⟨gx, 0, none⟩) n cx] 32)) r ∧ (wc.alloc (.cells #[.int .i64 (c : Int), .int .i64 (q : Int), .slice (some ⟨gx, 0, none⟩) n cx] 32)).heap[bn]? = some (svObj r) ∧ IT (wc.alloc (.cells #[.int .i64 (c : Int), .int .i64 (q : Int), .slice (some ⟨gx, 0, none⟩) n cx] 32)) ix gx n cx c q xs) := ⟨HM9.out.1.more GA, HR9.out.2.2.2.1.grown0 GA, (GA.block bn (Array.getElem?_eq_some_iff.1 HR9.out.2.2.1).1 (by simp)).trans HR9.out.2.2.1, HM9.out.2.2.more GA⟩; clear GA; obtain ⟨ir, hri, hr0, hr1, hr2⟩ := info_parts Tryd.infoItem
                  go_wp2_with (at_builtin; refine wpList_append_lies rfl _ _ 25 rfl (bv + 1) 32 ir (.agg #[.int .i64 0, .int .i64 0, .slice none 0 0]) 3 40 Tryd.underlying25 hri hr0 hr1 hr2 rfl (by decide) _ G.length (G.flatMap El.cells) rfl (by exact HMA.out.1.row) ⟨wc.heap.size, 0, none⟩ 1 1 [.int .i64 (c : Int), .int .i64 (q : Int), .slice (some ⟨gx, 0, none⟩) n cx] rfl rfl ?c1 ?c2 ?hm ?c3 ?c4 ?c5 ?_)
                  case c1 =>
                    intro j u hj
                    match j, hj with
                    | 0, hj => simp at hj; subst hj; simp [Addr.add]
                    | 1, hj => simp at hj; subst hj; simp [Addr.add]
                    | 2, hj => simp at hj; subst hj; simp [Addr.add]
                  case c2 => intro u hu; simp at hu; rcases hu with rfl | rfl | rfl <;> rfl
                  case hm => decide
                  case c3 => have := HGN.out; unfold maxLen; omega
                  case c4 => have := HGN.out; omega
                  case c5 => have := HMA.out.1.slt; omega
                  intro gv cv wa hown hgj hat
                  have HMa : Hid (SM w wa zs g bv v (.slice (some ⟨gv, 0, none⟩) nG cv) (G ++ [x]) ∧ SvFull wa r ∧ wa.heap[bn]? = some (svObj r) ∧ ∀ k, (Value.slice (some ⟨gv, 0, none⟩) nG cv).ownBlock = some k → ¬ SvB r k) := by
                    have hxx := HEX.out; have hI := HMA.out.2.2.2
                    have hxc : x.cells = [.int .i64 (c : Int), .int .i64 (q : Int), .slice (some ⟨gx, 0, none⟩) n cx] := by rw [hxx.1]; simp [El.cells, oad, hI.xl]
                    have hown' : wa.ownsRow (bv + 1) 32 3 (.slice (some ⟨gv, 0, none⟩) nG cv) nG (G.flatMap El.cells ++ x.cells) := by rw [hxc, ← HNG.out]; exact hown
                    have hg := HMA.out.1.give (x := x) ⟨by rw [hxx.1]; rfl, by rw [hxx.1]; exact hI.ox.s rfl⟩ HNG.out hown' hgj (hat.imp id (fun h => by rw [h]; simp)); refine ⟨hg.1, HMA.out.2.1.apart (Only.of (S := fun k => (Value.slice og G.length cg).ownBlock = some k) hgj (fun k e => e)) (fun k hk e => HR9.out.2.2.2.2.1 k e hk), (hgj.block bn (Array.getElem?_eq_some_iff.1 HMA.out.2.2.1).1 (fun e => HR9.out.2.2.2.2.2.2.2 bn e.symm rfl)).trans HMA.out.2.2.1, fun k hk hkB => ?_⟩; simp only [Value.ownBlock, Option.some.injEq] at hk; subst hk
                    rcases hat with hat | hat
                    · exact HR9.out.2.2.2.2.1 gv hat hkB
                    · have := HMA.out.2.1.at_.lt gv hkB
                      simp at this
                      omega
                  clear hown hgj hat a0 a1 a2 HMA hri hr0 hr1 hr2; obtain ⟨q0, q1, q2, q3, q4, q5⟩ := HMa.out.1.cells; have hbn := HMa.out.2.2.1
                  unfold svObj at hbn
                  have e0 : wa.cell? ⟨bn, 0, none⟩ = some (.int .i64 r.b) := by simp [World.cell?, hbn]
                  have e1 : wa.cell? ⟨bn, 1, none⟩ = some (.slice r.ko r.K.length r.kc) := by simp [World.cell?, hbn]
                  have e2 : wa.cell? ⟨bn, 2, none⟩ = some (.slice r.so r.S.length r.sc) := by simp [World.cell?, hbn]
                  obtain ⟨WE, hWE⟩ : ∃ WE, WE = ((wa.setCell ⟨bv, 0, none⟩ (.int .i64 r.b)).setCell ⟨bv, 1, none⟩ (.slice r.ko r.K.length r.kc)).setCell ⟨bv, 2, none⟩ (.slice r.so r.S.length r.sc) := ⟨_, rfl⟩
                  have HME : Hid (SM w WE zs g bv r (.slice (some ⟨gv, 0, none⟩) nG cv) (G ++ [x])) := by rw [hWE]; exact HMa.out.1.put HMa.out.2.1 HMa.out.2.2.2
                  have HWE : Hid (WE = ((wa.setCell ⟨bv, 0, none⟩ (.int .i64 r.b)).setCell ⟨bv, 1, none⟩ (.slice r.ko r.K.length r.kc)).setCell ⟨bv, 2, none⟩ (.slice r.so r.S.length r.sc)) := hWE; clear hWE hbn
                  go_upto_region 39 with fail
                  rw [← HWE.out, HNG.out]; clear HWE e0 e1 e2 q0 q1 q2 q3 q4 q5 HM9 HR9 HIN HOV HPOS HMa
                  have HGL : Hid (G.length + 1 + (k - 1) ≤ 50) := by show _ ≤ _; omega
                  have HGN : Hid (nG ≤ 51) := by have h1 := HGN.out; have h2 := HNG.out; show _ ≤ _; omega
                  have hnG51 : nG ≤ 51 := HGN.out; obtain ⟨q0, q1, q2, q3, q4, q5⟩ := HME.out.cells; have HKL : Hid (r.K.length = nG ∧ r.b = 0) := ⟨by have h1 := congrArg List.length HKS.out.1.vk; have h2 := HNG.out; simp at h1; omega, HKS.out.1.vb⟩; rw [HKL.out.2] at q0; rw [HKL.out.1] at q1; clear q3 q4 q5; go_wp2_with fail; refine (drawN_any g 8 zs WE HME.out.src (by decide) (by decide)).mono ?_; rintro e wf ⟨r8, rfl, -, -, hSf, hGf⟩; have HMf : Hid (SM w wf zs g bv r (.slice (some ⟨gv, 0, none⟩) nG cv) (G ++ [x])) := HME.out.drawn hGf hSf; clear q0 q1 q2 hSf hGf HME
                  by_cases hr8 : r8 = 0
                  · have t8 : ((r8 : Int) == 0) = true := by simp [hr8]
                    clear hr8; obtain ⟨q0, q1, q2, q3, q4, q5⟩ := HMf.out.cells; rw [HKL.out.2] at q0; rw [HKL.out.1] at q1
                    have HEN : Hid (Calls Tryd.prog 15 #[.agg #[.int .i64 0, .slice r.ko nG r.kc, .slice r.so r.S.length r.sc]] wf fun e wg => ∃ (ge ne ce : Nat) (L : List Se), e = .returned (.tuple #[.slice (some ⟨ge, 0, none⟩) ne ce, .int .i64 0]) ∧ Hid (r.S = L.map Se.el ∧ ValidW nG (L.map Se.tell) ∧ ne = (encSt nG (L.map Se.tell)).length ∧ Own wg 5 ge (encSt nG (L.map Se.tell)) ∧ wf.grownBy wg none ∧ ne ≤ ce ∧ ce ≤ maxLen)) := by
                      have h := implEnc_valid r wf HMf.out.av HKS.out.1.small HKS.out.1.valid; rw [HKL.out.1, HKL.out.2] at h; refine h.mono ?_; rintro e wg ⟨ge, ne, ce, cn, L, rfl, HR⟩; obtain ⟨h1, h2, h3, h4, h5, h6, h7, h8, h9⟩ := HR.out
                      obtain rfl : cn = nG := by omega
                      exact ⟨ge, ne, ce, L, rfl, h1, h3, h4, h6, h7, h8, h9⟩
                    go_wp2_with fail; refine HEN.out.mono ?_; rintro e wg ⟨ge, ne, ce, L, rfl, HRg⟩; have HMg : Hid (SM w wg zs g bv r (.slice (some ⟨gv, 0, none⟩) nG cv) (G ++ [x])) := HMf.out.more HRg.out.2.2.2.2.1
                    have HDE : Hid (Calls Tryd.prog 16 #[.slice (some ⟨ge, 0, none⟩) ne ce] wg fun e wh => ∃ (oS : Option Addr) (sS cS : Nat) (S2 : List El), e = .returned (.tuple #[.agg #[.int .i64 (nG : Int), .slice none 0 0, .slice oS sS cS], .int .i64 0]) ∧ Hid (S2.length = sS ∧ S2.map El.tell = r.S.map El.tell ∧ ElO wh 74 3 oS cS S2 ∧ (∀ k, ElB oS S2 k → wg.heap.size ≤ k) ∧ wg.grownBy wh none)) := by
                      have h := implDec_valid ge ne ce (nG) L wg HRg.out.2.2.2.1 HRg.out.2.2.1 HRg.out.2.1 (by have := HGN.out; omega) HRg.out.2.2.2.2.2.1 HRg.out.2.2.2.2.2.2; refine h.mono ?_; rintro e wh ⟨oS, sS, cS, S2, rfl, HR⟩; rw [HRg.out.1]; exact ⟨oS, sS, cS, S2, rfl, HR.out⟩
                    clear q0 q1 q2 q3 q4 q5 HEN HMf; go_wp2_with fail; refine HDE.out.mono ?_; rintro e wh ⟨oS, sS, cS, S2, rfl, HRh⟩; have GA := World.grownBy_alloc wh (.cells #[.int .i64 (nG : Int), .slice none 0 0, .slice oS sS cS] 28) none; have HMh : Hid (wg.grownBy (wh.alloc (.cells #[.int .i64 (nG : Int), .slice none 0 0, .slice oS sS cS] 28)) none ∧ (wh.alloc (.cells #[.int .i64 (nG : Int), .slice none 0 0, .slice oS sS cS] 28)).heap[wh.heap.size]? = some (.cells #[.int .i64 (nG : Int), .slice none 0 0, .slice oS sS cS] 28 (0, 0)) ∧ ElO (wh.alloc (.cells #[.int .i64 (nG : Int), .slice none 0 0, .slice oS sS cS] 28)) 74 3 oS cS S2 ∧ (∀ k, ElB oS S2 k → wg.heap.size ≤ k ∧ k < wh.heap.size) ∧ wg.heap.size ≤ wh.heap.size) := ⟨grownBy_trans HRh.out.2.2.2.2 GA, heap_alloc_new wh _, HRh.out.2.2.1.grown0 GA, fun k hk => ⟨HRh.out.2.2.2.1 k hk, HRh.out.2.2.1.lt k hk⟩, HRh.out.2.2.2.2.size⟩; have HST : Hid (S2.length = sS ∧ S2.map El.tell = r.S.map El.tell) := ⟨HRh.out.1, HRh.out.2.1⟩; clear GA HRh HDE HRg
                    go_upto_region 44 with fail
                    generalize wh.alloc (.cells #[.int .i64 (nG : Int), .slice none 0 0, .slice oS sS cS] 28) = WH at *; generalize wh.heap.size = bs at *
                    obtain ⟨gk, hgk⟩ : ∃ gk, r.ko = some ⟨gk, 0, none⟩ := by
                      rcases HMg.out.full with hf | hz
                      · exact hf.kb
                      · have h1 := HKL.out.1; have h2 := HKS.out.2.1; rw [hz] at h1
                        simp [zeroSv] at h1
                        try simp at h2
                        omega
                    have HGK : Hid (r.ko = some ⟨gk, 0, none⟩) := hgk
                    have hbsv : bv ≠ bs := by have h1 := HMg.out.slt; have h2 := HMh.out.2.2.2.2; omega
                    obtain ⟨q0, q1, q2, -⟩ := (HMg.out.more HMh.out.1).cells; rw [HKL.out.2] at q0; rw [HKL.out.1, hgk] at q1; have hbs := HMh.out.2.1
                    have s0 : WH.cell? ⟨bs, 0, none⟩ = some (.int .i64 (nG : Int)) := by simp [World.cell?, hbs]
                    have s1 : WH.cell? ⟨bs, 1, none⟩ = some (.slice none 0 0) := by simp [World.cell?, hbs]
                    have f0 : WH.frozen? ⟨bs, 0, none⟩ = false := by simp [World.frozen?, hbs]
                    obtain ⟨WI, hWI⟩ : ∃ WI, WI = WH.setCell ⟨bs, 0, none⟩ (.int .i64 0) := ⟨_, rfl⟩
                    have HMI : Hid (wg.grownBy WI none ∧ WI.heap[bs]? = some (.cells #[.int .i64 0, .slice none 0 0, .slice oS sS cS] 28 (0, 0)) ∧ ElO WI 74 3 oS cS S2) := by
                      rw [hWI]; refine ⟨grownBy_setNew HMh.out.1 HMh.out.2.2.2.2, heap_setCell_same _ _ 0 _ _ _ hbs, HMh.out.2.2.1.apart ((Only.refl (fun j => j = bs) WH).set bs 0 _ rfl) (fun k hk e => ?_)⟩; have := (HMh.out.2.2.2.1 k hk).2
                      omega
                    have HWI : Hid (WI = WH.setCell ⟨bs, 0, none⟩ (.int .i64 0)) := hWI; clear hWI hbs hgk
                    go_upto_region 47 with fail
                    rw [← HWI.out]; clear HWI s0 s1 f0 q0 q1 q2; obtain ⟨q0, q1, q2, -⟩ := (HMg.out.more HMI.out.1).cells; rw [HKL.out.1, HGK.out] at q1; have hbs := HMI.out.2.1
                    have s1 : WI.cell? ⟨bs, 1, none⟩ = some (.slice none 0 0) := by simp [World.cell?, hbs]
                    clear hbs
                    have HKE : Hid (ElAt WI 32 2 gk r.K) := by
                      have hA := (HMg.out.more HMI.out.1).av.kk; rw [HGK.out] at hA; exact hA.here
                    obtain ⟨ir, hri, hr0, hr1, hr2⟩ := info_parts Tryd.infoItem
                    go_wp2_with (at_builtin; refine wpList_append_lies rfl _ _ 25 rfl WI.heap.size 32 ir (.agg #[.int .i64 0, .int .i64 0, .slice none 0 0]) 3 40 Tryd.underlying25 hri hr0 hr1 hr2 rfl (by decide) _ 0 [] rfl (by exact World.ownsRow_nil _ _ _ _) ⟨gk, 0, none⟩ (nG) r.kc (r.K.flatMap El.cells) rfl ?hl ?c1 ?c2 ?hm ?c3 ?c4 ?c5 ?_)
                    case hl => rw [elflat_len 2 r.K HKE.out.hds, HKL.out.1]
                    case c1 =>
                      intro j u hj; have h := HKE.out.flat j u hj
                      by_cases e : j = 0
                      · subst e; simpa [Addr.add] using h
                      · simpa [Addr.add, e] using h
                    case c2 => exact elflat_one r.K
                    case hm => have := HKS.out.2.1; first | omega | (simp at this; omega) | simp
                    case c3 => have := HGN.out; unfold maxLen; omega
                    case c4 => have := HGN.out; omega
                    case c5 => exact Nat.le_refl _
                    intro g7 c7 wj hown hgj hat; have hGj : WI.grownBy wj none := hgj; have hbj := (hGj.block bs (Array.getElem?_eq_some_iff.1 HMI.out.2.1).1 (by simp)).trans HMI.out.2.1
                    have j1 : wj.cell? ⟨bs, 1, none⟩ = some (.slice none 0 0) := by simp [World.cell?, hbj]
                    have j2 : wj.frozen? ⟨bs, 1, none⟩ = false := by simp [World.frozen?, hbj]
                    obtain ⟨WK, hWK⟩ : ∃ WK, WK = wj.setCell ⟨bs, 1, none⟩ (.slice (some ⟨g7, 0, none⟩) (nG) c7) := ⟨_, rfl⟩
                    have HMK : Hid (wg.grownBy WK none ∧ WK.heap[bs]? = some (.cells #[.int .i64 0, .slice (some ⟨g7, 0, none⟩) (nG) c7, .slice oS sS cS] 28 (0, 0)) ∧ SvAt WK ⟨0, some ⟨g7, 0, none⟩, c7, r.K, oS, cS, S2⟩) := by
                      have O : Only (fun j => j = bs) wj WK := by rw [hWK]; exact (Only.refl (fun j => j = bs) wj).set bs 1 _ rfl
                      have hGg := grownBy_trans HMI.out.1 hGj
                      have hrow : wj.ownsRow WI.heap.size 32 3 (.slice (some ⟨g7, 0, none⟩) (nG) c7) r.K.length (r.K.flatMap El.cells) := by rw [HKL.out.1]; exact hown
                      have hKj : ElAt wj 32 2 gk r.K := HKE.out.kept (fun k hk _ => hGj.block k hk (by simp)); obtain ⟨oa', cap', e', ho', hb', -, -⟩ := elO_of_row hrow (fun x hx => by obtain ⟨i, hi⟩ := List.getElem?_of_mem hx; exact hKj.own i x hi) hKj.far; simp only [Value.slice.injEq] at e'; obtain ⟨rfl, -, rfl⟩ := e'; have hg7 := (hb' g7 rfl).1; have hvlt : ∀ k, SvB r k → k < wg.heap.size := HMg.out.av.lt; have hbl := HMh.out.2.2.2.2; have hbw := (Array.getElem?_eq_some_iff.1 HMI.out.2.1).1; refine ⟨by rw [hWK]; exact grownBy_setNew hGg hbl, by rw [hWK]; exact heap_setCell_same _ _ 1 _ _ _ hbj, ho'.apart O (fun k hk e => ?_), (HMI.out.2.2.grown0 hGj).apart O (fun k hk e => ?_), fun x hx y hy jj hxj hyj => ?_⟩
                      · rcases hk with hk | ⟨x, hx, hxo⟩
                        · simp only [Option.some.injEq, Addr.mk.injEq, and_true] at hk
                          omega
                        · have := hvlt k (.inl (.inr ⟨x, hx, hxo⟩)); omega
                      · have := (HMh.out.2.2.2.1 k hk).2; omega
                      · have h1 := hvlt jj (.inl (.inr ⟨x, hx, hxj⟩)); have h2 := (HMh.out.2.2.2.1 jj (.inr ⟨y, hy, hyj⟩)).1
                        omega
                    have HWK : Hid (WK = wj.setCell ⟨bs, 1, none⟩ (.slice (some ⟨g7, 0, none⟩) (nG) c7)) := hWK; clear hown hgj hat hGj hbj hWK q0 q1 q2 s1 hri hr0 hr1 hr2
                    go_upto_region 48 with fail
                    rw [← HWK.out]; clear HWK j1 j2; obtain ⟨q0, q1, q2, -⟩ := (HMg.out.more HMK.out.1).cells; have hbs := HMK.out.2.1
                    have s0 : WK.cell? ⟨bs, 0, none⟩ = some (.int .i64 0) := by simp [World.cell?, hbs]
                    have s1 : WK.cell? ⟨bs, 1, none⟩ = some (.slice (some ⟨g7, 0, none⟩) (nG) c7) := by simp [World.cell?, hbs]
                    have s2 : WK.cell? ⟨bs, 2, none⟩ = some (.slice oS sS cS) := by simp [World.cell?, hbs]
                    clear hbs
                    have HSS : Hid (Calls Tryd.prog 14 #[.agg #[.int .i64 0, .slice (some ⟨g7, 0, none⟩) (nG) c7, .slice oS sS cS], .agg #[.int .i64 r.b, .slice r.ko r.K.length r.kc, .slice r.so r.S.length r.sc]] WK fun e wz => e = .returned (.bool true) ∧ WK.grownBy wz none) := by
                      have h := smService_same ⟨0, some ⟨g7, 0, none⟩, c7, r.K, oS, cS, S2⟩ r WK HMK.out.2.2 (HMg.out.more HMK.out.1).av (by simp [Sv.tell, HKL.out.2, HST.out.2]) (by
                        have hs := HKS.out.1.small; refine ⟨hs.1, ?_, hs.2.2.1, fun y hy => ?_⟩
                        · have := congrArg List.length HST.out.2; simp at this; have h2 := hs.2.1; simp only; omega
                        · obtain ⟨i, hi⟩ := List.getElem?_of_mem hy; obtain ⟨u, hu, e⟩ := tell_get HST.out.2 hi; have := hs.2.2.2 u (List.mem_of_getElem? hu); rw [(tell_eq e).2.2.2] at this
                          exact this)
                      simp only at h; rw [HKL.out.1, HST.out.1] at h; rw [HKL.out.1]; exact h
                    go_wp2_with fail; refine HSS.out.mono ?_; rintro e wz ⟨rfl, hGz⟩; have HMz : Hid (SM w wz zs g bv r (.slice (some ⟨gv, 0, none⟩) nG cv) (G ++ [x])) := (HMg.out.more HMK.out.1).more hGz; clear hGz HSS q0 q1 q2 s0 s1 s2 HMK HMI HMh HMg; go_wp2; go_roundw
                    case rel => exact ⟨k - 1, r, G ++ [x], by go_num, by have := HGL.out; simp; omega, HMz.out, HKS.out.1⟩
                    case measure => simp [intOf]; omega
                  · have t8 : ((r8 : Int) == 0) = false := by simp [hr8]
                    clear hr8; go_wp2; go_roundw
                    case rel => exact ⟨k - 1, r, G ++ [x], by go_num, by have := HGL.out; simp; omega, HMf.out, HKS.out.1⟩
                    case measure => simp [intOf]; omega
end Go.Proofs.YtdajcpcajdhplaaDoor.fnSessions
