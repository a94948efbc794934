/-
  SpR, SpL
-/
import Derived.Test.YtjnegjgpkboocaaGreatDoorWal15
/-
  The model's L3Right, walked.
-/
namespace Go.Proofs.YtjnegjgpkboocaaGreatDoor
open Go.RowKit

theorem Tryz.sizePay : (Tryz.prog.info? 81).map (·.size) = some 2 := by kernel_rfl
theorem results_pay {fn : Func} {t u : Tmp} {w : World} {g : Nat} {vs : List Value} {tmps : Array Value} (h : fn.results = #[.cell t 81, .tmp u]) (ht : tmps.getD t undef = .pointer (some ⟨g, 0, none⟩)) (hg : w.heap[g]? = some (.cells vs.toArray 81 (0, 0))) (hl : vs.length = 2) :
    (results fn tmps).run Tryz.prog w = .ok (.tuple #[.agg vs.toArray, tmps.getD u undef]) w := by
  have h1 := run_loadVar_mid (P := Tryz.prog) w g 0 81 vs _ (range_blk hg) Tryz.underlying81 rfl (by rw [hl]; exact Tryz.sizePay)
  have ht' : tmps[t]?.getD undef = .pointer (some ⟨g, 0, none⟩) := by simpa using ht
  simp [results, h, ht', h1, Result.andThen, asAddr]
theorem set_two {W : World} {b : Nat} {x y u v : Value} {t : TypeId} (h : W.heap[b]? = some (.cells #[x, y] t (0, 0))) : ((W.setCell ⟨b, 0, none⟩ u).setCell ⟨b, 1, none⟩ v).heap[b]? = some (.cells [u, v].toArray t (0, 0)) := set_blkL 1 v (set_blkL (L := [x, y]) 0 u h)
theorem sat_cases {zs : List Nat} (hb : ∀ z ∈ zs, z < 256) (hl : zs.length = 8) : (satVal zs = leVal zs ∨ (4611686018427387904 ≤ leVal zs ∧ satVal zs = 4611686018427387904)) ∧ satVal zs ≤ 4611686018427387904 := by
  have h1 := leVal_drop zs 0 (by omega); simp only [List.drop_zero, Nat.zero_add] at h1; have h2 : zs.getD 0 0 < 256 := hb _ (Crc.getD_mem _ _ (by omega))
  unfold satVal
  split
  · rename_i h
    exact ⟨.inr ⟨by omega, rfl⟩, Nat.le_refl _⟩
  · exact ⟨.inl rfl, by omega⟩
theorem own1_at {w : World} {B e n gg cap : Nat} {xs : List Value} (h : w.ownsRow B e 1 (.slice (some ⟨gg, 0, none⟩) n cap) n xs) {i : Nat} {u : Value} (hi : xs[i]? = some u) : w.cell? ⟨gg, i, none⟩ = some u := by
  obtain ⟨hl, ⟨h1, -⟩ | ⟨g, cap', cur, h1, hb, hg, hc, hm, hs, ht⟩⟩ := h
  · cases h1
  · simp only [Value.slice.injEq, Option.some.injEq, Addr.mk.injEq, and_true, true_and] at h1; obtain ⟨rfl, rfl⟩ := h1; rw [cell_of_row w gg _ _ _ _ hg]; rw [← ht, List.getElem?_take] at hi
    split at hi
    · simpa using hi
    · cases hi
/-- a right payload taken apart -/
def Pay (w : World) (lo ty : Nat) (d : List Nat) (nv rv : Value) : Prop :=
  ∃ gn cn gr cr, nv = .slice (some ⟨gn, 0, none⟩) (wb ty).length cn ∧ (∀ i, i < (wb ty).length → w.cell? ⟨gn, i, none⟩ = some (.int .i64 ((wn ty d i : Nat) : Int))) ∧ rv = .slice (some ⟨gr, 0, none⟩) (d.length - 8 * (wb ty).length) cr ∧ lo ≤ gr ∧ Own w 5 gr (d.drop (8 * (wb ty).length)) ∧ d.length - 8 * (wb ty).length ≤ cr ∧ cr ≤ maxLen ∧ lo ≤ gn
set_option maxRecDepth 8000 in
set_option maxHeartbeats 8000000 in
theorem L3Right_any (ty g cp : Nat) (d : List Nat) (w : World) (hty : ty < 256) (hsl : SlB w (some ⟨g, 0, none⟩) d.length d) (hlc : d.length ≤ cp) (hm : cp ≤ maxLen) (_hd : d.length ≤ 8192) :
    Calls Tryz.prog 33 #[.agg #[.int .i64 (ty : Int), .slice (some ⟨g, 0, none⟩) d.length cp]] w fun e w' => ∃ nv rv bo, e = .returned (.tuple #[.agg #[nv, rv], .bool bo]) ∧ (bo = true ↔ (1 ≤ ty ∧ ty ≤ 7 ∧ WOk (wb ty) (wroom ty) d)) ∧ (bo = true → Pay w' w.heap.size ty d nv rv) ∧ (bo = false → nv = .slice none 0 0 ∧ rv = .slice none 0 0) ∧ w.grownBy w' none := by
  obtain ⟨dl, hdl⟩ : ∃ x, d.length = x := ⟨_, rfl⟩; have HS : Hid (SlB w (some ⟨g, 0, none⟩) d.length d) := hsl; have HDL : Hid (d.length = dl) := hdl; rw [hdl] at hlc _hd ⊢
  unfold maxLen at hm
  clear hsl hdl
  go_enter Tryz.func33, Tryz.ntmps33
  go_wp2_with fail; have hb0 : ((w.alloc (.cells #[.int .i64 (ty : Int), .slice (some ⟨g, 0, none⟩) dl cp] 85)).alloc (.cells #[.slice none 0 0, .slice none 0 0] 81)).heap[w.heap.size]? = some (.cells #[.int .i64 (ty : Int), .slice (some ⟨g, 0, none⟩) dl cp] 85 (0, 0)) := grown_blk (World.grownBy_alloc _ _ _) (heap_alloc_new w _); have hb1 : ((w.alloc (.cells #[.int .i64 (ty : Int), .slice (some ⟨g, 0, none⟩) dl cp] 85)).alloc (.cells #[.slice none 0 0, .slice none 0 0] 81)).heap[w.heap.size + 1]? = some (.cells #[.slice none 0 0, .slice none 0 0] 81 (0, 0)) := heap_two w _ _; have hG0 : w.grownBy ((w.alloc (.cells #[.int .i64 (ty : Int), .slice (some ⟨g, 0, none⟩) dl cp] 85)).alloc (.cells #[.slice none 0 0, .slice none 0 0] 81)) none := grownBy_alloc (World.grownBy_alloc w _ _) _; generalize (w.alloc (.cells #[.int .i64 (ty : Int), .slice (some ⟨g, 0, none⟩) dl cp] 85)).alloc (.cells #[.slice none 0 0, .slice none 0 0] 81) = W0 at hb0 hb1 hG0 ⊢; refine (l3Bounds_any ty W0 hty).mono ?_; rintro e W1 ⟨bv, rfl, hB, hG1⟩; have H1 : Hid (SBd W1 bv (wb ty) ∧ W1.heap[w.heap.size]? = some (.cells #[.int .i64 (ty : Int), .slice (some ⟨g, 0, none⟩) dl cp] 85 (0, 0)) ∧ W1.heap[w.heap.size + 1]? = some (.cells #[.slice none 0 0, .slice none 0 0] 81 (0, 0)) ∧ W0.grownBy W1 none ∧ w.grownBy W1 none) := ⟨hB, grown_blk hG1 hb0, grown_blk hG1 hb1, hG1, grownBy_trans hG0 hG1⟩; have hlt1 : w.heap.size + 1 < W1.heap.size := (Array.getElem?_eq_some_iff.1 H1.out.2.2.1).1; have c0 : W1.cell? ⟨w.heap.size, 0, none⟩ = some (.int .i64 (ty : Int)) := (cell_of_row _ _ _ _ _ _ H1.out.2.1).trans rfl; have c1 : W1.cell? ⟨w.heap.size, 1, none⟩ = some (.slice (some ⟨g, 0, none⟩) dl cp) := (cell_of_row _ _ _ _ _ _ H1.out.2.1).trans rfl; have p0 : W1.cell? ⟨w.heap.size + 1, 0, none⟩ = some (.slice none 0 0) := (cell_of_row _ _ _ _ _ _ H1.out.2.2.1).trans rfl; have p1 : W1.cell? ⟨w.heap.size + 1, 1, none⟩ = some (.slice none 0 0) := (cell_of_row _ _ _ _ _ _ H1.out.2.2.1).trans rfl
  have pf : ∀ o, W1.frozen? ⟨w.heap.size + 1, o, none⟩ = false := fun o => by simp [World.frozen?, H1.out.2.2.1]
  have pf0 := pf 0; have pf1 := pf 1; clear hB hG1 hb0 hb1 hG0 pf
  by_cases h0 : ty = 0 ∨ 7 < ty
  · have HNO : Hid (¬ (1 ≤ ty ∧ ty ≤ 7)) := by show ¬ _; omega
    have t2 : ((ty : Int) == 2) = false := by simp; omega
    have t5 : ((ty : Int) == 5) = false := by simp; omega
    have hbv : bv = .slice none 0 0 := by
      rcases H1.out.1 with ⟨-, h⟩ | ⟨g', h, -, -⟩
      · exact h
      · exact absurd (wb_none h0) h
    subst hbv; clear h0; go_wp2; refine bodyPost_ret (results_pay (g := w.heap.size + 1) rfl rfl (set_two H1.out.2.2.1) rfl) rfl ⟨_, _, false, rfl, by simp; intro h1 h2; exact absurd ⟨h1, h2⟩ HNO.out, by simp, fun _ => ⟨rfl, rfl⟩, grownBy_setNew (grownBy_setNew H1.out.2.2.2.2 (Nat.le_succ _)) (Nat.le_succ _)⟩
  · have hw := wb_len (ty := ty) (by omega) (by omega)
    obtain ⟨gb, hbv, hbb⟩ : ∃ gb, bv = .slice (some ⟨gb, 0, none⟩) (wb ty).length (wb ty).length ∧ W1.heap[gb]? = some (.cells (bcs (wb ty)).toArray 108 (0, 0)) := by
      rcases H1.out.1 with ⟨h, -⟩ | ⟨g', -, h, h'⟩
      · rw [h] at hw; simp at hw
      · exact ⟨g', h, h'⟩
    obtain ⟨n, hn⟩ : ∃ n, (wb ty).length = n := ⟨_, rfl⟩; rw [hn] at hbv hw; subst hbv; have HN : Hid ((wb ty).length = n ∧ d.length = dl ∧ W1.heap[gb]? = some (.cells (bcs (wb ty)).toArray 108 (0, 0)) ∧ 1 ≤ ty ∧ ty ≤ 7) := ⟨hn, HDL.out, hbb, by omega, by omega⟩; obtain ⟨hn1, hn3⟩ := hw
    have hn0 : ((n : Int) == 0) = false := by simp; omega
    clear hn hbb h0
    rcases Classical.em (ty = 2) with h2 | h2
    · have t2 : ((ty : Int) == 2) = true := by simp; omega
      have t5 : ((ty : Int) == 5) = false := by simp; omega
      have HRM : Hid (wroom ty = 128) := by show _ = _; rw [h2]; rfl
      clear h2
      by_cases hs1 : dl < 8 * n
      · have e1 : (dl : Int) < 8 * (n : Int) := by omega
        have HB : Hid (¬ WOk (wb ty) (wroom ty) d) := fun hc => by have h9 := hc.1; rw [HN.out.1, HN.out.2.1] at h9; omega
        go_wp2; refine bodyPost_ret (results_pay (g := w.heap.size + 1) rfl rfl (set_two H1.out.2.2.1) rfl) rfl ⟨_, _, false, rfl, by simp [HB.out], by simp, fun _ => ⟨rfl, rfl⟩, grownBy_setNew (grownBy_setNew H1.out.2.2.2.2 (Nat.le_succ _)) (Nat.le_succ _)⟩
      · have e1 : ¬ (dl : Int) < 8 * (n : Int) := by omega
        by_cases hs2 : 8 * n + 128 < dl
        · have e2 : 8 * (n : Int) + 128 < (dl : Int) := by omega
          have HB : Hid (¬ WOk (wb ty) (wroom ty) d) := fun hc => by have h9 := hc.2.1; rw [HN.out.1, HN.out.2.1, HRM.out] at h9; omega
          go_wp2; refine bodyPost_ret (results_pay (g := w.heap.size + 1) rfl rfl (set_two H1.out.2.2.1) rfl) rfl ⟨_, _, false, rfl, by simp [HB.out], by simp, fun _ => ⟨rfl, rfl⟩, grownBy_setNew (grownBy_setNew H1.out.2.2.2.2 (Nat.le_succ _)) (Nat.le_succ _)⟩
        · have e2 : ¬ 8 * (n : Int) + 128 < (dl : Int) := by omega
          go_wp2; have hbP : (W1.alloc (.cells #[.slice none 0 0, .slice none 0 0] 81)).heap[W1.heap.size]? = some (.cells #[.slice none 0 0, .slice none 0 0] 81 (0, 0)) := heap_alloc_new W1 _; have hG2 : W1.grownBy (W1.alloc (.cells #[.slice none 0 0, .slice none 0 0] 81)) none := World.grownBy_alloc W1 _ _; generalize W1.alloc (.cells #[.slice none 0 0, .slice none 0 0] 81) = W2 at hbP hG2 ⊢; obtain ⟨P, hP⟩ : ∃ P, W1.heap.size = P := ⟨_, rfl⟩; rw [hP] at hbP hlt1 ⊢; have hP2 : P < W2.heap.size := (Array.getElem?_eq_some_iff.1 hbP).1; have H2 : Hid (W2.heap[P]? = some (.cells #[.slice none 0 0, .slice none 0 0] 81 (0, 0)) ∧ W1.grownBy W2 none ∧ w.grownBy W2 none ∧ W1.heap.size = P) := ⟨hbP, hG2, grownBy_trans H1.out.2.2.2.2 hG2, hP⟩; clear hbP hG2 hP c0 c1 p0 p1 pf0 pf1 t2 t5 hn0
          go_loopw [46] (fun i wr => ∃ (k : Nat) (nv : Value), k ≤ n ∧ i = .int .i64 (k : Int) ∧ okTo (wb ty) d k ∧ wr.heap[P]? = some (.cells #[nv, .slice none 0 0] 81 (0, 0)) ∧ wr.ownsRow W2.heap.size 3 1 nv k (ivs ((List.range k).map (wnum d))) ∧ W2.grownBy wr (some P)) (fun i _ => n - (intOf i).toNat)
          case atStart => exact ⟨0, _, Nat.zero_le _, rfl, fun i b hi => absurd hi (by omega), H2.out.1, World.ownsRow_nil _ _ _ _, grownBy_refl _ _⟩
          case round =>
            obtain ⟨k, nv, hk, rfl, hok, hbP, hoS, hGr⟩ := hrel; have hGw : w.grownBy wr none := grownBy_new H2.out.2.2.1 hGr (by omega); have HR : Hid (okTo (wb ty) d k ∧ wr.heap[P]? = some (.cells #[nv, .slice none 0 0] 81 (0, 0)) ∧ wr.ownsRow W2.heap.size 3 1 nv k (ivs ((List.range k).map (wnum d))) ∧ W2.grownBy wr (some P) ∧ w.grownBy wr none) := ⟨hok, hbP, hoS, hGr, hGw⟩; have hszr := hGr.size; have hr0 : wr.heap[w.heap.size]? = some (.cells #[.int .i64 (ty : Int), .slice (some ⟨g, 0, none⟩) dl cp] 85 (0, 0)) := (hGr.block _ (by omega) (by simp; omega)).trans (grown_blk H2.out.2.1 H1.out.2.1); have hr1 : wr.heap[w.heap.size + 1]? = some (.cells #[.slice none 0 0, .slice none 0 0] 81 (0, 0)) := (hGr.block _ (by omega) (by simp; omega)).trans (grown_blk H2.out.2.1 H1.out.2.2.1); have HR0 : Hid (wr.heap[w.heap.size]? = some (.cells #[.int .i64 (ty : Int), .slice (some ⟨g, 0, none⟩) dl cp] 85 (0, 0)) ∧ wr.heap[w.heap.size + 1]? = some (.cells #[.slice none 0 0, .slice none 0 0] 81 (0, 0))) := ⟨hr0, hr1⟩; have c1 : wr.cell? ⟨w.heap.size, 1, none⟩ = some (.slice (some ⟨g, 0, none⟩) dl cp) := (cell_of_row _ _ _ _ _ _ hr0).trans rfl; clear hok hbP hoS hr0 hr1
            by_cases hlt : k < n
            · obtain ⟨x, hx⟩ : ∃ x, (wb ty)[k]? = some x := ⟨_, List.getElem?_eq_getElem (by rw [HN.out.1]; exact hlt)⟩; obtain ⟨lo, hi⟩ := x; have hxb := wb_small HN.out.2.2.2.1 HN.out.2.2.2.2 _ (List.mem_of_getElem? hx)
              have hgb : gb < P := by rw [← H2.out.2.2.2]; exact (Array.getElem?_eq_some_iff.1 HN.out.2.2.1).1
              have hgw : wr.heap[gb]? = some (.cells (bcs (wb ty)).toArray 108 (0, 0)) := (hGr.block gb (by omega) (by simp; omega)).trans (grown_blk H2.out.2.1 HN.out.2.2.1)
              have q0 : wr.cell? ⟨gb, k * 2, none⟩ = some (.int .i64 (lo : Int)) := by rw [cell_of_row wr gb _ _ _ _ hgw]; simpa using (bcs_get hx).1
              have q1 : wr.cell? ⟨gb, k * 2 + 1, none⟩ = some (.int .i64 (hi : Int)) := by rw [cell_of_row wr gb _ _ _ _ hgw]; simpa using (bcs_get hx).2
              have HX : Hid ((wb ty)[k]? = some (lo, hi)) := hx; have hl1 : lo ≤ 1073741824 := hxb.1; have hl2 : hi ≤ 1073741824 := hxb.2; have hsw := HS.out.grown0 hGw; rw [HDL.out] at hsw
              have HL2 : Hid (∀ w' : World, wr.grownBy w' none → Calls Tryz.prog 50 #[.slice (some ⟨g, 8 * k, none⟩) 8 (cp - 8 * k)] w' fun e w'' => e = .returned (.int .i64 ((satVal ((d.drop (8 * k)).take 8) : Nat) : Int)) ∧ w'' = w') := fun w' hg' => by
                have hcut := slb_cut (hsw.grown0 hg') (8 * k) 8 (by omega); simp only [Nat.zero_add] at hcut; exact l2Get_any _ 8 _ _ _ hcut (by omega)
              have HSC : Hid ((satVal ((d.drop (8 * k)).take 8) = wnum d k ∨ (4611686018427387904 ≤ wnum d k ∧ satVal ((d.drop (8 * k)).take 8) = 4611686018427387904)) ∧ satVal ((d.drop (8 * k)).take 8) ≤ 4611686018427387904) := sat_cases (fun z hz => HS.out.2.1 z (List.mem_of_mem_drop (List.mem_of_mem_take hz))) (by simp; have := HDL.out; omega); clear hx hxb hgw hsw hGw hGr
              have hkI : (k : Int) < (n : Int) := by omega
              have z1 : ¬ cp = 8 * k := by omega
              have z2 : 8 * (k : Int) + 8 ≤ (cp : Int) := by omega
              have z3 : (0 : Int) ≤ 8 * (k : Int) := by omega
              have z4 : 8 * (k : Int) ≤ 8 * (k : Int) + 8 := by omega
              have hwr : w.heap.size < wr.heap.size := by omega
              have hwr2 : ¬ w.heap.size = wr.heap.size := by omega
              have c1' : (wr.alloc (.cells #[.int .i64 (lo : Int), .int .i64 (hi : Int)] 108)).cell? ⟨w.heap.size, 1, none⟩ = some (.slice (some ⟨g, 0, none⟩) dl cp) := ((bcell (World.grownBy_alloc wr (.cells #[.int .i64 (lo : Int), .int .i64 (hi : Int)] 108) none)).1 _ _ (cell_block_lt c1)).trans c1; go_wp2_with fail; refine (HL2.out _ (World.grownBy_alloc _ _ _)).mono ?_; rintro e w1 ⟨rfl, hw1⟩; subst hw1; clear HL2 c1' q0 q1 z1 z2 z3 z4; have hA := World.grownBy_alloc wr (.cells #[.int .i64 (lo : Int), .int .i64 (hi : Int)] 108) none; have hnew : (wr.alloc (.cells #[.int .i64 (lo : Int), .int .i64 (hi : Int)] 108)).heap[wr.heap.size]? = some (.cells #[.int .i64 (lo : Int), .int .i64 (hi : Int)] 108 (0, 0)) := heap_alloc_new wr _; have hPx := grown_blk hA HR.out.2.1; have hox := own1_grown HR.out.2.2.1 hA; have hrx := grown_blk hA HR0.out.2; generalize wr.alloc (.cells #[.int .i64 (lo : Int), .int .i64 (hi : Int)] 108) = X at hA hnew hPx hox hrx ⊢; have s0 : X.cell? ⟨wr.heap.size, 0, none⟩ = some (.int .i64 (lo : Int)) := (cell_of_row _ _ _ _ _ _ hnew).trans rfl; have s1 : X.cell? ⟨wr.heap.size, 1, none⟩ = some (.int .i64 (hi : Int)) := (cell_of_row _ _ _ _ _ _ hnew).trans rfl; have r0 : X.cell? ⟨P, 0, none⟩ = some nv := (cell_of_row _ _ _ _ _ _ hPx).trans rfl; have p0 : X.cell? ⟨w.heap.size + 1, 0, none⟩ = some (.slice none 0 0) := (cell_of_row _ _ _ _ _ _ hrx).trans rfl; have p1 : X.cell? ⟨w.heap.size + 1, 1, none⟩ = some (.slice none 0 0) := (cell_of_row _ _ _ _ _ _ hrx).trans rfl
              have pf0 : X.frozen? ⟨w.heap.size + 1, 0, none⟩ = false := by simp [World.frozen?, hrx]
              have pf1 : X.frozen? ⟨w.heap.size + 1, 1, none⟩ = false := by simp [World.frozen?, hrx]
              have HXX : Hid (X.heap[P]? = some (.cells #[nv, .slice none 0 0] 81 (0, 0)) ∧ X.ownsRow W2.heap.size 3 1 nv k (ivs ((List.range k).map (wnum d))) ∧ wr.grownBy X none ∧ X.heap[w.heap.size + 1]? = some (.cells #[.slice none 0 0, .slice none 0 0] 81 (0, 0))) := ⟨hPx, hox, hA, hrx⟩; have hxs := hA.size; have hltX : wr.heap.size < X.heap.size := (Array.getElem?_eq_some_iff.1 hnew).1; obtain ⟨v, hv⟩ : ∃ v, satVal ((d.drop (8 * k)).take 8) = v := ⟨_, rfl⟩; rw [hv] at HSC ⊢; have hvb : v ≤ 4611686018427387904 := HSC.out.2; clear hA hnew hPx hox hrx c1 hv
              by_cases hv1 : v < lo
              · have f1 : (v : Int) < (lo : Int) := by omega
                have HB : Hid (¬ WOk (wb ty) (wroom ty) d) := fun hc => by
                  have h9 := hc.2.2 k _ (by rw [HN.out.1]; exact hlt) HX.out; simp only [inb, Bool.and_eq_true, decide_eq_true_eq] at h9
                  rcases HSC.out.1 with h | ⟨h, h'⟩ <;> omega
                go_wp2; refine bodyPost_ret (results_pay (g := w.heap.size + 1) rfl rfl (set_two HXX.out.2.2.2) rfl) rfl ⟨_, _, false, rfl, by simp [HB.out], by simp, fun _ => ⟨rfl, rfl⟩, grownBy_setNew (grownBy_setNew (grownBy_trans HR.out.2.2.2.2 HXX.out.2.2.1) (Nat.le_succ _)) (Nat.le_succ _)⟩
              · have f1 : ¬ (v : Int) < (lo : Int) := by omega
                by_cases hv2 : hi < v
                · have f2 : (hi : Int) < (v : Int) := by omega
                  have HB : Hid (¬ WOk (wb ty) (wroom ty) d) := fun hc => by
                    have h9 := hc.2.2 k _ (by rw [HN.out.1]; exact hlt) HX.out; simp only [inb, Bool.and_eq_true, decide_eq_true_eq] at h9
                    rcases HSC.out.1 with h | ⟨h, h'⟩ <;> omega
                  go_wp2; refine bodyPost_ret (results_pay (g := w.heap.size + 1) rfl rfl (set_two HXX.out.2.2.2) rfl) rfl ⟨_, _, false, rfl, by simp [HB.out], by simp, fun _ => ⟨rfl, rfl⟩, grownBy_setNew (grownBy_setNew (grownBy_trans HR.out.2.2.2.2 HXX.out.2.2.1) (Nat.le_succ _)) (Nat.le_succ _)⟩
                · have f2 : ¬ (hi : Int) < (v : Int) := by omega
                  have HVW : Hid (wnum d k = v) := by
                    show _ = _
                    rcases HSC.out.1 with h | ⟨h, h'⟩ <;> omega
                  have HOK : Hid (okTo (wb ty) d (k + 1)) := fun i b hi' hb' => by
                    rcases Nat.lt_or_ge i k with h9 | h9
                    · exact HR.out.1 i b h9 hb'
                    · obtain rfl : i = k := by omega
                      rw [HX.out] at hb'
                      cases hb'
                      rw [HVW.out]
                      simp [inb]
                      omega
                  have hvs : v ≤ 1073741824 := by omega
                  clear hvb HSC; obtain ⟨i0, hi0, hz0, hz1, hz2'⟩ := info_parts Tryz.infoIntW
                  go_wp2_with (at_builtin; refine wpList_append_own _ rfl _ _ 25 rfl W2.heap.size 3 i0 (.int .i64 0) 1 8 Tryz.underlying25 hi0 hz0 hz1 hz2' rfl (by decide) nv k (ivs ((List.range k).map (wnum d))) rfl (by exact own1_grown HXX.out.2.1 (World.grownBy_alloc _ _ _)) ⟨X.heap.size, 0, none⟩ 1 1 [.int .i64 (v : Int)] rfl rfl ?c1 ?c2 ?c3 ?c4 ?c5 ?_)
                  case c1 =>
                    intro j u hj; have hX : (X.alloc (.cells #[.int .i64 (v : Int)] 3)).heap[X.heap.size]? = some (.cells #[.int .i64 (v : Int)] 3 (0, 0)) := heap_alloc_new X _
                    match j, hj with
                    | 0, hj => simp at hj; subst hj; exact (cell_of_row _ _ _ _ _ _ hX).trans rfl
                  case c2 => intro u hu; simp at hu; subst hu; rfl
                  case c3 => unfold maxLen; omega
                  case c4 => omega
                  case c5 => first | omega | (simp; omega)
                  intro v' w5 hown' hgrow _; obtain ⟨g5, cap5, rfl⟩ := own1_succ hown'; have hPk : w5.heap[P]? = some (.cells #[nv, .slice none 0 0] 81 (0, 0)) := (hgrow.block P (by simp; omega) (fun hc => by have := own1_base HXX.out.2.1 hc.symm; omega)).trans ((Below.heap_alloc _ _ _ (by omega)).trans HXX.out.1)
                  have HF : Hid ((w5.setCell ⟨P, 0, none⟩ (.slice (some ⟨g5, 0, none⟩) (k + 1) cap5)).heap[P]? = some (.cells #[.slice (some ⟨g5, 0, none⟩) (k + 1) cap5, .slice none 0 0] 81 (0, 0)) ∧ (w5.setCell ⟨P, 0, none⟩ (.slice (some ⟨g5, 0, none⟩) (k + 1) cap5)).ownsRow W2.heap.size 3 1 (.slice (some ⟨g5, 0, none⟩) (k + 1) cap5) (k + 1) (ivs ((List.range (k + 1)).map (wnum d))) ∧ W2.grownBy (w5.setCell ⟨P, 0, none⟩ (.slice (some ⟨g5, 0, none⟩) (k + 1) cap5)) (some P)) := by
                    refine ⟨set_blkL (L := [nv, .slice none 0 0]) 0 _ hPk, ?_, grownBy_setCell ?_⟩
                    · rw [List.range_succ]; simp only [ivs, List.map_append, List.map_cons, List.map_nil]; rw [HVW.out]; exact own1_set hown' (by omega)
                    · have g1 : W2.grownBy X (some P) := grownBy_trans HR.out.2.2.2.1 (grownBy_weak HXX.out.2.2.1); have g2 : W2.grownBy (X.alloc (.cells #[.int .i64 (v : Int)] 3)) (some P) := grownBy_alloc g1 _; exact ⟨hgrow.os.trans g2.os, hgrow.tape.trans g2.tape, hgrow.output.trans g2.output, Nat.le_trans g2.size hgrow.size, fun q hq hne => (hgrow.block q (Nat.lt_of_lt_of_le hq g2.size) (fun hc => by have := own1_base HXX.out.2.1 hc.symm; omega)).trans (g2.block q hq hne)⟩
                  have pc4 : w5.cell? ⟨P, 0, none⟩ = some nv := (cell_of_row _ _ _ _ _ _ hPk).trans rfl
                  have pf4 : w5.frozen? ⟨P, 0, none⟩ = false := by simp [World.frozen?, hPk]
                  have v1 : IntKind.i64.wrap ((k : Int) + 1) = (k : Int) + 1 := IntWalk.i64_in _ (by omega); clear hown' hgrow hPk s0 s1 r0 p0 p1 pf0 pf1; go_wp2; go_roundw
                  case rel => exact ⟨k + 1, _, hlt, by go_num, HOK.out, HF.out.1, HF.out.2.1, HF.out.2.2⟩
                  case measure => simp [intOf]; omega
            · obtain rfl : n = k := by omega
              have hkI : ¬ (n : Int) < (n : Int) := by omega
              have hsw := HS.out.grown0 HR.out.2.2.2.2; rw [HDL.out] at hsw
              have hM : dl - 8 * n = dl - 8 * n := by omega
              have hrest : SlB wr (if cp = 8 * n then some (⟨g, 0, none⟩ : Addr) else some ⟨g, 8 * n, none⟩) (dl - 8 * n) (d.drop (8 * n)) := by
                have h1 := hsw.cut (8 * n) (dl - 8 * n) cp (by omega) hlc; simp only [Nat.zero_add] at h1; rw [List.take_of_length_le (by simp; have := HDL.out; omega)] at h1
                first | exact h1 | (rw [hM] at h1; exact h1)
              have HSW : Hid (SlB wr (if cp = 8 * n then some (⟨g, 0, none⟩ : Addr) else some ⟨g, 8 * n, none⟩) (dl - 8 * n) (d.drop (8 * n))) := hrest
              obtain ⟨nc, hnv⟩ : ∃ x : Nat × Nat, nv = .slice (some ⟨x.1, 0, none⟩) n x.2 := by
                have h9 := HR.out.2.2.1; obtain ⟨n', rfl⟩ : ∃ n', n = n' + 1 := ⟨n - 1, by omega⟩; obtain ⟨a9, b9, h8⟩ := own1_succ h9; exact ⟨(a9, b9), h8⟩
              obtain ⟨gn, cn⟩ := nc; simp only at hnv; subst hnv
              have HCN : Hid (∀ i, i < n → wr.cell? ⟨gn, i, none⟩ = some (.int .i64 ((wn ty d i : Nat) : Int))) := fun i hi => by
                have h8 := own1_at HR.out.2.2.1 (i := i) (u := .int .i64 ((wnum d i : Nat) : Int)) (by simp [ivs, hi]); rw [h8, wn, fld, if_pos ⟨by rw [HN.out.1]; exact hi, by rw [HN.out.1]; exact hi⟩]
              have hgnB := own1_base HR.out.2.2.1 (g := gn) rfl; have hgnl : gn < wr.heap.size := cell_block_lt (HCN.out 0 (by omega)); clear hrest hsw hGw hGr hlt; obtain ⟨i0, TB⟩ := byteT
              have z2 : 8 * (n : Int) ≤ (dl : Int) := by omega
              have z3 : (dl : Int) ≤ (cp : Int) := by omega
              have z4 : (0 : Int) ≤ 8 * (n : Int) := by omega
              have hwr : w.heap.size < wr.heap.size := by omega
              have hwr2 : ¬ w.heap.size = wr.heap.size := by omega
              go_wp2_with (at_builtin; refine wpList_append_b (by rfl) (.tmp 78) (.tmp 82) TB (by rfl) (base := wr.heap.size) (g := wr.heap.size) (n := 0) (cap := 0) (xs := []) (by rfl) (by exact World.ownsRow_made wr #[] 0 (Nat.le_refl _) (Nat.zero_le _) rfl) (oa := (if cp = 8 * n then some (⟨g, 0, none⟩ : Addr) else some ⟨g, 8 * n, none⟩)) (m := dl - 8 * n) (c := cp - 8 * n) (zs := d.drop (8 * n)) (by rfl) (by exact HSW.out.grown0 (World.grownBy_alloc _ _ _)) (by omega) (by simp) ?_)
              all_goals
                intro gr cr w5 hown' hgr hat hsz5; have hgr' := hgr.out; have hPk : w5.heap[P]? = some (.cells #[.slice (some ⟨gn, 0, none⟩) n cn, .slice none 0 0] 81 (0, 0)) := (hgr'.block P (by simp; omega) (by simp; omega)).trans ((Below.heap_alloc _ _ _ (by omega)).trans HR.out.2.1); have hZ5 : w5.heap[w.heap.size + 1]? = some (.cells #[.slice none 0 0, .slice none 0 0] 81 (0, 0)) := (hgr'.block _ (by simp; omega) (by simp; omega)).trans ((Below.heap_alloc _ _ _ (by omega)).trans HR0.out.2)
                have h1 : w5.ownsRow wr.heap.size 5 1 (.slice (some ⟨gr, 0, none⟩) (dl - 8 * n) cr) (dl - 8 * n) ((d.drop (8 * n)).map bv) := by simpa using hown'.out
                have HO5 : Hid (Own w5 5 gr (d.drop (8 * n)) ∧ (dl - 8 * n ≤ cr ∧ cr ≤ maxLen) ∧ wr.heap.size ≤ gr ∧ w.grownBy w5 none ∧ (∀ i, i < n → w5.cell? ⟨gn, i, none⟩ = some (.int .i64 ((wn ty d i : Nat) : Int)))) := ⟨own_made h1 (fun z hz => HS.out.2.1 z (List.mem_of_mem_drop hz)), ownsRow_caps2 h1, (h1.lt gr rfl).1, grown_next hgr' (grownBy_alloc HR.out.2.2.2.2 _) ⟨rfl, rfl, rfl, rfl⟩ (by omega), fun i hi => (World.cell?_of_block (w := wr) (a := ⟨gn, i, none⟩) ((hgr'.block gn (by simp; omega) (by simp; omega)).trans (Below.heap_alloc _ _ _ hgnl))).trans (HCN.out i hi)⟩; have b1 : w5.cell? ⟨P, 1, none⟩ = some (.slice none 0 0) := (cell_of_row _ _ _ _ _ _ hPk).trans rfl; have b0 : w5.cell? ⟨P, 0, none⟩ = some (.slice (some ⟨gn, 0, none⟩) n cn) := (cell_of_row _ _ _ _ _ _ hPk).trans rfl
                have bf : w5.frozen? ⟨P, 1, none⟩ = false := by simp [World.frozen?, hPk]
                have HW6 : Hid ((w5.setCell ⟨P, 1, none⟩ (.slice (some ⟨gr, 0, none⟩) (dl - 8 * n) cr)).heap[P]? = some (.cells #[.slice (some ⟨gn, 0, none⟩) n cn, .slice (some ⟨gr, 0, none⟩) (dl - 8 * n) cr] 81 (0, 0)) ∧ (w5.setCell ⟨P, 1, none⟩ (.slice (some ⟨gr, 0, none⟩) (dl - 8 * n) cr)).heap[w.heap.size + 1]? = some (.cells #[.slice none 0 0, .slice none 0 0] 81 (0, 0))) := ⟨set_blkL (L := [.slice (some ⟨gn, 0, none⟩) n cn, .slice none 0 0]) 1 _ hPk, set_oth 1 _ (by omega) hZ5⟩; clear hown' hgr hgr' hPk hZ5 h1 hat
                go_upto_region 20 with fail
                have p0 : (w5.setCell ⟨P, 1, none⟩ (.slice (some ⟨gr, 0, none⟩) (dl - 8 * n) cr)).cell? ⟨P, 0, none⟩ = some (.slice (some ⟨gn, 0, none⟩) n cn) := (cell_of_row _ _ _ _ _ _ HW6.out.1).trans rfl; have p1 : (w5.setCell ⟨P, 1, none⟩ (.slice (some ⟨gr, 0, none⟩) (dl - 8 * n) cr)).cell? ⟨P, 1, none⟩ = some (.slice (some ⟨gr, 0, none⟩) (dl - 8 * n) cr) := (cell_of_row _ _ _ _ _ _ HW6.out.1).trans rfl; have r0 : (w5.setCell ⟨P, 1, none⟩ (.slice (some ⟨gr, 0, none⟩) (dl - 8 * n) cr)).cell? ⟨w.heap.size + 1, 0, none⟩ = some (.slice none 0 0) := (cell_of_row _ _ _ _ _ _ HW6.out.2).trans rfl; have r1 : (w5.setCell ⟨P, 1, none⟩ (.slice (some ⟨gr, 0, none⟩) (dl - 8 * n) cr)).cell? ⟨w.heap.size + 1, 1, none⟩ = some (.slice none 0 0) := (cell_of_row _ _ _ _ _ _ HW6.out.2).trans rfl
                have rf : ∀ o, (w5.setCell ⟨P, 1, none⟩ (.slice (some ⟨gr, 0, none⟩) (dl - 8 * n) cr)).frozen? ⟨w.heap.size + 1, o, none⟩ = false := fun o => by simp only [World.frozen?, HW6.out.2]; rfl
                have HG6 : Hid (w.grownBy (w5.setCell ⟨P, 1, none⟩ (.slice (some ⟨gr, 0, none⟩) (dl - 8 * n) cr)) none ∧ (∀ i, i < n → (w5.setCell ⟨P, 1, none⟩ (.slice (some ⟨gr, 0, none⟩) (dl - 8 * n) cr)).cell? ⟨gn, i, none⟩ = some (.int .i64 ((wn ty d i : Nat) : Int))) ∧ Own (w5.setCell ⟨P, 1, none⟩ (.slice (some ⟨gr, 0, none⟩) (dl - 8 * n) cr)) 5 gr (d.drop (8 * n))) := ⟨grownBy_setNew HO5.out.2.2.2.1 (by show w.heap.size ≤ P; omega), fun i hi => (World.cell?_of_block (heap_setCell_other w5 ⟨P, 1, none⟩ gn _ (by show gn ≠ P; omega))).trans (HO5.out.2.2.2.2 i hi), HO5.out.1.of_block (heap_setCell_other w5 ⟨P, 1, none⟩ gr _ (by show gr ≠ P; have := HO5.out.2.2.1; omega))⟩; generalize w5.setCell ⟨P, 1, none⟩ (.slice (some ⟨gr, 0, none⟩) (dl - 8 * n) cr) = W6 at HW6 p0 p1 r0 r1 rf HG6 ⊢; have rf0 := rf 0; have rf1 := rf 1; clear rf b0 b1 bf; go_wp2; refine bodyPost_ret (results_pay (g := w.heap.size + 1) rfl rfl (set_two HW6.out.2) rfl) rfl ?_; refine ⟨_, _, true, rfl, ⟨fun _ => ⟨HN.out.2.2.2.1, HN.out.2.2.2.2, by rw [HN.out.1, HDL.out]; omega, by rw [HN.out.1, HDL.out, HRM.out]; omega, by rw [HN.out.1]; exact HR.out.1⟩, fun _ => rfl⟩, fun _ => ⟨gn, cn, gr, cr, by rw [HN.out.1], ?_, by rw [HN.out.1, HDL.out]; try rw [hM], by have := HO5.out.2.2.1; omega, ?_, by rw [HN.out.1, HDL.out]; have := HO5.out.2.1.1; omega, HO5.out.2.1.2, by omega⟩, by simp, grownBy_setNew (grownBy_setNew HG6.out.1 (Nat.le_succ _)) (Nat.le_succ _)⟩
                · rw [HN.out.1]; intro i hi; refine (World.cell?_of_block (w := W6) (a := ⟨gn, i, none⟩) ?_).trans (HG6.out.2.1 i hi); exact (heap_setCell_other _ ⟨w.heap.size + 1, 1, none⟩ gn _ (by show gn ≠ w.heap.size + 1; omega)).trans (heap_setCell_other _ ⟨w.heap.size + 1, 0, none⟩ gn _ (by show gn ≠ w.heap.size + 1; omega))
                · rw [HN.out.1]; exact HG6.out.2.2.of_block ((heap_setCell_other _ ⟨w.heap.size + 1, 1, none⟩ gr _ (by show gr ≠ w.heap.size + 1; have := HO5.out.2.2.1; omega)).trans (heap_setCell_other _ ⟨w.heap.size + 1, 0, none⟩ gr _ (by show gr ≠ w.heap.size + 1; have := HO5.out.2.2.1; omega)))
    · rcases Classical.em (ty = 5) with h5 | h5
      · have t2 : ((ty : Int) == 2) = false := by simp; omega
        have t5 : ((ty : Int) == 5) = true := by simp; omega
        have HRM : Hid (wroom ty = 8000) := by show _ = _; rw [h5]; rfl
        clear h2 h5
        by_cases hs1 : dl < 8 * n
        · have e1 : (dl : Int) < 8 * (n : Int) := by omega
          have HB : Hid (¬ WOk (wb ty) (wroom ty) d) := fun hc => by have h9 := hc.1; rw [HN.out.1, HN.out.2.1] at h9; omega
          go_wp2; refine bodyPost_ret (results_pay (g := w.heap.size + 1) rfl rfl (set_two H1.out.2.2.1) rfl) rfl ⟨_, _, false, rfl, by simp [HB.out], by simp, fun _ => ⟨rfl, rfl⟩, grownBy_setNew (grownBy_setNew H1.out.2.2.2.2 (Nat.le_succ _)) (Nat.le_succ _)⟩
        · have e1 : ¬ (dl : Int) < 8 * (n : Int) := by omega
          by_cases hs2 : 8 * n + 8000 < dl
          · have e2 : 8 * (n : Int) + 8000 < (dl : Int) := by omega
            have HB : Hid (¬ WOk (wb ty) (wroom ty) d) := fun hc => by have h9 := hc.2.1; rw [HN.out.1, HN.out.2.1, HRM.out] at h9; omega
            go_wp2; refine bodyPost_ret (results_pay (g := w.heap.size + 1) rfl rfl (set_two H1.out.2.2.1) rfl) rfl ⟨_, _, false, rfl, by simp [HB.out], by simp, fun _ => ⟨rfl, rfl⟩, grownBy_setNew (grownBy_setNew H1.out.2.2.2.2 (Nat.le_succ _)) (Nat.le_succ _)⟩
          · have e2 : ¬ 8 * (n : Int) + 8000 < (dl : Int) := by omega
            go_wp2; have hbP : (W1.alloc (.cells #[.slice none 0 0, .slice none 0 0] 81)).heap[W1.heap.size]? = some (.cells #[.slice none 0 0, .slice none 0 0] 81 (0, 0)) := heap_alloc_new W1 _; have hG2 : W1.grownBy (W1.alloc (.cells #[.slice none 0 0, .slice none 0 0] 81)) none := World.grownBy_alloc W1 _ _; generalize W1.alloc (.cells #[.slice none 0 0, .slice none 0 0] 81) = W2 at hbP hG2 ⊢; obtain ⟨P, hP⟩ : ∃ P, W1.heap.size = P := ⟨_, rfl⟩; rw [hP] at hbP hlt1 ⊢; have hP2 : P < W2.heap.size := (Array.getElem?_eq_some_iff.1 hbP).1; have H2 : Hid (W2.heap[P]? = some (.cells #[.slice none 0 0, .slice none 0 0] 81 (0, 0)) ∧ W1.grownBy W2 none ∧ w.grownBy W2 none ∧ W1.heap.size = P) := ⟨hbP, hG2, grownBy_trans H1.out.2.2.2.2 hG2, hP⟩; clear hbP hG2 hP c0 c1 p0 p1 pf0 pf1 t2 t5 hn0
            go_loopw [46] (fun i wr => ∃ (k : Nat) (nv : Value), k ≤ n ∧ i = .int .i64 (k : Int) ∧ okTo (wb ty) d k ∧ wr.heap[P]? = some (.cells #[nv, .slice none 0 0] 81 (0, 0)) ∧ wr.ownsRow W2.heap.size 3 1 nv k (ivs ((List.range k).map (wnum d))) ∧ W2.grownBy wr (some P)) (fun i _ => n - (intOf i).toNat)
            case atStart => exact ⟨0, _, Nat.zero_le _, rfl, fun i b hi => absurd hi (by omega), H2.out.1, World.ownsRow_nil _ _ _ _, grownBy_refl _ _⟩
            case round =>
              obtain ⟨k, nv, hk, rfl, hok, hbP, hoS, hGr⟩ := hrel; have hGw : w.grownBy wr none := grownBy_new H2.out.2.2.1 hGr (by omega); have HR : Hid (okTo (wb ty) d k ∧ wr.heap[P]? = some (.cells #[nv, .slice none 0 0] 81 (0, 0)) ∧ wr.ownsRow W2.heap.size 3 1 nv k (ivs ((List.range k).map (wnum d))) ∧ W2.grownBy wr (some P) ∧ w.grownBy wr none) := ⟨hok, hbP, hoS, hGr, hGw⟩; have hszr := hGr.size; have hr0 : wr.heap[w.heap.size]? = some (.cells #[.int .i64 (ty : Int), .slice (some ⟨g, 0, none⟩) dl cp] 85 (0, 0)) := (hGr.block _ (by omega) (by simp; omega)).trans (grown_blk H2.out.2.1 H1.out.2.1); have hr1 : wr.heap[w.heap.size + 1]? = some (.cells #[.slice none 0 0, .slice none 0 0] 81 (0, 0)) := (hGr.block _ (by omega) (by simp; omega)).trans (grown_blk H2.out.2.1 H1.out.2.2.1); have HR0 : Hid (wr.heap[w.heap.size]? = some (.cells #[.int .i64 (ty : Int), .slice (some ⟨g, 0, none⟩) dl cp] 85 (0, 0)) ∧ wr.heap[w.heap.size + 1]? = some (.cells #[.slice none 0 0, .slice none 0 0] 81 (0, 0))) := ⟨hr0, hr1⟩; have c1 : wr.cell? ⟨w.heap.size, 1, none⟩ = some (.slice (some ⟨g, 0, none⟩) dl cp) := (cell_of_row _ _ _ _ _ _ hr0).trans rfl; clear hok hbP hoS hr0 hr1
              by_cases hlt : k < n
              · obtain ⟨x, hx⟩ : ∃ x, (wb ty)[k]? = some x := ⟨_, List.getElem?_eq_getElem (by rw [HN.out.1]; exact hlt)⟩; obtain ⟨lo, hi⟩ := x; have hxb := wb_small HN.out.2.2.2.1 HN.out.2.2.2.2 _ (List.mem_of_getElem? hx)
                have hgb : gb < P := by rw [← H2.out.2.2.2]; exact (Array.getElem?_eq_some_iff.1 HN.out.2.2.1).1
                have hgw : wr.heap[gb]? = some (.cells (bcs (wb ty)).toArray 108 (0, 0)) := (hGr.block gb (by omega) (by simp; omega)).trans (grown_blk H2.out.2.1 HN.out.2.2.1)
                have q0 : wr.cell? ⟨gb, k * 2, none⟩ = some (.int .i64 (lo : Int)) := by rw [cell_of_row wr gb _ _ _ _ hgw]; simpa using (bcs_get hx).1
                have q1 : wr.cell? ⟨gb, k * 2 + 1, none⟩ = some (.int .i64 (hi : Int)) := by rw [cell_of_row wr gb _ _ _ _ hgw]; simpa using (bcs_get hx).2
                have HX : Hid ((wb ty)[k]? = some (lo, hi)) := hx; have hl1 : lo ≤ 1073741824 := hxb.1; have hl2 : hi ≤ 1073741824 := hxb.2; have hsw := HS.out.grown0 hGw; rw [HDL.out] at hsw
                have HL2 : Hid (∀ w' : World, wr.grownBy w' none → Calls Tryz.prog 50 #[.slice (some ⟨g, 8 * k, none⟩) 8 (cp - 8 * k)] w' fun e w'' => e = .returned (.int .i64 ((satVal ((d.drop (8 * k)).take 8) : Nat) : Int)) ∧ w'' = w') := fun w' hg' => by
                  have hcut := slb_cut (hsw.grown0 hg') (8 * k) 8 (by omega); simp only [Nat.zero_add] at hcut; exact l2Get_any _ 8 _ _ _ hcut (by omega)
                have HSC : Hid ((satVal ((d.drop (8 * k)).take 8) = wnum d k ∨ (4611686018427387904 ≤ wnum d k ∧ satVal ((d.drop (8 * k)).take 8) = 4611686018427387904)) ∧ satVal ((d.drop (8 * k)).take 8) ≤ 4611686018427387904) := sat_cases (fun z hz => HS.out.2.1 z (List.mem_of_mem_drop (List.mem_of_mem_take hz))) (by simp; have := HDL.out; omega); clear hx hxb hgw hsw hGw hGr
                have hkI : (k : Int) < (n : Int) := by omega
                have z1 : ¬ cp = 8 * k := by omega
                have z2 : 8 * (k : Int) + 8 ≤ (cp : Int) := by omega
                have z3 : (0 : Int) ≤ 8 * (k : Int) := by omega
                have z4 : 8 * (k : Int) ≤ 8 * (k : Int) + 8 := by omega
                have hwr : w.heap.size < wr.heap.size := by omega
                have hwr2 : ¬ w.heap.size = wr.heap.size := by omega
                have c1' : (wr.alloc (.cells #[.int .i64 (lo : Int), .int .i64 (hi : Int)] 108)).cell? ⟨w.heap.size, 1, none⟩ = some (.slice (some ⟨g, 0, none⟩) dl cp) := ((bcell (World.grownBy_alloc wr (.cells #[.int .i64 (lo : Int), .int .i64 (hi : Int)] 108) none)).1 _ _ (cell_block_lt c1)).trans c1; go_wp2_with fail; refine (HL2.out _ (World.grownBy_alloc _ _ _)).mono ?_; rintro e w1 ⟨rfl, hw1⟩; subst hw1; clear HL2 c1' q0 q1 z1 z2 z3 z4; have hA := World.grownBy_alloc wr (.cells #[.int .i64 (lo : Int), .int .i64 (hi : Int)] 108) none; have hnew : (wr.alloc (.cells #[.int .i64 (lo : Int), .int .i64 (hi : Int)] 108)).heap[wr.heap.size]? = some (.cells #[.int .i64 (lo : Int), .int .i64 (hi : Int)] 108 (0, 0)) := heap_alloc_new wr _; have hPx := grown_blk hA HR.out.2.1; have hox := own1_grown HR.out.2.2.1 hA; have hrx := grown_blk hA HR0.out.2; generalize wr.alloc (.cells #[.int .i64 (lo : Int), .int .i64 (hi : Int)] 108) = X at hA hnew hPx hox hrx ⊢; have s0 : X.cell? ⟨wr.heap.size, 0, none⟩ = some (.int .i64 (lo : Int)) := (cell_of_row _ _ _ _ _ _ hnew).trans rfl; have s1 : X.cell? ⟨wr.heap.size, 1, none⟩ = some (.int .i64 (hi : Int)) := (cell_of_row _ _ _ _ _ _ hnew).trans rfl; have r0 : X.cell? ⟨P, 0, none⟩ = some nv := (cell_of_row _ _ _ _ _ _ hPx).trans rfl; have p0 : X.cell? ⟨w.heap.size + 1, 0, none⟩ = some (.slice none 0 0) := (cell_of_row _ _ _ _ _ _ hrx).trans rfl; have p1 : X.cell? ⟨w.heap.size + 1, 1, none⟩ = some (.slice none 0 0) := (cell_of_row _ _ _ _ _ _ hrx).trans rfl
                have pf0 : X.frozen? ⟨w.heap.size + 1, 0, none⟩ = false := by simp [World.frozen?, hrx]
                have pf1 : X.frozen? ⟨w.heap.size + 1, 1, none⟩ = false := by simp [World.frozen?, hrx]
                have HXX : Hid (X.heap[P]? = some (.cells #[nv, .slice none 0 0] 81 (0, 0)) ∧ X.ownsRow W2.heap.size 3 1 nv k (ivs ((List.range k).map (wnum d))) ∧ wr.grownBy X none ∧ X.heap[w.heap.size + 1]? = some (.cells #[.slice none 0 0, .slice none 0 0] 81 (0, 0))) := ⟨hPx, hox, hA, hrx⟩; have hxs := hA.size; have hltX : wr.heap.size < X.heap.size := (Array.getElem?_eq_some_iff.1 hnew).1; obtain ⟨v, hv⟩ : ∃ v, satVal ((d.drop (8 * k)).take 8) = v := ⟨_, rfl⟩; rw [hv] at HSC ⊢; have hvb : v ≤ 4611686018427387904 := HSC.out.2; clear hA hnew hPx hox hrx c1 hv
                by_cases hv1 : v < lo
                · have f1 : (v : Int) < (lo : Int) := by omega
                  have HB : Hid (¬ WOk (wb ty) (wroom ty) d) := fun hc => by
                    have h9 := hc.2.2 k _ (by rw [HN.out.1]; exact hlt) HX.out; simp only [inb, Bool.and_eq_true, decide_eq_true_eq] at h9
                    rcases HSC.out.1 with h | ⟨h, h'⟩ <;> omega
                  go_wp2; refine bodyPost_ret (results_pay (g := w.heap.size + 1) rfl rfl (set_two HXX.out.2.2.2) rfl) rfl ⟨_, _, false, rfl, by simp [HB.out], by simp, fun _ => ⟨rfl, rfl⟩, grownBy_setNew (grownBy_setNew (grownBy_trans HR.out.2.2.2.2 HXX.out.2.2.1) (Nat.le_succ _)) (Nat.le_succ _)⟩
                · have f1 : ¬ (v : Int) < (lo : Int) := by omega
                  by_cases hv2 : hi < v
                  · have f2 : (hi : Int) < (v : Int) := by omega
                    have HB : Hid (¬ WOk (wb ty) (wroom ty) d) := fun hc => by
                      have h9 := hc.2.2 k _ (by rw [HN.out.1]; exact hlt) HX.out; simp only [inb, Bool.and_eq_true, decide_eq_true_eq] at h9
                      rcases HSC.out.1 with h | ⟨h, h'⟩ <;> omega
                    go_wp2; refine bodyPost_ret (results_pay (g := w.heap.size + 1) rfl rfl (set_two HXX.out.2.2.2) rfl) rfl ⟨_, _, false, rfl, by simp [HB.out], by simp, fun _ => ⟨rfl, rfl⟩, grownBy_setNew (grownBy_setNew (grownBy_trans HR.out.2.2.2.2 HXX.out.2.2.1) (Nat.le_succ _)) (Nat.le_succ _)⟩
                  · have f2 : ¬ (hi : Int) < (v : Int) := by omega
                    have HVW : Hid (wnum d k = v) := by
                      show _ = _
                      rcases HSC.out.1 with h | ⟨h, h'⟩ <;> omega
                    have HOK : Hid (okTo (wb ty) d (k + 1)) := fun i b hi' hb' => by
                      rcases Nat.lt_or_ge i k with h9 | h9
                      · exact HR.out.1 i b h9 hb'
                      · obtain rfl : i = k := by omega
                        rw [HX.out] at hb'
                        cases hb'
                        rw [HVW.out]
                        simp [inb]
                        omega
                    have hvs : v ≤ 1073741824 := by omega
                    clear hvb HSC; obtain ⟨i0, hi0, hz0, hz1, hz2'⟩ := info_parts Tryz.infoIntW
                    go_wp2_with (at_builtin; refine wpList_append_own _ rfl _ _ 25 rfl W2.heap.size 3 i0 (.int .i64 0) 1 8 Tryz.underlying25 hi0 hz0 hz1 hz2' rfl (by decide) nv k (ivs ((List.range k).map (wnum d))) rfl (by exact own1_grown HXX.out.2.1 (World.grownBy_alloc _ _ _)) ⟨X.heap.size, 0, none⟩ 1 1 [.int .i64 (v : Int)] rfl rfl ?c1 ?c2 ?c3 ?c4 ?c5 ?_)
                    case c1 =>
                      intro j u hj; have hX : (X.alloc (.cells #[.int .i64 (v : Int)] 3)).heap[X.heap.size]? = some (.cells #[.int .i64 (v : Int)] 3 (0, 0)) := heap_alloc_new X _
                      match j, hj with
                      | 0, hj => simp at hj; subst hj; exact (cell_of_row _ _ _ _ _ _ hX).trans rfl
                    case c2 => intro u hu; simp at hu; subst hu; rfl
                    case c3 => unfold maxLen; omega
                    case c4 => omega
                    case c5 => first | omega | (simp; omega)
                    intro v' w5 hown' hgrow _; obtain ⟨g5, cap5, rfl⟩ := own1_succ hown'; have hPk : w5.heap[P]? = some (.cells #[nv, .slice none 0 0] 81 (0, 0)) := (hgrow.block P (by simp; omega) (fun hc => by have := own1_base HXX.out.2.1 hc.symm; omega)).trans ((Below.heap_alloc _ _ _ (by omega)).trans HXX.out.1)
                    have HF : Hid ((w5.setCell ⟨P, 0, none⟩ (.slice (some ⟨g5, 0, none⟩) (k + 1) cap5)).heap[P]? = some (.cells #[.slice (some ⟨g5, 0, none⟩) (k + 1) cap5, .slice none 0 0] 81 (0, 0)) ∧ (w5.setCell ⟨P, 0, none⟩ (.slice (some ⟨g5, 0, none⟩) (k + 1) cap5)).ownsRow W2.heap.size 3 1 (.slice (some ⟨g5, 0, none⟩) (k + 1) cap5) (k + 1) (ivs ((List.range (k + 1)).map (wnum d))) ∧ W2.grownBy (w5.setCell ⟨P, 0, none⟩ (.slice (some ⟨g5, 0, none⟩) (k + 1) cap5)) (some P)) := by
                      refine ⟨set_blkL (L := [nv, .slice none 0 0]) 0 _ hPk, ?_, grownBy_setCell ?_⟩
                      · rw [List.range_succ]; simp only [ivs, List.map_append, List.map_cons, List.map_nil]; rw [HVW.out]; exact own1_set hown' (by omega)
                      · have g1 : W2.grownBy X (some P) := grownBy_trans HR.out.2.2.2.1 (grownBy_weak HXX.out.2.2.1); have g2 : W2.grownBy (X.alloc (.cells #[.int .i64 (v : Int)] 3)) (some P) := grownBy_alloc g1 _; exact ⟨hgrow.os.trans g2.os, hgrow.tape.trans g2.tape, hgrow.output.trans g2.output, Nat.le_trans g2.size hgrow.size, fun q hq hne => (hgrow.block q (Nat.lt_of_lt_of_le hq g2.size) (fun hc => by have := own1_base HXX.out.2.1 hc.symm; omega)).trans (g2.block q hq hne)⟩
                    have pc4 : w5.cell? ⟨P, 0, none⟩ = some nv := (cell_of_row _ _ _ _ _ _ hPk).trans rfl
                    have pf4 : w5.frozen? ⟨P, 0, none⟩ = false := by simp [World.frozen?, hPk]
                    have v1 : IntKind.i64.wrap ((k : Int) + 1) = (k : Int) + 1 := IntWalk.i64_in _ (by omega); clear hown' hgrow hPk s0 s1 r0 p0 p1 pf0 pf1; go_wp2; go_roundw
                    case rel => exact ⟨k + 1, _, hlt, by go_num, HOK.out, HF.out.1, HF.out.2.1, HF.out.2.2⟩
                    case measure => simp [intOf]; omega
              · obtain rfl : n = k := by omega
                have hkI : ¬ (n : Int) < (n : Int) := by omega
                have hsw := HS.out.grown0 HR.out.2.2.2.2; rw [HDL.out] at hsw
                have hM : dl - 8 * n = dl - 8 * n := by omega
                have hrest : SlB wr (if cp = 8 * n then some (⟨g, 0, none⟩ : Addr) else some ⟨g, 8 * n, none⟩) (dl - 8 * n) (d.drop (8 * n)) := by
                  have h1 := hsw.cut (8 * n) (dl - 8 * n) cp (by omega) hlc; simp only [Nat.zero_add] at h1; rw [List.take_of_length_le (by simp; have := HDL.out; omega)] at h1
                  first | exact h1 | (rw [hM] at h1; exact h1)
                have HSW : Hid (SlB wr (if cp = 8 * n then some (⟨g, 0, none⟩ : Addr) else some ⟨g, 8 * n, none⟩) (dl - 8 * n) (d.drop (8 * n))) := hrest
                obtain ⟨nc, hnv⟩ : ∃ x : Nat × Nat, nv = .slice (some ⟨x.1, 0, none⟩) n x.2 := by
                  have h9 := HR.out.2.2.1; obtain ⟨n', rfl⟩ : ∃ n', n = n' + 1 := ⟨n - 1, by omega⟩; obtain ⟨a9, b9, h8⟩ := own1_succ h9; exact ⟨(a9, b9), h8⟩
                obtain ⟨gn, cn⟩ := nc; simp only at hnv; subst hnv
                have HCN : Hid (∀ i, i < n → wr.cell? ⟨gn, i, none⟩ = some (.int .i64 ((wn ty d i : Nat) : Int))) := fun i hi => by
                  have h8 := own1_at HR.out.2.2.1 (i := i) (u := .int .i64 ((wnum d i : Nat) : Int)) (by simp [ivs, hi]); rw [h8, wn, fld, if_pos ⟨by rw [HN.out.1]; exact hi, by rw [HN.out.1]; exact hi⟩]
                have hgnB := own1_base HR.out.2.2.1 (g := gn) rfl; have hgnl : gn < wr.heap.size := cell_block_lt (HCN.out 0 (by omega)); clear hrest hsw hGw hGr hlt; obtain ⟨i0, TB⟩ := byteT
                have z2 : 8 * (n : Int) ≤ (dl : Int) := by omega
                have z3 : (dl : Int) ≤ (cp : Int) := by omega
                have z4 : (0 : Int) ≤ 8 * (n : Int) := by omega
                have hwr : w.heap.size < wr.heap.size := by omega
                have hwr2 : ¬ w.heap.size = wr.heap.size := by omega
                go_wp2_with (at_builtin; refine wpList_append_b (by rfl) (.tmp 78) (.tmp 82) TB (by rfl) (base := wr.heap.size) (g := wr.heap.size) (n := 0) (cap := 0) (xs := []) (by rfl) (by exact World.ownsRow_made wr #[] 0 (Nat.le_refl _) (Nat.zero_le _) rfl) (oa := (if cp = 8 * n then some (⟨g, 0, none⟩ : Addr) else some ⟨g, 8 * n, none⟩)) (m := dl - 8 * n) (c := cp - 8 * n) (zs := d.drop (8 * n)) (by rfl) (by exact HSW.out.grown0 (World.grownBy_alloc _ _ _)) (by omega) (by simp) ?_)
                all_goals
                  intro gr cr w5 hown' hgr hat hsz5; have hgr' := hgr.out; have hPk : w5.heap[P]? = some (.cells #[.slice (some ⟨gn, 0, none⟩) n cn, .slice none 0 0] 81 (0, 0)) := (hgr'.block P (by simp; omega) (by simp; omega)).trans ((Below.heap_alloc _ _ _ (by omega)).trans HR.out.2.1); have hZ5 : w5.heap[w.heap.size + 1]? = some (.cells #[.slice none 0 0, .slice none 0 0] 81 (0, 0)) := (hgr'.block _ (by simp; omega) (by simp; omega)).trans ((Below.heap_alloc _ _ _ (by omega)).trans HR0.out.2)
                  have h1 : w5.ownsRow wr.heap.size 5 1 (.slice (some ⟨gr, 0, none⟩) (dl - 8 * n) cr) (dl - 8 * n) ((d.drop (8 * n)).map bv) := by simpa using hown'.out
                  have HO5 : Hid (Own w5 5 gr (d.drop (8 * n)) ∧ (dl - 8 * n ≤ cr ∧ cr ≤ maxLen) ∧ wr.heap.size ≤ gr ∧ w.grownBy w5 none ∧ (∀ i, i < n → w5.cell? ⟨gn, i, none⟩ = some (.int .i64 ((wn ty d i : Nat) : Int)))) := ⟨own_made h1 (fun z hz => HS.out.2.1 z (List.mem_of_mem_drop hz)), ownsRow_caps2 h1, (h1.lt gr rfl).1, grown_next hgr' (grownBy_alloc HR.out.2.2.2.2 _) ⟨rfl, rfl, rfl, rfl⟩ (by omega), fun i hi => (World.cell?_of_block (w := wr) (a := ⟨gn, i, none⟩) ((hgr'.block gn (by simp; omega) (by simp; omega)).trans (Below.heap_alloc _ _ _ hgnl))).trans (HCN.out i hi)⟩; have b1 : w5.cell? ⟨P, 1, none⟩ = some (.slice none 0 0) := (cell_of_row _ _ _ _ _ _ hPk).trans rfl; have b0 : w5.cell? ⟨P, 0, none⟩ = some (.slice (some ⟨gn, 0, none⟩) n cn) := (cell_of_row _ _ _ _ _ _ hPk).trans rfl
                  have bf : w5.frozen? ⟨P, 1, none⟩ = false := by simp [World.frozen?, hPk]
                  have HW6 : Hid ((w5.setCell ⟨P, 1, none⟩ (.slice (some ⟨gr, 0, none⟩) (dl - 8 * n) cr)).heap[P]? = some (.cells #[.slice (some ⟨gn, 0, none⟩) n cn, .slice (some ⟨gr, 0, none⟩) (dl - 8 * n) cr] 81 (0, 0)) ∧ (w5.setCell ⟨P, 1, none⟩ (.slice (some ⟨gr, 0, none⟩) (dl - 8 * n) cr)).heap[w.heap.size + 1]? = some (.cells #[.slice none 0 0, .slice none 0 0] 81 (0, 0))) := ⟨set_blkL (L := [.slice (some ⟨gn, 0, none⟩) n cn, .slice none 0 0]) 1 _ hPk, set_oth 1 _ (by omega) hZ5⟩; clear hown' hgr hgr' hPk hZ5 h1 hat
                  go_upto_region 20 with fail
                  have p0 : (w5.setCell ⟨P, 1, none⟩ (.slice (some ⟨gr, 0, none⟩) (dl - 8 * n) cr)).cell? ⟨P, 0, none⟩ = some (.slice (some ⟨gn, 0, none⟩) n cn) := (cell_of_row _ _ _ _ _ _ HW6.out.1).trans rfl; have p1 : (w5.setCell ⟨P, 1, none⟩ (.slice (some ⟨gr, 0, none⟩) (dl - 8 * n) cr)).cell? ⟨P, 1, none⟩ = some (.slice (some ⟨gr, 0, none⟩) (dl - 8 * n) cr) := (cell_of_row _ _ _ _ _ _ HW6.out.1).trans rfl; have r0 : (w5.setCell ⟨P, 1, none⟩ (.slice (some ⟨gr, 0, none⟩) (dl - 8 * n) cr)).cell? ⟨w.heap.size + 1, 0, none⟩ = some (.slice none 0 0) := (cell_of_row _ _ _ _ _ _ HW6.out.2).trans rfl; have r1 : (w5.setCell ⟨P, 1, none⟩ (.slice (some ⟨gr, 0, none⟩) (dl - 8 * n) cr)).cell? ⟨w.heap.size + 1, 1, none⟩ = some (.slice none 0 0) := (cell_of_row _ _ _ _ _ _ HW6.out.2).trans rfl
                  have rf : ∀ o, (w5.setCell ⟨P, 1, none⟩ (.slice (some ⟨gr, 0, none⟩) (dl - 8 * n) cr)).frozen? ⟨w.heap.size + 1, o, none⟩ = false := fun o => by simp only [World.frozen?, HW6.out.2]; rfl
                  have HG6 : Hid (w.grownBy (w5.setCell ⟨P, 1, none⟩ (.slice (some ⟨gr, 0, none⟩) (dl - 8 * n) cr)) none ∧ (∀ i, i < n → (w5.setCell ⟨P, 1, none⟩ (.slice (some ⟨gr, 0, none⟩) (dl - 8 * n) cr)).cell? ⟨gn, i, none⟩ = some (.int .i64 ((wn ty d i : Nat) : Int))) ∧ Own (w5.setCell ⟨P, 1, none⟩ (.slice (some ⟨gr, 0, none⟩) (dl - 8 * n) cr)) 5 gr (d.drop (8 * n))) := ⟨grownBy_setNew HO5.out.2.2.2.1 (by show w.heap.size ≤ P; omega), fun i hi => (World.cell?_of_block (heap_setCell_other w5 ⟨P, 1, none⟩ gn _ (by show gn ≠ P; omega))).trans (HO5.out.2.2.2.2 i hi), HO5.out.1.of_block (heap_setCell_other w5 ⟨P, 1, none⟩ gr _ (by show gr ≠ P; have := HO5.out.2.2.1; omega))⟩; generalize w5.setCell ⟨P, 1, none⟩ (.slice (some ⟨gr, 0, none⟩) (dl - 8 * n) cr) = W6 at HW6 p0 p1 r0 r1 rf HG6 ⊢; have rf0 := rf 0; have rf1 := rf 1; clear rf b0 b1 bf; go_wp2; refine bodyPost_ret (results_pay (g := w.heap.size + 1) rfl rfl (set_two HW6.out.2) rfl) rfl ?_; refine ⟨_, _, true, rfl, ⟨fun _ => ⟨HN.out.2.2.2.1, HN.out.2.2.2.2, by rw [HN.out.1, HDL.out]; omega, by rw [HN.out.1, HDL.out, HRM.out]; omega, by rw [HN.out.1]; exact HR.out.1⟩, fun _ => rfl⟩, fun _ => ⟨gn, cn, gr, cr, by rw [HN.out.1], ?_, by rw [HN.out.1, HDL.out]; try rw [hM], by have := HO5.out.2.2.1; omega, ?_, by rw [HN.out.1, HDL.out]; have := HO5.out.2.1.1; omega, HO5.out.2.1.2, by omega⟩, by simp, grownBy_setNew (grownBy_setNew HG6.out.1 (Nat.le_succ _)) (Nat.le_succ _)⟩
                  · rw [HN.out.1]; intro i hi; refine (World.cell?_of_block (w := W6) (a := ⟨gn, i, none⟩) ?_).trans (HG6.out.2.1 i hi); exact (heap_setCell_other _ ⟨w.heap.size + 1, 1, none⟩ gn _ (by show gn ≠ w.heap.size + 1; omega)).trans (heap_setCell_other _ ⟨w.heap.size + 1, 0, none⟩ gn _ (by show gn ≠ w.heap.size + 1; omega))
                  · rw [HN.out.1]; exact HG6.out.2.2.of_block ((heap_setCell_other _ ⟨w.heap.size + 1, 1, none⟩ gr _ (by show gr ≠ w.heap.size + 1; have := HO5.out.2.2.1; omega)).trans (heap_setCell_other _ ⟨w.heap.size + 1, 0, none⟩ gr _ (by show gr ≠ w.heap.size + 1; have := HO5.out.2.2.1; omega)))
      · have t2 : ((ty : Int) == 2) = false := by simp; omega
        have t5 : ((ty : Int) == 5) = false := by simp; omega
        have HRM : Hid (wroom ty = 0) := by show _ = _; unfold wroom; split <;> first | omega | rfl
        clear h2 h5
        by_cases hs1 : dl < 8 * n
        · have e1 : (dl : Int) < 8 * (n : Int) := by omega
          have HB : Hid (¬ WOk (wb ty) (wroom ty) d) := fun hc => by have h9 := hc.1; rw [HN.out.1, HN.out.2.1] at h9; omega
          go_wp2; refine bodyPost_ret (results_pay (g := w.heap.size + 1) rfl rfl (set_two H1.out.2.2.1) rfl) rfl ⟨_, _, false, rfl, by simp [HB.out], by simp, fun _ => ⟨rfl, rfl⟩, grownBy_setNew (grownBy_setNew H1.out.2.2.2.2 (Nat.le_succ _)) (Nat.le_succ _)⟩
        · have e1 : ¬ (dl : Int) < 8 * (n : Int) := by omega
          by_cases hs2 : 8 * n < dl
          · have e2 : 8 * (n : Int) < (dl : Int) := by omega
            have HB : Hid (¬ WOk (wb ty) (wroom ty) d) := fun hc => by have h9 := hc.2.1; rw [HN.out.1, HN.out.2.1, HRM.out] at h9; omega
            go_wp2; refine bodyPost_ret (results_pay (g := w.heap.size + 1) rfl rfl (set_two H1.out.2.2.1) rfl) rfl ⟨_, _, false, rfl, by simp [HB.out], by simp, fun _ => ⟨rfl, rfl⟩, grownBy_setNew (grownBy_setNew H1.out.2.2.2.2 (Nat.le_succ _)) (Nat.le_succ _)⟩
          · have e2 : ¬ 8 * (n : Int) < (dl : Int) := by omega
            go_wp2; have hbP : (W1.alloc (.cells #[.slice none 0 0, .slice none 0 0] 81)).heap[W1.heap.size]? = some (.cells #[.slice none 0 0, .slice none 0 0] 81 (0, 0)) := heap_alloc_new W1 _; have hG2 : W1.grownBy (W1.alloc (.cells #[.slice none 0 0, .slice none 0 0] 81)) none := World.grownBy_alloc W1 _ _; generalize W1.alloc (.cells #[.slice none 0 0, .slice none 0 0] 81) = W2 at hbP hG2 ⊢; obtain ⟨P, hP⟩ : ∃ P, W1.heap.size = P := ⟨_, rfl⟩; rw [hP] at hbP hlt1 ⊢; have hP2 : P < W2.heap.size := (Array.getElem?_eq_some_iff.1 hbP).1; have H2 : Hid (W2.heap[P]? = some (.cells #[.slice none 0 0, .slice none 0 0] 81 (0, 0)) ∧ W1.grownBy W2 none ∧ w.grownBy W2 none ∧ W1.heap.size = P) := ⟨hbP, hG2, grownBy_trans H1.out.2.2.2.2 hG2, hP⟩; clear hbP hG2 hP c0 c1 p0 p1 pf0 pf1 t2 t5 hn0
            go_loopw [46] (fun i wr => ∃ (k : Nat) (nv : Value), k ≤ n ∧ i = .int .i64 (k : Int) ∧ okTo (wb ty) d k ∧ wr.heap[P]? = some (.cells #[nv, .slice none 0 0] 81 (0, 0)) ∧ wr.ownsRow W2.heap.size 3 1 nv k (ivs ((List.range k).map (wnum d))) ∧ W2.grownBy wr (some P)) (fun i _ => n - (intOf i).toNat)
            case atStart => exact ⟨0, _, Nat.zero_le _, rfl, fun i b hi => absurd hi (by omega), H2.out.1, World.ownsRow_nil _ _ _ _, grownBy_refl _ _⟩
            case round =>
              obtain ⟨k, nv, hk, rfl, hok, hbP, hoS, hGr⟩ := hrel; have hGw : w.grownBy wr none := grownBy_new H2.out.2.2.1 hGr (by omega); have HR : Hid (okTo (wb ty) d k ∧ wr.heap[P]? = some (.cells #[nv, .slice none 0 0] 81 (0, 0)) ∧ wr.ownsRow W2.heap.size 3 1 nv k (ivs ((List.range k).map (wnum d))) ∧ W2.grownBy wr (some P) ∧ w.grownBy wr none) := ⟨hok, hbP, hoS, hGr, hGw⟩; have hszr := hGr.size; have hr0 : wr.heap[w.heap.size]? = some (.cells #[.int .i64 (ty : Int), .slice (some ⟨g, 0, none⟩) dl cp] 85 (0, 0)) := (hGr.block _ (by omega) (by simp; omega)).trans (grown_blk H2.out.2.1 H1.out.2.1); have hr1 : wr.heap[w.heap.size + 1]? = some (.cells #[.slice none 0 0, .slice none 0 0] 81 (0, 0)) := (hGr.block _ (by omega) (by simp; omega)).trans (grown_blk H2.out.2.1 H1.out.2.2.1); have HR0 : Hid (wr.heap[w.heap.size]? = some (.cells #[.int .i64 (ty : Int), .slice (some ⟨g, 0, none⟩) dl cp] 85 (0, 0)) ∧ wr.heap[w.heap.size + 1]? = some (.cells #[.slice none 0 0, .slice none 0 0] 81 (0, 0))) := ⟨hr0, hr1⟩; have c1 : wr.cell? ⟨w.heap.size, 1, none⟩ = some (.slice (some ⟨g, 0, none⟩) dl cp) := (cell_of_row _ _ _ _ _ _ hr0).trans rfl; clear hok hbP hoS hr0 hr1
              by_cases hlt : k < n
              · obtain ⟨x, hx⟩ : ∃ x, (wb ty)[k]? = some x := ⟨_, List.getElem?_eq_getElem (by rw [HN.out.1]; exact hlt)⟩; obtain ⟨lo, hi⟩ := x; have hxb := wb_small HN.out.2.2.2.1 HN.out.2.2.2.2 _ (List.mem_of_getElem? hx)
                have hgb : gb < P := by rw [← H2.out.2.2.2]; exact (Array.getElem?_eq_some_iff.1 HN.out.2.2.1).1
                have hgw : wr.heap[gb]? = some (.cells (bcs (wb ty)).toArray 108 (0, 0)) := (hGr.block gb (by omega) (by simp; omega)).trans (grown_blk H2.out.2.1 HN.out.2.2.1)
                have q0 : wr.cell? ⟨gb, k * 2, none⟩ = some (.int .i64 (lo : Int)) := by rw [cell_of_row wr gb _ _ _ _ hgw]; simpa using (bcs_get hx).1
                have q1 : wr.cell? ⟨gb, k * 2 + 1, none⟩ = some (.int .i64 (hi : Int)) := by rw [cell_of_row wr gb _ _ _ _ hgw]; simpa using (bcs_get hx).2
                have HX : Hid ((wb ty)[k]? = some (lo, hi)) := hx; have hl1 : lo ≤ 1073741824 := hxb.1; have hl2 : hi ≤ 1073741824 := hxb.2; have hsw := HS.out.grown0 hGw; rw [HDL.out] at hsw
                have HL2 : Hid (∀ w' : World, wr.grownBy w' none → Calls Tryz.prog 50 #[.slice (some ⟨g, 8 * k, none⟩) 8 (cp - 8 * k)] w' fun e w'' => e = .returned (.int .i64 ((satVal ((d.drop (8 * k)).take 8) : Nat) : Int)) ∧ w'' = w') := fun w' hg' => by
                  have hcut := slb_cut (hsw.grown0 hg') (8 * k) 8 (by omega); simp only [Nat.zero_add] at hcut; exact l2Get_any _ 8 _ _ _ hcut (by omega)
                have HSC : Hid ((satVal ((d.drop (8 * k)).take 8) = wnum d k ∨ (4611686018427387904 ≤ wnum d k ∧ satVal ((d.drop (8 * k)).take 8) = 4611686018427387904)) ∧ satVal ((d.drop (8 * k)).take 8) ≤ 4611686018427387904) := sat_cases (fun z hz => HS.out.2.1 z (List.mem_of_mem_drop (List.mem_of_mem_take hz))) (by simp; have := HDL.out; omega); clear hx hxb hgw hsw hGw hGr
                have hkI : (k : Int) < (n : Int) := by omega
                have z1 : ¬ cp = 8 * k := by omega
                have z2 : 8 * (k : Int) + 8 ≤ (cp : Int) := by omega
                have z3 : (0 : Int) ≤ 8 * (k : Int) := by omega
                have z4 : 8 * (k : Int) ≤ 8 * (k : Int) + 8 := by omega
                have hwr : w.heap.size < wr.heap.size := by omega
                have hwr2 : ¬ w.heap.size = wr.heap.size := by omega
                have c1' : (wr.alloc (.cells #[.int .i64 (lo : Int), .int .i64 (hi : Int)] 108)).cell? ⟨w.heap.size, 1, none⟩ = some (.slice (some ⟨g, 0, none⟩) dl cp) := ((bcell (World.grownBy_alloc wr (.cells #[.int .i64 (lo : Int), .int .i64 (hi : Int)] 108) none)).1 _ _ (cell_block_lt c1)).trans c1; go_wp2_with fail; refine (HL2.out _ (World.grownBy_alloc _ _ _)).mono ?_; rintro e w1 ⟨rfl, hw1⟩; subst hw1; clear HL2 c1' q0 q1 z1 z2 z3 z4; have hA := World.grownBy_alloc wr (.cells #[.int .i64 (lo : Int), .int .i64 (hi : Int)] 108) none; have hnew : (wr.alloc (.cells #[.int .i64 (lo : Int), .int .i64 (hi : Int)] 108)).heap[wr.heap.size]? = some (.cells #[.int .i64 (lo : Int), .int .i64 (hi : Int)] 108 (0, 0)) := heap_alloc_new wr _; have hPx := grown_blk hA HR.out.2.1; have hox := own1_grown HR.out.2.2.1 hA; have hrx := grown_blk hA HR0.out.2; generalize wr.alloc (.cells #[.int .i64 (lo : Int), .int .i64 (hi : Int)] 108) = X at hA hnew hPx hox hrx ⊢; have s0 : X.cell? ⟨wr.heap.size, 0, none⟩ = some (.int .i64 (lo : Int)) := (cell_of_row _ _ _ _ _ _ hnew).trans rfl; have s1 : X.cell? ⟨wr.heap.size, 1, none⟩ = some (.int .i64 (hi : Int)) := (cell_of_row _ _ _ _ _ _ hnew).trans rfl; have r0 : X.cell? ⟨P, 0, none⟩ = some nv := (cell_of_row _ _ _ _ _ _ hPx).trans rfl; have p0 : X.cell? ⟨w.heap.size + 1, 0, none⟩ = some (.slice none 0 0) := (cell_of_row _ _ _ _ _ _ hrx).trans rfl; have p1 : X.cell? ⟨w.heap.size + 1, 1, none⟩ = some (.slice none 0 0) := (cell_of_row _ _ _ _ _ _ hrx).trans rfl
                have pf0 : X.frozen? ⟨w.heap.size + 1, 0, none⟩ = false := by simp [World.frozen?, hrx]
                have pf1 : X.frozen? ⟨w.heap.size + 1, 1, none⟩ = false := by simp [World.frozen?, hrx]
                have HXX : Hid (X.heap[P]? = some (.cells #[nv, .slice none 0 0] 81 (0, 0)) ∧ X.ownsRow W2.heap.size 3 1 nv k (ivs ((List.range k).map (wnum d))) ∧ wr.grownBy X none ∧ X.heap[w.heap.size + 1]? = some (.cells #[.slice none 0 0, .slice none 0 0] 81 (0, 0))) := ⟨hPx, hox, hA, hrx⟩; have hxs := hA.size; have hltX : wr.heap.size < X.heap.size := (Array.getElem?_eq_some_iff.1 hnew).1; obtain ⟨v, hv⟩ : ∃ v, satVal ((d.drop (8 * k)).take 8) = v := ⟨_, rfl⟩; rw [hv] at HSC ⊢; have hvb : v ≤ 4611686018427387904 := HSC.out.2; clear hA hnew hPx hox hrx c1 hv
                by_cases hv1 : v < lo
                · have f1 : (v : Int) < (lo : Int) := by omega
                  have HB : Hid (¬ WOk (wb ty) (wroom ty) d) := fun hc => by
                    have h9 := hc.2.2 k _ (by rw [HN.out.1]; exact hlt) HX.out; simp only [inb, Bool.and_eq_true, decide_eq_true_eq] at h9
                    rcases HSC.out.1 with h | ⟨h, h'⟩ <;> omega
                  go_wp2; refine bodyPost_ret (results_pay (g := w.heap.size + 1) rfl rfl (set_two HXX.out.2.2.2) rfl) rfl ⟨_, _, false, rfl, by simp [HB.out], by simp, fun _ => ⟨rfl, rfl⟩, grownBy_setNew (grownBy_setNew (grownBy_trans HR.out.2.2.2.2 HXX.out.2.2.1) (Nat.le_succ _)) (Nat.le_succ _)⟩
                · have f1 : ¬ (v : Int) < (lo : Int) := by omega
                  by_cases hv2 : hi < v
                  · have f2 : (hi : Int) < (v : Int) := by omega
                    have HB : Hid (¬ WOk (wb ty) (wroom ty) d) := fun hc => by
                      have h9 := hc.2.2 k _ (by rw [HN.out.1]; exact hlt) HX.out; simp only [inb, Bool.and_eq_true, decide_eq_true_eq] at h9
                      rcases HSC.out.1 with h | ⟨h, h'⟩ <;> omega
                    go_wp2; refine bodyPost_ret (results_pay (g := w.heap.size + 1) rfl rfl (set_two HXX.out.2.2.2) rfl) rfl ⟨_, _, false, rfl, by simp [HB.out], by simp, fun _ => ⟨rfl, rfl⟩, grownBy_setNew (grownBy_setNew (grownBy_trans HR.out.2.2.2.2 HXX.out.2.2.1) (Nat.le_succ _)) (Nat.le_succ _)⟩
                  · have f2 : ¬ (hi : Int) < (v : Int) := by omega
                    have HVW : Hid (wnum d k = v) := by
                      show _ = _
                      rcases HSC.out.1 with h | ⟨h, h'⟩ <;> omega
                    have HOK : Hid (okTo (wb ty) d (k + 1)) := fun i b hi' hb' => by
                      rcases Nat.lt_or_ge i k with h9 | h9
                      · exact HR.out.1 i b h9 hb'
                      · obtain rfl : i = k := by omega
                        rw [HX.out] at hb'
                        cases hb'
                        rw [HVW.out]
                        simp [inb]
                        omega
                    have hvs : v ≤ 1073741824 := by omega
                    clear hvb HSC; obtain ⟨i0, hi0, hz0, hz1, hz2'⟩ := info_parts Tryz.infoIntW
                    go_wp2_with (at_builtin; refine wpList_append_own _ rfl _ _ 25 rfl W2.heap.size 3 i0 (.int .i64 0) 1 8 Tryz.underlying25 hi0 hz0 hz1 hz2' rfl (by decide) nv k (ivs ((List.range k).map (wnum d))) rfl (by exact own1_grown HXX.out.2.1 (World.grownBy_alloc _ _ _)) ⟨X.heap.size, 0, none⟩ 1 1 [.int .i64 (v : Int)] rfl rfl ?c1 ?c2 ?c3 ?c4 ?c5 ?_)
                    case c1 =>
                      intro j u hj; have hX : (X.alloc (.cells #[.int .i64 (v : Int)] 3)).heap[X.heap.size]? = some (.cells #[.int .i64 (v : Int)] 3 (0, 0)) := heap_alloc_new X _
                      match j, hj with
                      | 0, hj => simp at hj; subst hj; exact (cell_of_row _ _ _ _ _ _ hX).trans rfl
                    case c2 => intro u hu; simp at hu; subst hu; rfl
                    case c3 => unfold maxLen; omega
                    case c4 => omega
                    case c5 => first | omega | (simp; omega)
                    intro v' w5 hown' hgrow _; obtain ⟨g5, cap5, rfl⟩ := own1_succ hown'; have hPk : w5.heap[P]? = some (.cells #[nv, .slice none 0 0] 81 (0, 0)) := (hgrow.block P (by simp; omega) (fun hc => by have := own1_base HXX.out.2.1 hc.symm; omega)).trans ((Below.heap_alloc _ _ _ (by omega)).trans HXX.out.1)
                    have HF : Hid ((w5.setCell ⟨P, 0, none⟩ (.slice (some ⟨g5, 0, none⟩) (k + 1) cap5)).heap[P]? = some (.cells #[.slice (some ⟨g5, 0, none⟩) (k + 1) cap5, .slice none 0 0] 81 (0, 0)) ∧ (w5.setCell ⟨P, 0, none⟩ (.slice (some ⟨g5, 0, none⟩) (k + 1) cap5)).ownsRow W2.heap.size 3 1 (.slice (some ⟨g5, 0, none⟩) (k + 1) cap5) (k + 1) (ivs ((List.range (k + 1)).map (wnum d))) ∧ W2.grownBy (w5.setCell ⟨P, 0, none⟩ (.slice (some ⟨g5, 0, none⟩) (k + 1) cap5)) (some P)) := by
                      refine ⟨set_blkL (L := [nv, .slice none 0 0]) 0 _ hPk, ?_, grownBy_setCell ?_⟩
                      · rw [List.range_succ]; simp only [ivs, List.map_append, List.map_cons, List.map_nil]; rw [HVW.out]; exact own1_set hown' (by omega)
                      · have g1 : W2.grownBy X (some P) := grownBy_trans HR.out.2.2.2.1 (grownBy_weak HXX.out.2.2.1); have g2 : W2.grownBy (X.alloc (.cells #[.int .i64 (v : Int)] 3)) (some P) := grownBy_alloc g1 _; exact ⟨hgrow.os.trans g2.os, hgrow.tape.trans g2.tape, hgrow.output.trans g2.output, Nat.le_trans g2.size hgrow.size, fun q hq hne => (hgrow.block q (Nat.lt_of_lt_of_le hq g2.size) (fun hc => by have := own1_base HXX.out.2.1 hc.symm; omega)).trans (g2.block q hq hne)⟩
                    have pc4 : w5.cell? ⟨P, 0, none⟩ = some nv := (cell_of_row _ _ _ _ _ _ hPk).trans rfl
                    have pf4 : w5.frozen? ⟨P, 0, none⟩ = false := by simp [World.frozen?, hPk]
                    have v1 : IntKind.i64.wrap ((k : Int) + 1) = (k : Int) + 1 := IntWalk.i64_in _ (by omega); clear hown' hgrow hPk s0 s1 r0 p0 p1 pf0 pf1; go_wp2; go_roundw
                    case rel => exact ⟨k + 1, _, hlt, by go_num, HOK.out, HF.out.1, HF.out.2.1, HF.out.2.2⟩
                    case measure => simp [intOf]; omega
              · obtain rfl : n = k := by omega
                have hkI : ¬ (n : Int) < (n : Int) := by omega
                have hsw := HS.out.grown0 HR.out.2.2.2.2; rw [HDL.out] at hsw
                have hM : dl - 8 * n = 0 := by omega
                have hrest : SlB wr (if cp = 8 * n then some (⟨g, 0, none⟩ : Addr) else some ⟨g, 8 * n, none⟩) (0) (d.drop (8 * n)) := by
                  have h1 := hsw.cut (8 * n) (dl - 8 * n) cp (by omega) hlc; simp only [Nat.zero_add] at h1; rw [List.take_of_length_le (by simp; have := HDL.out; omega)] at h1
                  first | exact h1 | (rw [hM] at h1; exact h1)
                have HSW : Hid (SlB wr (if cp = 8 * n then some (⟨g, 0, none⟩ : Addr) else some ⟨g, 8 * n, none⟩) (0) (d.drop (8 * n))) := hrest
                obtain ⟨nc, hnv⟩ : ∃ x : Nat × Nat, nv = .slice (some ⟨x.1, 0, none⟩) n x.2 := by
                  have h9 := HR.out.2.2.1; obtain ⟨n', rfl⟩ : ∃ n', n = n' + 1 := ⟨n - 1, by omega⟩; obtain ⟨a9, b9, h8⟩ := own1_succ h9; exact ⟨(a9, b9), h8⟩
                obtain ⟨gn, cn⟩ := nc; simp only at hnv; subst hnv
                have HCN : Hid (∀ i, i < n → wr.cell? ⟨gn, i, none⟩ = some (.int .i64 ((wn ty d i : Nat) : Int))) := fun i hi => by
                  have h8 := own1_at HR.out.2.2.1 (i := i) (u := .int .i64 ((wnum d i : Nat) : Int)) (by simp [ivs, hi]); rw [h8, wn, fld, if_pos ⟨by rw [HN.out.1]; exact hi, by rw [HN.out.1]; exact hi⟩]
                have hgnB := own1_base HR.out.2.2.1 (g := gn) rfl; have hgnl : gn < wr.heap.size := cell_block_lt (HCN.out 0 (by omega)); clear hrest hsw hGw hGr hlt; obtain ⟨i0, TB⟩ := byteT
                have z2 : 8 * (n : Int) ≤ (dl : Int) := by omega
                have z3 : (dl : Int) ≤ (cp : Int) := by omega
                have z4 : (0 : Int) ≤ 8 * (n : Int) := by omega
                have hwr : w.heap.size < wr.heap.size := by omega
                have hwr2 : ¬ w.heap.size = wr.heap.size := by omega
                go_wp2_with (at_builtin; refine wpList_append_b (by rfl) (.tmp 78) (.tmp 82) TB (by rfl) (base := wr.heap.size) (g := wr.heap.size) (n := 0) (cap := 0) (xs := []) (by rfl) (by exact World.ownsRow_made wr #[] 0 (Nat.le_refl _) (Nat.zero_le _) rfl) (oa := (if cp = 8 * n then some (⟨g, 0, none⟩ : Addr) else some ⟨g, 8 * n, none⟩)) (m := 0) (c := cp - 8 * n) (zs := d.drop (8 * n)) (by rfl) (by exact HSW.out.grown0 (World.grownBy_alloc _ _ _)) (by omega) (by simp) ?_)
                all_goals
                  intro gr cr w5 hown' hgr hat hsz5; have hgr' := hgr.out; have hPk : w5.heap[P]? = some (.cells #[.slice (some ⟨gn, 0, none⟩) n cn, .slice none 0 0] 81 (0, 0)) := (hgr'.block P (by simp; omega) (by simp; omega)).trans ((Below.heap_alloc _ _ _ (by omega)).trans HR.out.2.1); have hZ5 : w5.heap[w.heap.size + 1]? = some (.cells #[.slice none 0 0, .slice none 0 0] 81 (0, 0)) := (hgr'.block _ (by simp; omega) (by simp; omega)).trans ((Below.heap_alloc _ _ _ (by omega)).trans HR0.out.2)
                  have h1 : w5.ownsRow wr.heap.size 5 1 (.slice (some ⟨gr, 0, none⟩) (0) cr) (0) ((d.drop (8 * n)).map bv) := by simpa using hown'.out
                  have HO5 : Hid (Own w5 5 gr (d.drop (8 * n)) ∧ (0 ≤ cr ∧ cr ≤ maxLen) ∧ wr.heap.size ≤ gr ∧ w.grownBy w5 none ∧ (∀ i, i < n → w5.cell? ⟨gn, i, none⟩ = some (.int .i64 ((wn ty d i : Nat) : Int)))) := ⟨own_made h1 (fun z hz => HS.out.2.1 z (List.mem_of_mem_drop hz)), ownsRow_caps2 h1, (h1.lt gr rfl).1, grown_next hgr' (grownBy_alloc HR.out.2.2.2.2 _) ⟨rfl, rfl, rfl, rfl⟩ (by omega), fun i hi => (World.cell?_of_block (w := wr) (a := ⟨gn, i, none⟩) ((hgr'.block gn (by simp; omega) (by simp; omega)).trans (Below.heap_alloc _ _ _ hgnl))).trans (HCN.out i hi)⟩; have b1 : w5.cell? ⟨P, 1, none⟩ = some (.slice none 0 0) := (cell_of_row _ _ _ _ _ _ hPk).trans rfl; have b0 : w5.cell? ⟨P, 0, none⟩ = some (.slice (some ⟨gn, 0, none⟩) n cn) := (cell_of_row _ _ _ _ _ _ hPk).trans rfl
                  have bf : w5.frozen? ⟨P, 1, none⟩ = false := by simp [World.frozen?, hPk]
                  have HW6 : Hid ((w5.setCell ⟨P, 1, none⟩ (.slice (some ⟨gr, 0, none⟩) (0) cr)).heap[P]? = some (.cells #[.slice (some ⟨gn, 0, none⟩) n cn, .slice (some ⟨gr, 0, none⟩) (0) cr] 81 (0, 0)) ∧ (w5.setCell ⟨P, 1, none⟩ (.slice (some ⟨gr, 0, none⟩) (0) cr)).heap[w.heap.size + 1]? = some (.cells #[.slice none 0 0, .slice none 0 0] 81 (0, 0))) := ⟨set_blkL (L := [.slice (some ⟨gn, 0, none⟩) n cn, .slice none 0 0]) 1 _ hPk, set_oth 1 _ (by omega) hZ5⟩; clear hown' hgr hgr' hPk hZ5 h1 hat
                  go_upto_region 20 with fail
                  have p0 : (w5.setCell ⟨P, 1, none⟩ (.slice (some ⟨gr, 0, none⟩) (0) cr)).cell? ⟨P, 0, none⟩ = some (.slice (some ⟨gn, 0, none⟩) n cn) := (cell_of_row _ _ _ _ _ _ HW6.out.1).trans rfl; have p1 : (w5.setCell ⟨P, 1, none⟩ (.slice (some ⟨gr, 0, none⟩) (0) cr)).cell? ⟨P, 1, none⟩ = some (.slice (some ⟨gr, 0, none⟩) (0) cr) := (cell_of_row _ _ _ _ _ _ HW6.out.1).trans rfl; have r0 : (w5.setCell ⟨P, 1, none⟩ (.slice (some ⟨gr, 0, none⟩) (0) cr)).cell? ⟨w.heap.size + 1, 0, none⟩ = some (.slice none 0 0) := (cell_of_row _ _ _ _ _ _ HW6.out.2).trans rfl; have r1 : (w5.setCell ⟨P, 1, none⟩ (.slice (some ⟨gr, 0, none⟩) (0) cr)).cell? ⟨w.heap.size + 1, 1, none⟩ = some (.slice none 0 0) := (cell_of_row _ _ _ _ _ _ HW6.out.2).trans rfl
                  have rf : ∀ o, (w5.setCell ⟨P, 1, none⟩ (.slice (some ⟨gr, 0, none⟩) (0) cr)).frozen? ⟨w.heap.size + 1, o, none⟩ = false := fun o => by simp only [World.frozen?, HW6.out.2]; rfl
                  have HG6 : Hid (w.grownBy (w5.setCell ⟨P, 1, none⟩ (.slice (some ⟨gr, 0, none⟩) (0) cr)) none ∧ (∀ i, i < n → (w5.setCell ⟨P, 1, none⟩ (.slice (some ⟨gr, 0, none⟩) (0) cr)).cell? ⟨gn, i, none⟩ = some (.int .i64 ((wn ty d i : Nat) : Int))) ∧ Own (w5.setCell ⟨P, 1, none⟩ (.slice (some ⟨gr, 0, none⟩) (0) cr)) 5 gr (d.drop (8 * n))) := ⟨grownBy_setNew HO5.out.2.2.2.1 (by show w.heap.size ≤ P; omega), fun i hi => (World.cell?_of_block (heap_setCell_other w5 ⟨P, 1, none⟩ gn _ (by show gn ≠ P; omega))).trans (HO5.out.2.2.2.2 i hi), HO5.out.1.of_block (heap_setCell_other w5 ⟨P, 1, none⟩ gr _ (by show gr ≠ P; have := HO5.out.2.2.1; omega))⟩; generalize w5.setCell ⟨P, 1, none⟩ (.slice (some ⟨gr, 0, none⟩) (0) cr) = W6 at HW6 p0 p1 r0 r1 rf HG6 ⊢; have rf0 := rf 0; have rf1 := rf 1; clear rf b0 b1 bf; go_wp2; refine bodyPost_ret (results_pay (g := w.heap.size + 1) rfl rfl (set_two HW6.out.2) rfl) rfl ?_; refine ⟨_, _, true, rfl, ⟨fun _ => ⟨HN.out.2.2.2.1, HN.out.2.2.2.2, by rw [HN.out.1, HDL.out]; omega, by rw [HN.out.1, HDL.out, HRM.out]; omega, by rw [HN.out.1]; exact HR.out.1⟩, fun _ => rfl⟩, fun _ => ⟨gn, cn, gr, cr, by rw [HN.out.1], ?_, by rw [HN.out.1, HDL.out]; try rw [hM], by have := HO5.out.2.2.1; omega, ?_, by rw [HN.out.1, HDL.out]; have := HO5.out.2.1.1; omega, HO5.out.2.1.2, by omega⟩, by simp, grownBy_setNew (grownBy_setNew HG6.out.1 (Nat.le_succ _)) (Nat.le_succ _)⟩
                  · rw [HN.out.1]; intro i hi; refine (World.cell?_of_block (w := W6) (a := ⟨gn, i, none⟩) ?_).trans (HG6.out.2.1 i hi); exact (heap_setCell_other _ ⟨w.heap.size + 1, 1, none⟩ gn _ (by show gn ≠ w.heap.size + 1; omega)).trans (heap_setCell_other _ ⟨w.heap.size + 1, 0, none⟩ gn _ (by show gn ≠ w.heap.size + 1; omega))
                  · rw [HN.out.1]; exact HG6.out.2.2.of_block ((heap_setCell_other _ ⟨w.heap.size + 1, 1, none⟩ gr _ (by show gr ≠ w.heap.size + 1; have := HO5.out.2.2.1; omega)).trans (heap_setCell_other _ ⟨w.heap.size + 1, 0, none⟩ gr _ (by show gr ≠ w.heap.size + 1; have := HO5.out.2.2.1; omega)))
/-- within the document's bounds -/
structure PlOk (p : Pl) : Prop where
  last : p.base + p.es.length ≤ 1000000
  bt : p.bt ≤ 1000000000
  each : ∀ x ∈ p.es, x.1 ≤ 1000000000 ∧ x.2.length ≤ 128
/-- a log's entries, readable -/
structure SEn (w : World) (es : List (Nat × List Nat)) (ea : Option Addr) (ec : Nat) (E : List En) : Prop where
  en : EnS w ea E.length E
  tell : E.map En.tell = es
  cap : E.length ≤ ec ∧ ec ≤ maxLen
  nil : ea = none → ec = 0
  sm : ∀ e ∈ E, e.t ≤ 1000000000 ∧ e.n ≤ 8192
def SLg (w : World) (es : List (Nat × List Nat)) (sv : Value) : Prop := ∃ ea ec E, sv = .slice ea es.length ec ∧ SEn w es ea ec E
theorem SEn.len {w : World} {es : List (Nat × List Nat)} {ea : Option Addr} {ec : Nat} {E : List En} (h : SEn w es ea ec E) : E.length = es.length := by rw [← h.tell]; simp
theorem SEn.grown0 {w w' : World} {es : List (Nat × List Nat)} {ea : Option Addr} {ec : Nat} {E : List En} (h : SEn w es ea ec E) (hg : w.grownBy w' none) : SEn w' es ea ec E := ⟨h.en.grown0 hg, h.tell, h.cap, h.nil, h.sm⟩
theorem SLg.grown0 {w w' : World} {es : List (Nat × List Nat)} {sv : Value} (h : SLg w es sv) (hg : w.grownBy w' none) : SLg w' es sv := by
  obtain ⟨ea, ec, E, h1, h2⟩ := h; exact ⟨ea, ec, E, h1, h2.grown0 hg⟩
theorem SLg.nil (w : World) : SLg w [] (.slice none 0 0) := ⟨none, 0, [], rfl, ⟨⟨rfl, .inl ⟨rfl, rfl⟩⟩, rfl, ⟨Nat.le_refl _, Nat.zero_le _⟩, fun _ => rfl, by simp⟩⟩
theorem SLg.is {w : World} {es : List (Nat × List Nat)} {sv : Value} (h : SLg w es sv) : ∃ ea ec, sv = .slice ea es.length ec ∧ es.length ≤ ec ∧ ec ≤ maxLen ∧ (ea = none → ec = 0) := by
  obtain ⟨ea, ec, E, h1, h2⟩ := h; exact ⟨ea, ec, h1, by have := h2.cap.1; rw [h2.len] at this; exact this, h2.cap.2, h2.nil⟩
/-- a term's cell -/
theorem SLg.term {w : World} {es : List (Nat × List Nat)} {ea : Option Addr} {n ec : Nat} (h : SLg w es (.slice ea n ec)) {i : Nat} {x : Nat × List Nat} (hi : es[i]? = some x) : ∃ G, ea = some ⟨G, 0, none⟩ ∧ w.cell? ⟨G, i * 2, none⟩ = some (.int .i64 (x.1 : Int)) := by
  obtain ⟨ea', ec', E, h1, h2⟩ := h; simp only [Value.slice.injEq] at h1; obtain ⟨rfl, -, rfl⟩ := h1; rw [← h2.tell, List.getElem?_map, Option.map_eq_some_iff] at hi; obtain ⟨e, he, rfl⟩ := hi
  rcases h2.en.2 with ⟨-, hE⟩ | ⟨G, hG, hR⟩
  · rw [hE] at he; cases he
  · exact ⟨G, hG, (hR.cells he).1⟩
/-- rows that an answer may show -/
theorem enS_own {w : World} {B n : Nat} {v : Value} {E : List En} (h : w.ownsRow B 47 2 v n (E.flatMap En.cells)) (hn : n = E.length) (ho : ∀ e ∈ E, Own w 5 e.g e.D ∧ e.off + e.n ≤ e.D.length) (ha : (E.map En.g).Nodup) :
    ∃ oa cp, v = .slice oa E.length cp ∧ EnS w oa E.length E ∧ (E.length ≤ cp ∧ cp ≤ maxLen) ∧ (oa = none → cp = 0) ∧ ∀ ad : Addr, oa = some ad → B ≤ ad.block := by
  subst hn
  rcases h.2 with ⟨h1, h0⟩ | ⟨g, cap, cur, h1, hB, hg, hc, hm, hs, ht⟩
  · have hE : E = [] := List.eq_nil_of_length_eq_zero h0; subst hE; exact ⟨none, 0, h1, ⟨rfl, .inl ⟨rfl, rfl⟩⟩, ⟨Nat.le_refl _, Nat.zero_le _⟩, fun _ => rfl, fun ad hc => by cases hc⟩
  · refine ⟨some ⟨g, 0, none⟩, cap, h1, ⟨rfl, .inr ⟨g, rfl, ⟨⟨cur, hg, fun i e hi => ?_⟩, ho, ha⟩⟩⟩, ⟨hc, hm⟩, (fun h => (by cases h)), fun ad hc => by cases hc; exact hB⟩; have h2 := flat2_get (fun e : En => Value.int .i64 (e.t : Int)) (fun e : En => Value.slice (some ⟨e.g, e.off, none⟩) e.n e.cp) E hi; obtain ⟨g1, c1, e1, -, -, -, k1, -⟩ := own_at h (i := i * 2) h2.1; obtain ⟨g2, c2, e2, -, -, -, k2, -⟩ := own_at h (i := i * 2 + 1) h2.2; rw [h1] at e1 e2; simp only [Value.slice.injEq, Option.some.injEq, Addr.mk.injEq, and_true, true_and] at e1 e2; obtain ⟨rfl, rfl⟩ := e1; obtain ⟨rfl, rfl⟩ := e2; rw [cell_of_row w g _ _ _ _ hg] at k1 k2; exact ⟨k1, k2⟩
theorem one_en (E : List En) : ∀ u ∈ E.flatMap En.cells, u.oneCell' = true := by
  intro u hu; obtain ⟨e, -, he⟩ := List.mem_flatMap.1 hu; simp only [En.cells, List.mem_cons, List.not_mem_nil, or_false] at he
  rcases he with rfl | rfl <;> rfl
/-- a slice of entries laid behind an owned row -/
theorem run_append_src {w : World} {B n : Nat} {v : Value} {xs : List Value} (hown : w.ownsRow B 47 2 v n xs) {ea : Option Addr} {m ec ty : Nat} {E : List En} (hE : EnS w ea m E) (hnil : ea = none → ec = 0) (hn : n + m ≤ 2000000) (hB : B ≤ w.heap.size) :
    ∃ v' w', (Builtin.append_ #[24, 24] ty #[v, .slice ea m ec]).run Tryz.prog w = .ok v' w' ∧ w'.ownsRow B 47 2 v' (n + m) (xs ++ E.flatMap En.cells) ∧ w.grownBy w' v.ownBlock := by
  obtain ⟨i0, hi, hz0, hz1, hz2⟩ := info_parts Tryz.infoEnt; obtain ⟨hl, ⟨rfl, rfl⟩ | ⟨G, rfl, hR⟩⟩ := hE
  · obtain rfl : m = 0 := by simpa using hl.symm
    rw [hnil rfl]; refine ⟨v, w, run_append_owned_none (P := Tryz.prog) (w := w) B _ _ _ i0 2 Tryz.underlying24 hi v n xs hown, by simpa using hown, grownBy_refl _ _⟩
  · have hcell : ∀ (j : Nat) (u : Value), (E.flatMap En.cells)[j]? = some u → w.cell? ((⟨G, 0, none⟩ : Addr).add j) = some u := by
      intro j u hj; rw [show (⟨G, 0, none⟩ : Addr).add j = ⟨G, j, none⟩ by rw [Addr.add_mid]; simp]; have hjl := (List.getElem?_eq_some_iff.1 hj).1; rw [flatE_len] at hjl; obtain ⟨e, he⟩ : ∃ e, E[j / 2]? = some e := ⟨_, List.getElem?_eq_getElem (by omega)⟩; have h2 := flat2_get (fun e : En => Value.int .i64 (e.t : Int)) (fun e : En => Value.slice (some ⟨e.g, e.off, none⟩) e.n e.cp) E he; have hc := hR.cells he
      rcases Nat.mod_two_eq_zero_or_one j with hm | hm
      · have ej : j / 2 * 2 = j := by omega
        rw [ej] at h2 hc; have : (E.flatMap En.cells)[j]? = some (.int .i64 (e.t : Int)) := h2.1; rw [this] at hj
        cases hj
        exact hc.1
      · have ej : j / 2 * 2 + 1 = j := by omega
        rw [ej] at h2 hc; have : (E.flatMap En.cells)[j]? = some (.slice (some ⟨e.g, e.off, none⟩) e.n e.cp) := h2.2; rw [this] at hj
        cases hj
        exact hc.2.1
    obtain ⟨v', w', h1, h2, h3, -⟩ := run_append_own (P := Tryz.prog) w B 24 ty 47 i0 (.agg #[.int .i64 0, .slice none 0 0]) 2 32 Tryz.underlying24 hi hz0 hz1 hz2 rfl (by decide) v n xs hown ⟨G, 0, none⟩ m ec (E.flatMap En.cells) (by rw [flatE_len, hl]) hcell (one_en E) (by unfold maxLen; omega) (by omega) hB; exact ⟨v', w', h1, h2, h3⟩
set_option maxRecDepth 4000 in
set_option maxHeartbeats 1000000 in
theorem slast_any (p : Pl) (sv : Value) (ok : Bool) (w : World) (h : SLg w p.es sv) (hp : PlOk p) :
    Calls Tryz.prog 51 #[.agg #[.int .i64 (p.base : Int), .int .i64 (p.bt : Int), sv, .bool ok]] w fun e w' => e = .returned (.int .i64 ((p.last : Nat) : Int)) ∧ w.grownBy w' none := by
  obtain ⟨ea, ec, rfl, hc1, hc2, -⟩ := h.is; have hl := hp.last
  unfold Pl.last
  obtain ⟨n, hn⟩ : ∃ n, p.es.length = n := ⟨_, rfl⟩; obtain ⟨b, hb⟩ : ∃ n, p.base = n := ⟨_, rfl⟩; rw [hn, hb] at hl ⊢; clear h hp hn hb
  have v1 : IntKind.i64.wrap ((b : Int) + (n : Int)) = ((b + n : Nat) : Int) := by rw [IntWalk.i64_in _ (by omega)]; omega
  go_enter Tryz.func51, Tryz.ntmps51
  go_wp2; go_ret; exact ⟨by first | rfl | simp, World.grownBy_alloc _ _ _⟩
set_option maxRecDepth 4000 in
set_option maxHeartbeats 1000000 in
theorem sterm_any (p : Pl) (sv : Value) (ok : Bool) (i : Nat) (w : World) (h : SLg w p.es sv) (hp : PlOk p) (h1 : p.base ≤ i) (h2 : i ≤ p.last) :
    Calls Tryz.prog 52 #[.agg #[.int .i64 (p.base : Int), .int .i64 (p.bt : Int), sv, .bool ok], .int .i64 (i : Int)] w fun e w' => e = .returned (.int .i64 ((p.term i : Nat) : Int)) ∧ w.grownBy w' none := by
  obtain ⟨ea, ec, rfl, hc1, hc2, -⟩ := h.is; have hl := hp.last
  unfold Pl.last at h2
  rcases Classical.em (i = p.base) with hi | hi
  · have HT : Hid (p.term i = p.bt) := by show _ = _; rw [Pl.term, ltm, if_pos hi]
    have t1 : ((i : Int) == (p.base : Int)) = true := by simp; omega
    clear hi h hp
    go_enter Tryz.func52, Tryz.ntmps52
    go_wp2; go_ret; exact ⟨by rw [HT.out]; rfl, World.grownBy_alloc _ _ _⟩
  · obtain ⟨k, hk⟩ : ∃ k, i = p.base + 1 + k := ⟨i - p.base - 1, by omega⟩; obtain ⟨x, hx⟩ : ∃ x, p.es[k]? = some x := ⟨_, List.getElem?_eq_getElem (by omega)⟩; obtain ⟨G, rfl, hc⟩ := h.term hx
    have HT : Hid (p.term i = x.1) := by
      show _ = _
      rw [Pl.term, ltm, if_neg hi, if_neg (by simp; omega), show i - p.base - 1 = k by omega]
      simp [List.getD, hx]
    have t1 : ((i : Int) == (p.base : Int)) = false := by simp; omega
    have v1 : IntKind.i64.wrap ((i : Int) - (p.base : Int)) = (k : Int) + 1 := by rw [IntWalk.i64_in _ (by omega)]; omega
    have v2 : IntKind.i64.wrap ((k : Int) + 1 - 1) = (k : Int) := by rw [IntWalk.i64_in _ (by omega)]; omega
    have hkn : (k : Int) < (p.es.length : Int) := by omega
    have hA := World.grownBy_alloc w (.cells #[.int .i64 (p.base : Int), .int .i64 (p.bt : Int), .slice (some ⟨G, 0, none⟩) p.es.length ec, .bool ok] 42) none; have hc' := ((bcell hA).1 _ _ (cell_block_lt hc)).trans hc; have hGl : G < w.heap.size := cell_block_lt hc
    have hGn : ¬ G = w.heap.size := by omega
    clear hx h hp hi hk hA
    go_enter Tryz.func52, Tryz.ntmps52
    go_wp2; go_ret; exact ⟨by rw [HT.out]; rfl, World.grownBy_alloc _ _ _⟩
end Go.Proofs.YtjnegjgpkboocaaGreatDoor
