/-
  Dw3, Dw4, StrB, SmBytes, Lw1, Dk30, Dk31, Dr, Sy1, Sy2, Sy3, Sy4, Lw2, Lw3, Lw4
-/
import Derived.Test.YtgehhfncjoogiaaGreatDoorSyn9
import Derived.Test.YtgehhfncjoogiaaGreatDoorSyn1
import Derived.Laws.BytesString
import Derived.Laws.Cells
import Derived.Test.YtgehhfncjoogiaaGreatDoorSyn6
namespace Go.Proofs.YtgehhfncjoogiaaGreatDoor
open Go.RowKit Go.Maps

structure NwSt (w wr : World) (d : Nat) (cp : Int) (v0 v1 v2 wv : Value) (ss : List ByteArray) (zs : List Nat) (ds : List (List Nat)) (vs xs : List Value) (n3 : Nat) : Prop where
  box : wr.heap[d]? = some (.cells #[v0, v1, v2, .slice none 0 0, .slice none 0 0, .slice none 0 0, .slice none 0 0, .int .i64 cp, .int .i64 (-1), .bool false, wv] 63 (0, 0))
  low : w.heap.size ≤ d
  r0 : wr.ownsRow w.heap.size 9 1 v0 ss.length (ss.map Value.string)
  r1 : wr.ownsRow w.heap.size 3 1 v1 zs.length (zs.map iN)
  r2 : wr.ownsRow w.heap.size 22 1 v2 ds.length vs
  r3 : wr.ownsRow w.heap.size 65 6 wv n3 xs
  sz : ∀ s ∈ ss, s.size ≤ 1000
  zz : ∀ z ∈ zs, z ≤ 4
  bv : ∀ (i : Nat) (u : Value) (D : List Nat), vs[i]? = some u → ds[i]? = some D → BV wr u D
  dz : ∀ D ∈ ds, D.length ≤ 65536
  gr : w.grownBy wr none
section
variable {w wr X Y : World} {d : Nat} {cp : Int} {v0 v1 v2 wv v' : Value} {ss : List ByteArray} {zs : List Nat} {ds : List (List Nat)} {vs xs xs' : List Value} {n3 : Nat}
theorem NwSt.grown0 (h : NwSt w wr d cp v0 v1 v2 wv ss zs ds vs xs n3) (hg : wr.grownBy X none) : NwSt w X d cp v0 v1 v2 wv ss zs ds vs xs n3 :=
  ⟨grown_blk hg h.box, h.low, own1_grown h.r0 hg, own1_grown h.r1 hg, own1_grown h.r2 hg, own1_grown h.r3 hg, h.sz, h.zz, fun i u D h1 h2 => (h.bv i u D h1 h2).grown0 hg, h.dz, grownBy_trans h.gr hg⟩
theorem NwSt.put0 (h : NwSt w X d cp v0 v1 v2 wv ss zs ds vs xs n3) (s : ByteArray) (hs : s.size ≤ 1000) (hgY : X.grownBy Y v0.ownBlock) (ho : Y.ownsRow w.heap.size 9 1 v' (ss.length + 1) (ss.map Value.string ++ [.string s])) : Y.heap[d]? = some (.cells #[v0, v1, v2, .slice none 0 0, .slice none 0 0, .slice none 0 0, .slice none 0 0, .int .i64 cp, .int .i64 (-1), .bool false, wv] 63 (0, 0)) ∧ NwSt w (Y.setCell ⟨d, 0, none⟩ v') d cp v' v1 v2 wv (ss ++ [s]) zs ds vs xs n3 := by
  have hM : Moves [] [9] X Y := Moves.of_row h.r0 hgY; have hb : Y.heap[d]? = some (.cells #[v0, v1, v2, .slice none 0 0, .slice none 0 0, .slice none 0 0, .slice none 0 0, .int .i64 cp, .int .i64 (-1), .bool false, wv] 63 (0, 0)) := hM.cells h.box (by decide) (by simp); have hMs : Moves [] [63] Y (Y.setCell ⟨d, 0, none⟩ v') := set_type hb; have hlo := h.low; refine ⟨hb, (heap_setCell_same Y d 0 _ _ _ hb).trans rfl, h.low, ?_, own_mv (own_mv h.r1 hM (by decide)) hMs (by decide), own_mv (own_mv h.r2 hM (by decide)) hMs (by decide), own_mv (own_mv h.r3 hM (by decide)) hMs (by decide), ?_, h.zz, fun i u D h1 h2 => ((h.bv i u D h1 h2).moves hM (by decide)).moves hMs (by decide), h.dz, grownBy_setNew (grownBy_row h.gr hgY (fun g hg => own1_base h.r0 hg)) h.low⟩
  · rw [List.length_append, List.map_append]; exact own_mv ho hMs (by decide)
  · intro x hx
    rcases List.mem_append.1 hx with h9 | h9
    · exact h.sz x h9
    · obtain rfl : x = s := by simpa using h9
      exact hs
theorem NwSt.put1 (h : NwSt w X d cp v0 v1 v2 wv ss zs ds vs xs n3) (z : Nat) (hz : z ≤ 4) (hgY : X.grownBy Y v1.ownBlock) (ho : Y.ownsRow w.heap.size 3 1 v' (zs.length + 1) (zs.map iN ++ [iN z])) : Y.heap[d]? = some (.cells #[v0, v1, v2, .slice none 0 0, .slice none 0 0, .slice none 0 0, .slice none 0 0, .int .i64 cp, .int .i64 (-1), .bool false, wv] 63 (0, 0)) ∧ NwSt w (Y.setCell ⟨d, 1, none⟩ v') d cp v0 v' v2 wv ss (zs ++ [z]) ds vs xs n3 := by
  have hM : Moves [] [3] X Y := Moves.of_row h.r1 hgY; have hb : Y.heap[d]? = some (.cells #[v0, v1, v2, .slice none 0 0, .slice none 0 0, .slice none 0 0, .slice none 0 0, .int .i64 cp, .int .i64 (-1), .bool false, wv] 63 (0, 0)) := hM.cells h.box (by decide) (by simp); have hMs : Moves [] [63] Y (Y.setCell ⟨d, 1, none⟩ v') := set_type hb; refine ⟨hb, (heap_setCell_same Y d 1 _ _ _ hb).trans rfl, h.low, own_mv (own_mv h.r0 hM (by decide)) hMs (by decide), ?_, own_mv (own_mv h.r2 hM (by decide)) hMs (by decide), own_mv (own_mv h.r3 hM (by decide)) hMs (by decide), h.sz, ?_, fun i u D h1 h2 => ((h.bv i u D h1 h2).moves hM (by decide)).moves hMs (by decide), h.dz, grownBy_setNew (grownBy_row h.gr hgY (fun g hg => own1_base h.r1 hg)) h.low⟩
  · rw [List.length_append, List.map_append]; exact own_mv ho hMs (by decide)
  · intro x hx
    rcases List.mem_append.1 hx with h9 | h9
    · exact h.zz x h9
    · obtain rfl : x = z := by simpa using h9
      exact hz
theorem NwSt.put2 (h : NwSt w X d cp v0 v1 v2 wv ss zs ds vs xs n3) (u : Value) (D : List Nat) (hD : D.length ≤ 65536) (hu : BV X u D) (hgY : X.grownBy Y v2.ownBlock) (ho : Y.ownsRow w.heap.size 22 1 v' (ds.length + 1) (vs ++ [u])) : Y.heap[d]? = some (.cells #[v0, v1, v2, .slice none 0 0, .slice none 0 0, .slice none 0 0, .slice none 0 0, .int .i64 cp, .int .i64 (-1), .bool false, wv] 63 (0, 0)) ∧ NwSt w (Y.setCell ⟨d, 2, none⟩ v') d cp v0 v1 v' wv ss zs (ds ++ [D]) (vs ++ [u]) xs n3 := by
  have hM : Moves [] [22] X Y := Moves.of_row h.r2 hgY; have hb : Y.heap[d]? = some (.cells #[v0, v1, v2, .slice none 0 0, .slice none 0 0, .slice none 0 0, .slice none 0 0, .int .i64 cp, .int .i64 (-1), .bool false, wv] 63 (0, 0)) := hM.cells h.box (by decide) (by simp); have hMs : Moves [] [63] Y (Y.setCell ⟨d, 2, none⟩ v') := set_type hb
  have hl : vs.length = ds.length := by have := h.r2.1; simpa using this
  refine ⟨hb, (heap_setCell_same Y d 2 _ _ _ hb).trans rfl, h.low, own_mv (own_mv h.r0 hM (by decide)) hMs (by decide), own_mv (own_mv h.r1 hM (by decide)) hMs (by decide), ?_, own_mv (own_mv h.r3 hM (by decide)) hMs (by decide), h.sz, h.zz, fun i u' D' h1 h2 => ?_, ?_, grownBy_setNew (grownBy_row h.gr hgY (fun g hg => own1_base h.r2 hg)) h.low⟩
  · rw [List.length_append]; exact own_mv ho hMs (by decide)
  · refine BV.moves (BV.moves (w := X) ?_ hM (by decide)) hMs (by decide)
    rcases Nat.lt_or_ge i ds.length with h9 | h9
    · rw [List.getElem?_append_left (by omega)] at h1; rw [List.getElem?_append_left h9] at h2; exact h.bv i u' D' h1 h2
    · obtain rfl : i = ds.length := by
        have := (List.getElem?_eq_some_iff.1 h2).1
        simp at this
        omega
      rw [List.getElem?_append_right (by omega), hl, Nat.sub_self] at h1; rw [List.getElem?_append_right (by omega), Nat.sub_self] at h2; simp only [List.getElem?_cons_zero, Option.some.injEq] at h1 h2; subst h1; subst h2; exact hu
  · intro x hx
    rcases List.mem_append.1 hx with h9 | h9
    · exact h.dz x h9
    · obtain rfl : x = D := by simpa using h9
      exact hD
theorem NwSt.put3 (h : NwSt w X d cp v0 v1 v2 wv ss zs ds vs xs n3) (hgY : X.grownBy Y wv.ownBlock) (ho : Y.ownsRow w.heap.size 65 6 v' (n3 + 1) xs') : Y.heap[d]? = some (.cells #[v0, v1, v2, .slice none 0 0, .slice none 0 0, .slice none 0 0, .slice none 0 0, .int .i64 cp, .int .i64 (-1), .bool false, wv] 63 (0, 0)) ∧ NwSt w (Y.setCell ⟨d, 10, none⟩ v') d cp v0 v1 v2 v' ss zs ds vs xs' (n3 + 1) := by
  have hM : Moves [] [65] X Y := Moves.of_row h.r3 hgY; have hb : Y.heap[d]? = some (.cells #[v0, v1, v2, .slice none 0 0, .slice none 0 0, .slice none 0 0, .slice none 0 0, .int .i64 cp, .int .i64 (-1), .bool false, wv] 63 (0, 0)) := hM.cells h.box (by decide) (by simp); have hMs : Moves [] [63] Y (Y.setCell ⟨d, 10, none⟩ v') := set_type hb; exact ⟨hb, (heap_setCell_same Y d 10 _ _ _ hb).trans rfl, h.low, own_mv (own_mv h.r0 hM (by decide)) hMs (by decide), own_mv (own_mv h.r1 hM (by decide)) hMs (by decide), own_mv (own_mv h.r2 hM (by decide)) hMs (by decide), own_mv ho hMs (by decide), h.sz, h.zz, fun i u D h1 h2 => ((h.bv i u D h1 h2).moves hM (by decide)).moves hMs (by decide), h.dz, grownBy_setNew (grownBy_row h.gr hgY (fun g hg => own1_base h.r3 hg)) h.low⟩
theorem NwSt.dir (h : NwSt w wr d cp v0 v1 v2 wv ss zs ds vs xs n3) : DirAt wr v0 v1 v2 ⟨ss, zs, ds⟩ := by
  obtain ⟨a0, c0, rfl⟩ := own1_is h.r0; obtain ⟨a1, c1, rfl⟩ := own1_is h.r1; obtain ⟨a2, c2, rfl⟩ := own1_is h.r2; refine ⟨⟨a0, c0, rfl, CellsT.of_own h.r0, own_le h.r0⟩, ⟨a1, c1, by simp, ?_, by simpa using own_le h.r1⟩, ⟨a2, c2, vs, rfl, CellsT.of_own h.r2, by have := h.r2.1; simpa using this, own_le h.r2, h.bv⟩⟩; rw [List.map_map]; exact CellsT.of_own h.r1
theorem NwSt.fin {u0 u1 u2 : Value} (h : NwSt w X d cp v0 v1 v2 wv ss zs ds vs xs n3) (hu : DirAt X u0 u1 u2 ⟨ss, zs, ds⟩) (hm : (⟨ss, zs, ds⟩ : Dm).Sm 10 4 65536) (h4 : n3 ≤ 4) : (∃ M, MkAt (X.setCells d 3 [u0, u1, u2]) ⟨w.heap.size, fun j => (X.setCells d 3 [u0, u1, u2]).heap[j]?⟩ d M (Nb 0) (4 + 0) 65536 (Qb 0)) ∧ w.grownBy (X.setCells d 3 [u0, u1, u2]) none := by
  have hMs : Moves [] [63] X (X.setCells d 3 [u0, u1, u2]) := setCells3_type h.box
  have hT' : ∀ t ∈ [63], t ≠ 9 ∧ t ≠ 3 ∧ t ≠ 22 ∧ t ≠ 5 := by decide
  refine ⟨⟨⟨v0, v1, v2, u0, u1, u2, .slice none 0 0, cp, -1, false, wv, ⟨ss, zs, ds⟩, ⟨ss, zs, ds⟩, [], n3, xs⟩, (setCells3 h.box).trans rfl, h.low, h.dir.moves hMs hT', hm, hu.moves hMs hT', hm, World.ownsRow_nil _ _ _ _, by simp, by simp, by simp, own_mv h.r3 hMs (by decide), by show n3 ≤ 10; omega, by simp [Value.ownBlock], fun _ _ => rfl⟩, ?_⟩; have hlo := h.low; exact ⟨hMs.os.trans h.gr.os, hMs.tape.trans h.gr.tape, hMs.output.trans h.gr.output, Nat.le_trans h.gr.size hMs.size, fun j hj hne => (setCells_oth d j (by omega) _ _ _).trans (h.gr.block j hj hne)⟩
end
set_option maxRecDepth 20000 in
set_option maxHeartbeats 8000000 in
theorem new_any (v : Value) (B0 : Nat) (F : List (List UInt8 × List Nat)) (cap : Int) (w : World) (h : FlAt w B0 v F) (hF : ImF F 4) :
    Calls Tryz.prog 6 #[v, .int .i64 cap] w fun e w' => (∃ d M, e = .returned (.pointer (some ⟨d, 0, none⟩)) ∧ MkAt w' ⟨w.heap.size, fun j => w'.heap[j]?⟩ d M (Nb 0) (4 + 0) 65536 (Qb 0)) ∧ w.grownBy w' none := by
  obtain ⟨oa, c, fcs, rfl, hfr, hfc⟩ := h; obtain ⟨n, hn⟩ : ∃ y, F.length = y := ⟨_, rfl⟩
  have hn4 : n ≤ 4 := by rw [← hn]; exact hF.len
  rw [hn] at hfr ⊢; have HFR : Hid (w.ownsRow B0 55 2 (.slice oa n c) n fcs ∧ CellsF w B0 fcs F ∧ ImF F 4 ∧ F.length = n) := ⟨hfr, hfc, hF, hn⟩; clear hfr hfc hF hn
  go_enter Tryz.func6, Tryz.ntmps6
  go_wp2_with fail; refine (l1Within_any cap 0 262144 w).mono ?_; rintro e w1 ⟨⟨cp, rfl⟩, hg1⟩; have HS0 : Hid (NwSt w (w1.alloc (.cells #[.slice none 0 0, .slice none 0 0, .slice none 0 0, .slice none 0 0, .slice none 0 0, .slice none 0 0, .slice none 0 0, .int .i64 cp, .int .i64 (-1), .bool false, .slice none 0 0] 63)) w1.heap.size cp (.slice none 0 0) (.slice none 0 0) (.slice none 0 0) (.slice none 0 0) [] [] [] [] [] 0) := ⟨heap_alloc_new w1 _, hg1.size, World.ownsRow_nil _ _ _ _, World.ownsRow_nil _ _ _ _, World.ownsRow_nil _ _ _ _, World.ownsRow_nil _ _ _ _, by simp, by simp, by simp, by simp, grownBy_alloc hg1 _⟩; clear hg1; go_wp2; generalize w1.alloc (.cells #[.slice none 0 0, .slice none 0 0, .slice none 0 0, .slice none 0 0, .slice none 0 0, .slice none 0 0, .slice none 0 0, .int .i64 cp, .int .i64 (-1), .bool false, .slice none 0 0] 63) = W0 at HS0 ⊢; generalize w1.heap.size = d at HS0 ⊢
  go_loopw [14] (fun iv wr => ∃ (k : Nat) (v0 v1 v2 wv : Value) (ss : List ByteArray) (zs : List Nat) (ds : List (List Nat)) (vs xs : List Value), k ≤ n ∧ iv = .int .i64 (k : Int) ∧ ss.length = k ∧ zs.length = k ∧ ds.length = k ∧ NwSt w wr d cp v0 v1 v2 wv ss zs ds vs xs k) (fun iv _ => n - (intOf iv).toNat)
  case atStart => exact ⟨0, _, _, _, _, [], [], [], [], [], Nat.zero_le _, rfl, rfl, rfl, rfl, HS0.out⟩
  case round =>
    obtain ⟨k, v0, v1, v2, wv, ss, zs, ds, vs, xs, hk, rfl, l0, l1, l2, hst⟩ := hrel; obtain ⟨a0, c0, rfl⟩ := own1_is hst.r0; obtain ⟨a1, c1, rfl⟩ := own1_is hst.r1; obtain ⟨a2, c2, rfl⟩ := own1_is hst.r2; obtain ⟨a3, c3, rfl⟩ := own1_is hst.r3; rw [l0, l1, l2] at hst; have HS : Hid (NwSt w wr d cp (.slice a0 k c0) (.slice a1 k c1) (.slice a2 k c2) (.slice a3 k c3) ss zs ds vs xs k ∧ ss.length = k ∧ zs.length = k ∧ ds.length = k) := ⟨hst, l0, l1, l2⟩; clear hst l0 l1 l2 HS0
    by_cases hlt : k < n
    · have hltI : (k : Int) < (n : Int) := by omega
      have v9 : IntKind.i64.wrap ((k : Int) + 1) = (k : Int) + 1 := IntWalk.i64_in _ (by omega); obtain ⟨⟨fs, fd⟩, hfk⟩ : ∃ x, F[k]? = some x := ⟨_, List.getElem?_eq_getElem (by rw [HFR.out.2.2.2]; exact hlt)⟩; obtain ⟨g1, fa, fc, g2, g3⟩ := HFR.out.2.1.2 k fs fd hfk; have hfr := own1_grown HFR.out.1 HS.out.1.gr; obtain ⟨fb, hoa, q0⟩ := own_cell hfr g1; obtain ⟨fb', hoa', q1⟩ := own_cell hfr g2; subst hoa; simp only [Option.some.injEq, Addr.mk.injEq, and_true] at hoa'; subst hoa'
      have hfz : (⟨fs.toArray⟩ : ByteArray).size ≤ 1000 := by
        have h1 : fs ∈ N4 := List.mem_of_mem_take (HFR.out.2.2.1.1.subset (List.mem_map_of_mem (f := Prod.fst) (List.mem_of_getElem? hfk)))
        have h2 : ∀ x ∈ N4, x.length ≤ 1000 := by decide
        have h3 := h2 fs h1
        simpa [ByteArray.size] using h3
      have hfd : fd.length ≤ 79 := HFR.out.2.2.1.2 _ (List.mem_of_getElem? hfk); obtain ⟨m, hm⟩ : ∃ y, fd.length = y := ⟨_, rfl⟩; rw [hm] at q1 g3 hfd; have HFD : Hid (BRow w B0 (.slice fa m fc) fd ∧ fd.length = m ∧ (⟨fs.toArray⟩ : ByteArray).size ≤ 1000) := ⟨g3, hm, hfz⟩; have HB0 : Hid (NwSt w (wr.alloc (.cells #[.string ⟨fs.toArray⟩, .slice fa m fc] 55)) d cp (.slice a0 k c0) (.slice a1 k c1) (.slice a2 k c2) (.slice a3 k c3) ss zs ds vs xs k ∧ (wr.alloc (.cells #[.string ⟨fs.toArray⟩, .slice fa m fc] 55)).heap[wr.heap.size]? = some (.cells #[.string ⟨fs.toArray⟩, .slice fa m fc] 55 (0, 0))) := ⟨HS.out.1.grown0 (World.grownBy_alloc _ _ none), heap_alloc_new wr _⟩; have HL : Hid (ss.length = k ∧ zs.length = k ∧ ds.length = k) := HS.out.2; clear hfk g1 g2 g3 hfr hm hfz HS
      go_upto_region 5 with fail
      generalize wr.alloc (.cells #[.string ⟨fs.toArray⟩, .slice fa m fc] 55) = W1 at HB0 ⊢; generalize wr.heap.size = f at HB0 ⊢; clear q0 q1; refine wp_region_Z (fun Y => Y.heap[d]? = some (.cells #[.slice a0 k c0, .slice a1 k c1, .slice a2 k c2, .slice none 0 0, .slice none 0 0, .slice none 0 0, .slice none 0 0, .int .i64 cp, .int .i64 (-1), .bool false, .slice a3 k c3] 63 (0, 0)) ∧ Y.heap[f]? = some (.cells #[.string ⟨fs.toArray⟩, .slice fa m fc] 55 (0, 0))) (fun j => j == 13) (by kernel_rfl) ?_; have hS : W1.drew.heap[d]? = some (.cells #[.slice a0 k c0, .slice a1 k c1, .slice a2 k c2, .slice none 0 0, .slice none 0 0, .slice none 0 0, .slice none 0 0, .int .i64 cp, .int .i64 (-1), .bool false, .slice a3 k c3] 63 (0, 0)) ∧ W1.drew.heap[f]? = some (.cells #[.string ⟨fs.toArray⟩, .slice fa m fc] 55 (0, 0)) := ⟨HB0.out.1.box, HB0.out.2⟩; refine zTk 0 ?_; simp only [Act.put, zq1, zq2, zq3]; refine zTk 1 ?_; simp only [Act.put, zq1, zq2, zq3]; refine zTk 2 ?_; simp only [Act.put, zq1, zq2, zq3]; refine zTk 3 ?_; simp only [Act.put, zq1, zq2, zq3]; refine zTk 4 ?_; simp only [Act.put, zq1, zq2, zq3]; refine zLd 5 13 rfl hS (by intro W hW; have z0 : W.cell? ⟨d, 0, none⟩ = some (.slice a0 k c0) := (zCr hW.1).trans rfl; go_simp; first | done | with_reducible rfl) ?_; simp only [Act.put, zq1, zq2, zq3]; refine zTk 6 ?_; simp only [Act.put, zq1, zq2, zq3]; refine zLd 7 13 rfl hS (by intro W hW; have z0 : W.cell? ⟨f, 0, none⟩ = some (.string ⟨fs.toArray⟩) := (zCr hW.2).trans rfl; go_simp; first | done | with_reducible rfl) ?_; simp only [Act.put, zq1, zq2, zq3]; clear hS; have hn6 := HB0.out.1; have hf6 := HB0.out.2; refine wpAnyZ_one' (i := 8) (by kernel_rfl) rfl (fun K hK => ?_); go_simp; have hgb : W1.grownBy (W1.alloc (.cells #[.string ⟨fs.toArray⟩] 9)).drew none := grownBy_drew (World.grownBy_alloc W1 _ none); refine hK.out _ _ (fun _ _ => ⟨grown_blk hgb hn6.box, grown_blk hgb hf6⟩) ?_; clear hK K hgb; (try simp only [Act.put, zq1, zq2, zq3]); obtain ⟨b0, e0, w7, hrun7, ho7, hg7⟩ := run_app1 (P := Tryz.prog) (w0 := W1.drew) 52 52 w.heap.size 9 Tryz.underlying52 Tryz.infoStr rfl (by decide) (.slice a0 k c0) k (ss.map Value.string) (by have h9 := hn6.r0; rw [HL.out.1] at h9; exact h9) #[.string ⟨fs.toArray⟩] W1.heap.size rfl rfl rfl (by omega) (by decide) hn6.gr.size; have hg7 : W1.grownBy w7 (Value.slice a0 k c0).ownBlock := ⟨hg7.os, hg7.tape, hg7.output, hg7.size, hg7.block⟩; have hrun7 : (Builtin.append_ #[52, 52] 52 #[.slice a0 k c0, .slice (some ⟨W1.heap.size, 0, none⟩) 1 1]).run Tryz.prog (W1.alloc (.cells #[.string ⟨fs.toArray⟩] 9)).drew = .ok (.slice b0 (k + 1) e0) w7 := hrun7; have HP : Hid (_ ∧ _) := hn6.put0 (v' := .slice b0 (k + 1) e0) ⟨fs.toArray⟩ HFD.out.2.2 hg7 (by rw [HL.out.1]; exact ho7); have hbx7 := HP.out.1; have hM7 : Moves [] [9] W1 w7 := Moves.of_row hn6.r0 hg7; have hf7 : w7.heap[f]? = some (.cells #[.string ⟨fs.toArray⟩, .slice fa m fc] 55 (0, 0)) := hM7.cells hf6 (by decide) (by simp); refine wpAnyZ_one' (i := 9) (by kernel_rfl) rfl (fun K hK => ?_); refine step_run (by rfl) (.tmp 24) (.tmp 27) 52 (by rfl) _ _ (by rfl) (by rfl) hrun7 ?_; refine hK.out _ _ (fun _ _ => ⟨hbx7, hf7⟩) ?_; clear hK K hrun7 ho7 hg7; (try simp only [Act.put, zq1, zq2, zq3]); refine zTk 10 ?_; simp only [Act.put, zq1, zq2, zq3]; refine zTk 11 ?_; simp only [Act.put, zq1, zq2, zq3]; refine zTk 12 ?_; simp only [Act.put, zq1, zq2, zq3]; have kq : w7.cell? ⟨d, 0, none⟩ = some (.slice a0 k c0) := (zCr hbx7).trans rfl
      have kf : w7.frozen? ⟨d, 0, none⟩ = false := by simp [World.frozen?, hbx7]
      have hfn : f ≠ d := fun hc => by
        rw [hc, hbx7] at hf7
        simp at hf7
      have HX : Hid ((w7.setCell ⟨d, 0, none⟩ (.slice b0 (k + 1) e0)).heap[f]? = some (.cells #[.string ⟨fs.toArray⟩, .slice fa m fc] 55 (0, 0))) := (heap_setCell_other w7 ⟨d, 0, none⟩ _ _ hfn).trans hf7; refine wpAnyZ_one' (i := 13) (by kernel_rfl) rfl (fun K hK => ?_); go_simp; refine hK.out _ _ (fun hc => (by cases hc)) ?_; clear hK K; (try simp only [Act.put]); refine wpAnyZ_done (by kernel_rfl) ?_ _; have HBN : Hid (NwSt w (w7.setCell ⟨d, 0, none⟩ (.slice b0 (k + 1) e0)) d cp (.slice b0 (k + 1) e0) (.slice a1 k c1) (.slice a2 k c2) (.slice a3 k c3) (ss ++ [⟨fs.toArray⟩]) zs ds vs xs k ∧ (w7.setCell ⟨d, 0, none⟩ (.slice b0 (k + 1) e0)).heap[f]? = some (.cells #[.string ⟨fs.toArray⟩, .slice fa m fc] 55 (0, 0))) := ⟨HP.out.2, HX.out⟩; clear kq kf hbx7 hf7 hM7 HP HX hn6 hf6 hfn HB0; generalize w7.setCell ⟨d, 0, none⟩ (.slice b0 (k + 1) e0) = W2 at HBN ⊢; have HB1 := HBN; clear HBN
      go_upto_region 6 with fail
      have k1 : W2.cell? ⟨d, 1, none⟩ = some (.slice a1 k c1) := (zCr HB1.out.1.box).trans rfl; have hB2 : w.heap.size ≤ W2.heap.size := HB1.out.1.gr.size
      have HO1 : Hid (W2.ownsRow w.heap.size 3 1 (.slice a1 k c1) k (zs.map iN)) := by have h9 := HB1.out.1.r1; rw [HL.out.2.1] at h9; exact h9
      go_upto_region 7 with (at_builtin; refine wpList_app2 rfl _ _ 57 rfl w.heap.size 3 Tryz.underlying57 Tryz.infoInt rfl (by decide) (.slice a1 k c1) k (zs.map iN) rfl HO1.out #[.int .i64 (k : Int)] W2.heap.size rfl rfl rfl rfl (by omega) (by decide) hB2 ?_)
      intro b1 e1 w7 h2 h3; have HP : Hid (_ ∧ _) := HB1.out.1.put1 (v' := .slice b1 (k + 1) e1) k (by omega) h3 (by rw [HL.out.2.1]; exact h2); have hbx7 := HP.out.1; have hM7 : Moves [] [3] W2 w7 := Moves.of_row HB1.out.1.r1 h3; have hf7 : w7.heap[f]? = some (.cells #[.string ⟨fs.toArray⟩, .slice fa m fc] 55 (0, 0)) := hM7.cells HB1.out.2 (by decide) (by simp); have kq : w7.cell? ⟨d, 1, none⟩ = some (.slice a1 k c1) := (zCr hbx7).trans rfl
      have kf : w7.frozen? ⟨d, 1, none⟩ = false := by simp [World.frozen?, hbx7]
      have hfn : f ≠ d := fun hc => by
        rw [hc, hbx7] at hf7
        simp at hf7
      have HBN : Hid (NwSt w (w7.setCell ⟨d, 1, none⟩ (.slice b1 (k + 1) e1)) d cp (.slice b0 (k + 1) e0) (.slice b1 (k + 1) e1) (.slice a2 k c2) (.slice a3 k c3) (ss ++ [⟨fs.toArray⟩]) (zs ++ [k]) ds vs xs k ∧ (w7.setCell ⟨d, 1, none⟩ (.slice b1 (k + 1) e1)).heap[f]? = some (.cells #[.string ⟨fs.toArray⟩, .slice fa m fc] 55 (0, 0))) := ⟨HP.out.2, (heap_setCell_other w7 ⟨d, 1, none⟩ _ _ hfn).trans hf7⟩; clear h2 h3 hM7 hbx7 hf7 hfn HP HB1 HO1 k1 hB2
      go_upto_region 7 with fail
      generalize w7.setCell ⟨d, 1, none⟩ (.slice b1 (k + 1) e1) = W3 at HBN ⊢; have HB2 := HBN; clear HBN kq kf; refine wp_region_Z (fun Y => Y.heap[d]? = some (.cells #[.slice b0 (k + 1) e0, .slice b1 (k + 1) e1, .slice a2 k c2, .slice none 0 0, .slice none 0 0, .slice none 0 0, .slice none 0 0, .int .i64 cp, .int .i64 (-1), .bool false, .slice a3 k c3] 63 (0, 0)) ∧ Y.heap[f]? = some (.cells #[.string ⟨fs.toArray⟩, .slice fa m fc] 55 (0, 0))) (fun j => j == 15) (by kernel_rfl) ?_; have hS : W3.drew.heap[d]? = some (.cells #[.slice b0 (k + 1) e0, .slice b1 (k + 1) e1, .slice a2 k c2, .slice none 0 0, .slice none 0 0, .slice none 0 0, .slice none 0 0, .int .i64 cp, .int .i64 (-1), .bool false, .slice a3 k c3] 63 (0, 0)) ∧ W3.drew.heap[f]? = some (.cells #[.string ⟨fs.toArray⟩, .slice fa m fc] 55 (0, 0)) := ⟨HB2.out.1.box, HB2.out.2⟩; refine zTk 0 ?_; simp only [Act.put, zq1, zq2, zq3]; refine zTk 1 ?_; simp only [Act.put, zq1, zq2, zq3]; refine zTk 2 ?_; simp only [Act.put, zq1, zq2, zq3]; refine zTk 3 ?_; simp only [Act.put, zq1, zq2, zq3]; refine zTk 4 ?_; simp only [Act.put, zq1, zq2, zq3]; refine zLd 5 15 rfl hS (by intro W hW; have z0 : W.cell? ⟨d, 2, none⟩ = some (.slice a2 k c2) := (zCr hW.1).trans rfl; go_simp; first | done | with_reducible rfl) ?_; simp only [Act.put, zq1, zq2, zq3]; refine zTk 7 ?_; simp only [Act.put, zq1, zq2, zq3]; refine zLd 8 15 rfl hS (by intro W hW; have z0 : W.cell? ⟨f, 1, none⟩ = some (.slice fa m fc) := (zCr hW.2).trans rfl; go_simp; first | done | with_reducible rfl) ?_; simp only [Act.put, zq1, zq2, zq3]; clear hS; refine wpAnyZ_one' (i := 6) (by kernel_rfl) rfl (fun K hK => ?_); go_simp; have hga : W3.grownBy (W3.alloc (.cells #[] 5)).drew none := grownBy_drew (World.grownBy_alloc W3 _ none); refine hK.out _ _ (fun _ _ => ⟨grown_blk hga HB2.out.1.box, grown_blk hga HB2.out.2⟩) ?_; clear hK K; (try simp only [Act.put, zq1, zq2, zq3])
      obtain ⟨yv, w6, hrun6, hr6, hg6, -⟩ := run_app_row (w := (W3.alloc (.cells #[] 5)).drew) (B := W3.heap.size) (v := .slice (some ⟨W3.heap.size, 0, none⟩) 0 0) (L := []) (ty := 22) (brow_nil _ _ _) (c := fc) (by
        obtain ⟨fa', fc', hfe, hfs⟩ := HFD.out.1.sl; simp only [Value.slice.injEq] at hfe; obtain ⟨rfl, -, -⟩ := hfe; rw [HFD.out.2.1] at hfs
        exact hfs.grown0 (grownBy_trans HB2.out.1.gr hga)) (by simp; omega) (by simp)
      have hg6 : W3.grownBy w6 none := grown_step hga hg6 (by simp [rowBlk]); rw [List.nil_append] at hr6; obtain ⟨ya, yc, rfl, hyc⟩ := hr6.is; rw [HFD.out.2.1] at hrun6 hr6; have HR6 : Hid (BV w6 (.slice ya m yc) fd ∧ W3.grownBy w6 none) := ⟨by have h9 := BV.of_row hr6; exact h9, hg6⟩; refine wpAnyZ_one' (i := 9) (by kernel_rfl) rfl (fun K hK => ?_); refine step_run (by rfl) (.tmp 50) (.tmp 52) 22 (by rfl) _ _ (by rfl) (by rfl) hrun6 ?_; refine hK.out _ _ (fun _ _ => ⟨grown_blk hg6 HB2.out.1.box, grown_blk hg6 HB2.out.2⟩) ?_; clear hK K hrun6 hga hr6 hg6 hyc; (try simp only [Act.put, zq1, zq2, zq3]); have hn6 := HB2.out.1.grown0 HR6.out.2; have hf6 := grown_blk HR6.out.2 HB2.out.2; refine wpAnyZ_one' (i := 10) (by kernel_rfl) rfl (fun K hK => ?_); go_simp; have hgb : w6.grownBy (w6.alloc (.cells #[.slice ya m yc] 22)) none := World.grownBy_alloc w6 _ none; refine hK.out _ _ (fun _ _ => ⟨grown_blk hgb hn6.box, grown_blk hgb hf6⟩) ?_; clear hK K hgb; (try simp only [Act.put, zq1, zq2, zq3]); obtain ⟨b2, e2, w7, hrun7, ho7, hg7⟩ := run_app1 (P := Tryz.prog) (w0 := w6) 58 58 w.heap.size 22 Tryz.underlying58 Tryz.infoBs rfl (by decide) (.slice a2 k c2) k vs (by have h9 := hn6.r2; rw [HL.out.2.2] at h9; exact h9) #[.slice ya m yc] w6.heap.size rfl rfl rfl (by omega) (by decide) hn6.gr.size; have HP : Hid (_ ∧ _) := hn6.put2 (v' := .slice b2 (k + 1) e2) (.slice ya m yc) fd (by rw [HFD.out.2.1]; omega) HR6.out.1 hg7 (by rw [HL.out.2.2]; exact ho7); have hbx7 := HP.out.1; have hM7 : Moves [] [22] w6 w7 := Moves.of_row hn6.r2 hg7; have hf7 : w7.heap[f]? = some (.cells #[.string ⟨fs.toArray⟩, .slice fa m fc] 55 (0, 0)) := hM7.cells hf6 (by decide) (by simp); refine wpAnyZ_one' (i := 11) (by kernel_rfl) rfl (fun K hK => ?_); refine step_run (by rfl) (.tmp 49) (.tmp 54) 58 (by rfl) _ _ (by rfl) (by rfl) hrun7 ?_; refine hK.out _ _ (fun _ _ => ⟨hbx7, hf7⟩) ?_; clear hK K hrun7 ho7 hg7; (try simp only [Act.put, zq1, zq2, zq3]); refine zTk 12 ?_; simp only [Act.put, zq1, zq2, zq3]; refine zTk 13 ?_; simp only [Act.put, zq1, zq2, zq3]; refine zTk 14 ?_; simp only [Act.put, zq1, zq2, zq3]; have kq : w7.cell? ⟨d, 2, none⟩ = some (.slice a2 k c2) := (zCr hbx7).trans rfl
      have kf : w7.frozen? ⟨d, 2, none⟩ = false := by simp [World.frozen?, hbx7]
      have hfn : f ≠ d := fun hc => by
        rw [hc, hbx7] at hf7
        simp at hf7
      have HX : Hid ((w7.setCell ⟨d, 2, none⟩ (.slice b2 (k + 1) e2)).heap[f]? = some (.cells #[.string ⟨fs.toArray⟩, .slice fa m fc] 55 (0, 0))) := (heap_setCell_other w7 ⟨d, 2, none⟩ _ _ hfn).trans hf7; refine wpAnyZ_one' (i := 15) (by kernel_rfl) rfl (fun K hK => ?_); go_simp; refine hK.out _ _ (fun hc => (by cases hc)) ?_; clear hK K; (try simp only [Act.put]); refine wpAnyZ_done (by kernel_rfl) ?_ _; have HBN : Hid (NwSt w (w7.setCell ⟨d, 2, none⟩ (.slice b2 (k + 1) e2)) d cp (.slice b0 (k + 1) e0) (.slice b1 (k + 1) e1) (.slice b2 (k + 1) e2) (.slice a3 k c3) (ss ++ [⟨fs.toArray⟩]) (zs ++ [k]) (ds ++ [fd]) (vs ++ [.slice ya m yc]) xs k ∧ (w7.setCell ⟨d, 2, none⟩ (.slice b2 (k + 1) e2)).heap[f]? = some (.cells #[.string ⟨fs.toArray⟩, .slice fa m fc] 55 (0, 0))) := ⟨HP.out.2, HX.out⟩; clear kq kf hbx7 hf7 hM7 HP HX hn6 hf6 hfn HB2; generalize w7.setCell ⟨d, 2, none⟩ (.slice b2 (k + 1) e2) = W4 at HBN ⊢; have HB3 := HBN; clear HBN
      go_upto_region 8 with fail
      refine wp_region_Z (fun Y => Y.heap[d]? = some (.cells #[.slice b0 (k + 1) e0, .slice b1 (k + 1) e1, .slice b2 (k + 1) e2, .slice none 0 0, .slice none 0 0, .slice none 0 0, .slice none 0 0, .int .i64 cp, .int .i64 (-1), .bool false, .slice a3 k c3] 63 (0, 0)) ∧ Y.heap[f]? = some (.cells #[.string ⟨fs.toArray⟩, .slice fa m fc] 55 (0, 0))) (fun j => j == 15) (by kernel_rfl) ?_; have hS : W4.drew.heap[d]? = some (.cells #[.slice b0 (k + 1) e0, .slice b1 (k + 1) e1, .slice b2 (k + 1) e2, .slice none 0 0, .slice none 0 0, .slice none 0 0, .slice none 0 0, .int .i64 cp, .int .i64 (-1), .bool false, .slice a3 k c3] 63 (0, 0)) ∧ W4.drew.heap[f]? = some (.cells #[.string ⟨fs.toArray⟩, .slice fa m fc] 55 (0, 0)) := ⟨HB3.out.1.box, HB3.out.2⟩; refine zTk 0 ?_; simp only [Act.put, zq1, zq2, zq3]; refine zTk 1 ?_; simp only [Act.put, zq1, zq2, zq3]; refine zTk 2 ?_; simp only [Act.put, zq1, zq2, zq3]; refine zTk 3 ?_; simp only [Act.put, zq1, zq2, zq3]; refine zLd 4 15 rfl hS (by intro W hW; have z0 : W.cell? ⟨d, 10, none⟩ = some (.slice a3 k c3) := (zCr hW.1).trans rfl; go_simp; first | done | with_reducible rfl) ?_; simp only [Act.put, zq1, zq2, zq3]; refine zTk 5 ?_; simp only [Act.put, zq1, zq2, zq3]; refine zTk 7 ?_; simp only [Act.put, zq1, zq2, zq3]; refine zLd 8 15 rfl hS (by intro W hW; have z0 : W.cell? ⟨f, 1, none⟩ = some (.slice fa m fc) := (zCr hW.2).trans rfl; go_simp; first | done | with_reducible rfl) ?_; simp only [Act.put, zq1, zq2, zq3]; clear hS; refine wpAnyZ_one' (i := 6) (by kernel_rfl) rfl (fun K hK => ?_); go_simp; have hga : W4.grownBy (W4.alloc (.cells #[] 5)).drew none := grownBy_drew (World.grownBy_alloc W4 _ none); refine hK.out _ _ (fun _ _ => ⟨grown_blk hga HB3.out.1.box, grown_blk hga HB3.out.2⟩) ?_; clear hK K; (try simp only [Act.put, zq1, zq2, zq3])
      obtain ⟨yv, w6, hrun6, hr6, hg6, -⟩ := run_app_row (w := (W4.alloc (.cells #[] 5)).drew) (B := W4.heap.size) (v := .slice (some ⟨W4.heap.size, 0, none⟩) 0 0) (L := []) (ty := 22) (brow_nil _ _ _) (c := fc) (by
        obtain ⟨fa', fc', hfe, hfs⟩ := HFD.out.1.sl; simp only [Value.slice.injEq] at hfe; obtain ⟨rfl, -, -⟩ := hfe; rw [HFD.out.2.1] at hfs
        exact hfs.grown0 (grownBy_trans HB3.out.1.gr hga)) (by simp; omega) (by simp)
      have hg6 : W4.grownBy w6 none := grown_step hga hg6 (by simp [rowBlk]); rw [List.nil_append] at hr6; obtain ⟨ya3, yc3, rfl, hyc3⟩ := hr6.is; rw [HFD.out.2.1] at hrun6 hr6; have HR6 : Hid (BV w6 (.slice ya3 m yc3) fd ∧ W4.grownBy w6 none) := ⟨by have h9 := BV.of_row hr6; exact h9, hg6⟩; refine wpAnyZ_one' (i := 9) (by kernel_rfl) rfl (fun K hK => ?_); refine step_run (by rfl) (.tmp 65) (.tmp 67) 22 (by rfl) _ _ (by rfl) (by rfl) hrun6 ?_; refine hK.out _ _ (fun _ _ => ⟨grown_blk hg6 HB3.out.1.box, grown_blk hg6 HB3.out.2⟩) ?_; clear hK K hrun6 hga hr6 hg6 hyc3; (try simp only [Act.put, zq1, zq2, zq3]); have hn6 := HB3.out.1.grown0 HR6.out.2; have hf6 := grown_blk HR6.out.2 HB3.out.2; refine zTk 10 ?_; simp only [Act.put, zq1, zq2, zq3]; refine wpAnyZ_one' (i := 11) (by kernel_rfl) rfl (fun K hK => ?_); go_simp; have hgb : w6.grownBy (w6.alloc (.cells #[.int .i64 1, .int .i64 (k : Int), .int .i64 0, .slice ya3 m yc3, .slice none 0 0, .slice none 0 0] 65)) none := World.grownBy_alloc w6 _ none; refine hK.out _ _ (fun _ _ => ⟨grown_blk hgb hn6.box, grown_blk hgb hf6⟩) ?_; clear hK K hgb; (try simp only [Act.put, zq1, zq2, zq3]); obtain ⟨b3, e3, w7, hrun7, ho7, hg7⟩ := run_app1 (P := Tryz.prog) (w0 := w6) 61 61 w.heap.size 65 Tryz.underlying61 Tryz.infoCh rfl (by decide) (.slice a3 k c3) k xs (by have h9 := hn6.r3; exact h9) #[.int .i64 1, .int .i64 (k : Int), .int .i64 0, .slice ya3 m yc3, .slice none 0 0, .slice none 0 0] w6.heap.size rfl rfl rfl (by omega) (by decide) hn6.gr.size; have HP : Hid (_ ∧ _) := hn6.put3 (v' := .slice b3 (k + 1) e3) hg7 ho7; have hbx7 := HP.out.1; have hM7 : Moves [] [65] w6 w7 := Moves.of_row hn6.r3 hg7; have hf7 : w7.heap[f]? = some (.cells #[.string ⟨fs.toArray⟩, .slice fa m fc] 55 (0, 0)) := hM7.cells hf6 (by decide) (by simp); refine wpAnyZ_one' (i := 12) (by kernel_rfl) rfl (fun K hK => ?_); refine step_run (by rfl) (.tmp 63) (.tmp 70) 61 (by rfl) _ _ (by rfl) (by rfl) hrun7 ?_; refine hK.out _ _ (fun _ _ => ⟨hbx7, hf7⟩) ?_; clear hK K hrun7 ho7 hg7; (try simp only [Act.put, zq1, zq2, zq3]); refine zTk 13 ?_; simp only [Act.put, zq1, zq2, zq3]; refine zTk 14 ?_; simp only [Act.put, zq1, zq2, zq3]; have kq : w7.cell? ⟨d, 10, none⟩ = some (.slice a3 k c3) := (zCr hbx7).trans rfl
      have kf : w7.frozen? ⟨d, 10, none⟩ = false := by simp [World.frozen?, hbx7]
      have hfn : f ≠ d := fun hc => by
        rw [hc, hbx7] at hf7
        simp at hf7
      have HX : Hid ((w7.setCell ⟨d, 10, none⟩ (.slice b3 (k + 1) e3)).heap[f]? = some (.cells #[.string ⟨fs.toArray⟩, .slice fa m fc] 55 (0, 0))) := (heap_setCell_other w7 ⟨d, 10, none⟩ _ _ hfn).trans hf7; refine wpAnyZ_one' (i := 15) (by kernel_rfl) rfl (fun K hK => ?_); go_simp; refine hK.out _ _ (fun hc => (by cases hc)) ?_; clear hK K; (try simp only [Act.put]); refine wpAnyZ_done (by kernel_rfl) ?_ _; have HBN : Hid (NwSt w (w7.setCell ⟨d, 10, none⟩ (.slice b3 (k + 1) e3)) d cp (.slice b0 (k + 1) e0) (.slice b1 (k + 1) e1) (.slice b2 (k + 1) e2) (.slice b3 (k + 1) e3) (ss ++ [⟨fs.toArray⟩]) (zs ++ [k]) (ds ++ [fd]) (vs ++ [.slice ya m yc]) _ (k + 1) ∧ (w7.setCell ⟨d, 10, none⟩ (.slice b3 (k + 1) e3)).heap[f]? = some (.cells #[.string ⟨fs.toArray⟩, .slice fa m fc] 55 (0, 0))) := ⟨HP.out.2, HX.out⟩; clear kq kf hbx7 hf7 hM7 HP HX hn6 hf6 hfn HB3; generalize w7.setCell ⟨d, 10, none⟩ (.slice b3 (k + 1) e3) = W5 at HBN ⊢; have HB4 := HBN; clear HBN; go_wp2; go_roundw
      case rel => exact ⟨k + 1, _, _, _, _, _, _, _, _, _, by omega, by go_num, by simp [HL.out.1], by simp [HL.out.2.1], by simp [HL.out.2.2], HB4.out.1⟩
      case measure => simp [intOf]; omega
    · obtain rfl : k = n := by omega
      have k0 : wr.cell? ⟨d, 0, none⟩ = some (.slice a0 k c0) := (zCr HS.out.1.box).trans rfl; have k1 : wr.cell? ⟨d, 1, none⟩ = some (.slice a1 k c1) := (zCr HS.out.1.box).trans rfl; have k2 : wr.cell? ⟨d, 2, none⟩ = some (.slice a2 k c2) := (zCr HS.out.1.box).trans rfl; have hSm : (⟨ss, zs, ds⟩ : Dm).Sm 10 4 65536 := ⟨by show ss.length = zs.length; rw [HS.out.2.1, HS.out.2.2.1], by show ss.length ≤ 10; rw [HS.out.2.1]; omega, by show ds.length ≤ 4 + 1; rw [HS.out.2.2.2]; omega, HS.out.1.zz, HS.out.1.sz, HS.out.1.dz⟩; have HC : Hid (Calls _ _ _ _ _) := l1Copy_any (.slice a0 k c0) (.slice a1 k c1) (.slice a2 k c2) ⟨ss, zs, ds⟩ 10 4 65536 wr HS.out.1.dir hSm (by omega) (by omega); have HSM : Hid ((⟨ss, zs, ds⟩ : Dm).Sm 10 4 65536) := hSm; clear hSm; go_wp2_with fail; refine HC.out.mono ?_; rintro e w5 ⟨u0, u1, u2, rfl, ⟨q0, q1, q2, hq, hd5, -⟩, hg5⟩; simp only [List.cons.injEq, and_true] at hq; obtain ⟨rfl, rfl, rfl⟩ := hq; obtain ⟨x0, y0, z0, x1, y1, z1, x2, y2, z2, rfl, rfl, rfl, -⟩ := hd5.vals; have hS5 := HS.out.1.grown0 hg5; have hT : w5.there d 3 3 := there_at hS5.box (by simp); have HF : Hid (_ ∧ _) := hS5.fin hd5 HSM.out (by omega); clear HC k0 k1 k2 hS5 hd5 hg5
      go_upto_region 11 with (refine wpList_store_mid (by rfl) 60 (.tmp 82) (.tmp 80) (by rfl) d 3 #[.slice x0 y0 z0, .slice x1 y1 z1, .slice x2 y2 z2] (by rfl) (by rfl) hT (by exact Tryz.sizeDir) (all_oneCell_toArray (List.all_eq_true.1 rfl)) ?_; simp only [Act.put])
      go_wp2; go_ret; obtain ⟨⟨M, hM⟩, hg⟩ := HF.out; exact ⟨⟨d, M, rfl, hM⟩, hg⟩
structure Opv where
  kd : Int
  a : Int
  nm : ByteArray
  tn : ByteArray
  da : Option Addr
  dn : Nat
  dc : Nat
  D : List Nat
def Opv.cells (o : Opv) : List Value := [.int .i64 o.kd, .int .i64 o.a, .string o.nm, .string o.tn, .slice o.da o.dn o.dc]
def Opv.G (w : World) (o : Opv) : Prop := OpG w o.kd o.a o.nm o.tn o.da o.dn o.dc o.D
theorem ops_at : ∀ {os : List Opv} {i : Nat} {o : Opv}, os[i]? = some o → ∀ j v, o.cells[j]? = some v → (os.flatMap Opv.cells)[i * 5 + j]? = some v
  | o' :: os, 0, o, h, j, v, hv => by
    simp only [List.getElem?_cons_zero, Option.some.injEq] at h; subst h; have hj := (List.getElem?_eq_some_iff.1 hv).1; rw [List.flatMap_cons, Nat.zero_mul, Nat.zero_add, List.getElem?_append_left hj]; exact hv
  | o' :: os, i + 1, o, h, j, v, hv => by
    simp only [List.getElem?_cons_succ] at h; have h9 := ops_at h j v hv; have hl : o'.cells.length = 5 := rfl; rw [List.flatMap_cons, List.getElem?_append_right (by omega), show (i + 1) * 5 + j - o'.cells.length = i * 5 + j by omega]; exact h9
structure OpsR (w : World) (B : Nat) (v : Value) (os : List Opv) : Prop where
  row : w.ownsRow B 33 5 v os.length (os.flatMap Opv.cells)
  g : ∀ o ∈ os, o.G w
theorem OpsR.mv {w w' : World} {B : Nat} {v : Value} {os : List Opv} {ts : List TypeId} (h : OpsR w B v os) (hM : Moves [] ts w w') (h1 : 33 ∉ ts) (h2 : 5 ∉ ts) : OpsR w' B v os := ⟨own_mv h.row hM h1, fun o ho => OpG.mv (h.g o ho) hM h2⟩
theorem OpsR.grown0 {w w' : World} {B : Nat} {v : Value} {os : List Opv} (h : OpsR w B v os) (hg : w.grownBy w' none) : OpsR w' B v os := h.mv (ts := []) (Moves.of_grown0 hg) (by simp) (by simp)
theorem OpsR.push {w w' : World} {B : Nat} {v v' : Value} {os : List Opv} {o : Opv} (h : OpsR w B v os) (hg : w.grownBy w' v.ownBlock) (ho : w'.ownsRow B 33 5 v' (os.length + 1) (os.flatMap Opv.cells ++ o.cells)) (hG : o.G w) : OpsR w' B v' (os ++ [o]) := by
  have hM : Moves [] [33] w w' := Moves.of_row h.row hg; refine ⟨?_, fun x hx => ?_⟩
  · rw [List.length_append, List.flatMap_append, show [o].flatMap Opv.cells = o.cells by simp]; exact ho
  · rcases List.mem_append.1 hx with h9 | h9
    · exact OpG.mv (h.g x h9) hM (by decide)
    · obtain rfl : x = o := by simpa using h9
      exact OpG.mv hG hM (by decide)
theorem OpsR.cell {w : World} {B n cap : Nat} {oa : Option Addr} {os : List Opv} (h : OpsR w B (.slice oa n cap) os) (hn : os.length = n) {i : Nat} {o : Opv} (ho : os[i]? = some o) : ∃ g, oa = some ⟨g, 0, none⟩ ∧ w.cell? ⟨g, i * 5, none⟩ = some (.int .i64 o.kd) ∧ w.cell? ⟨g, i * 5 + 1, none⟩ = some (.int .i64 o.a) ∧ w.cell? ⟨g, i * 5 + 2, none⟩ = some (.string o.nm) ∧ w.cell? ⟨g, i * 5 + 3, none⟩ = some (.string o.tn) ∧ w.cell? ⟨g, i * 5 + 4, none⟩ = some (.slice o.da o.dn o.dc) := by
  have hr := h.row; rw [hn] at hr; obtain ⟨g, h0, k0⟩ := own_cell hr (ops_at ho 0 _ rfl); obtain ⟨g1, h1, k1⟩ := own_cell hr (ops_at ho 1 _ rfl); obtain ⟨g2, h2, k2⟩ := own_cell hr (ops_at ho 2 _ rfl); obtain ⟨g3, h3, k3⟩ := own_cell hr (ops_at ho 3 _ rfl); obtain ⟨g4, h4, k4⟩ := own_cell hr (ops_at ho 4 _ rfl); subst h0; simp only [Option.some.injEq, Addr.mk.injEq, and_true] at h1 h2 h3 h4; subst h1; subst h2; subst h3; subst h4; exact ⟨g, rfl, k0, k1, k2, k3, k4⟩
theorem Src.low {w w' : World} {g N : Nat} {zs : List Nat} (h : Src w g zs) (hl : ∀ j, j < N → w'.heap[j]? = w.heap[j]?) (hg : g < N) : Src w' g zs := by
  obtain ⟨oa, len, cap, i, x, hb, hs, hn, h1, h2, h3⟩ := h; refine ⟨oa, len, cap, i, x, (hl g hg).trans hb, ⟨hs.1, hs.2.1, fun hz => ?_⟩, hn, h1, h2, h3⟩; obtain ⟨b, off, e, hc⟩ := hs.2.2 hz; have hbg := hn hz b off e; exact ⟨b, off, e, fun j hj => (World.cell?_of_block (w := w) (w' := w') (a := ⟨b, _, none⟩) (hl b (by omega))).trans (hc j hj)⟩
theorem Tryz.infoOp : (Tryz.prog.info? 33).map (fun i => (i.zero, i.size, i.bytes)) = some (some (.agg #[.int .i64 0, .int .i64 0, .string ⟨#[]⟩, .string ⟨#[]⟩, .slice none 0 0]), 5, 72) := by kernel_rfl
structure DoS (w wr : World) (s d n0 : Nat) (zs : List Nat) (k : Nat) (v : Value) (os : List Opv) (M : Mk) : Prop where
  dk : MkAt wr ⟨n0, fun j => wr.heap[j]?⟩ d M (Nb k) (4 + k) 65536 (Qb k)
  ops : OpsR wr n0 v os
  src : Src wr s zs
  gr : w.grownBy wr (some s)
  sl : s < w.heap.size
  sz : w.heap.size = n0
section
variable {w X Y : World} {s d n0 : Nat} {zs : List Nat} {k : Nat} {v v' : Value} {os : List Opv} {M : Mk}
theorem DoS.draw (h : DoS w X s d n0 zs k v os M) (hs : Src Y s zs) (hg : X.grownBy Y (some s)) : DoS w Y s d n0 zs k v os M :=
  ⟨h.dk.src h.src hg, h.ops.mv (h.src.mv hg) (by decide) (by decide), hs, grownBy_trans h.gr hg, h.sl, h.sz⟩
theorem DoS.grown0 (h : DoS w X s d n0 zs k v os M) (hg : X.grownBy Y none) : DoS w Y s d n0 zs k v os M := h.draw (h.src.grown0 hg) (grownBy_weak hg)
theorem DoS.did (h : DoS w X s d n0 zs k v os M) (hd : DoOutM X Y ⟨n0, fun j => X.heap[j]?⟩ d (Nb (k + 1)) (4 + (k + 1)) 65536 (Qb (k + 1))) : ∃ M', DoS w Y s d n0 zs (k + 1) v os M' := by
  obtain ⟨⟨M', hM⟩, hm⟩ := hd; have hfr : ∀ j, j < n0 → Y.heap[j]? = X.heap[j]? := hM.fr; have h1 := h.sl; have h2 := h.sz; refine ⟨M', hM.mv (Moves.refl [] [] _) (by simp) (by simp) (by simp), h.ops.mv hm (by decide) (by decide), h.src.low hfr (by omega), ?_, h.sl, h.sz⟩; exact ⟨hm.os.trans h.gr.os, hm.tape.trans h.gr.tape, hm.output.trans h.gr.output, Nat.le_trans h.gr.size hm.size, fun j hj hne => (hfr j (by omega)).trans (h.gr.block j hj hne)⟩
theorem DoS.push {o : Opv} (h : DoS w X s d n0 zs k v os M) (hg : X.grownBy Y v.ownBlock) (ho : Y.ownsRow n0 33 5 v' (os.length + 1) (os.flatMap Opv.cells ++ o.cells)) (hG : o.G X) : DoS w Y s d n0 zs k v' (os ++ [o]) M := by
  have hM : Moves [] [33] X Y := Moves.of_row h.ops.row hg
  have hb : ∀ q, v.ownBlock = some q → n0 ≤ q := fun q hq => own1_base h.ops.row hq
  have h1 := h.sl; have h2 := h.sz; have h3 := h.gr.size; refine ⟨h.dk.mv hM tyOp (by decide) (by decide), h.ops.push hg ho hG, h.src.grown hg (fun q hq => by have := hb q hq; omega), ?_, h.sl, h.sz⟩; exact ⟨hg.os.trans h.gr.os, hg.tape.trans h.gr.tape, hg.output.trans h.gr.output, Nat.le_trans h.gr.size hg.size, fun j hj hne => (hg.block j (by omega) (fun hc => by have := hb j hc.symm; omega)).trans (h.gr.block j hj hne)⟩
end
set_option maxHeartbeats 4000000 in
theorem drawOps_any (s : Nat) (zs : List Nat) (fv : Value) (B0 : Nat) (F : List (List UInt8 × List Nat)) (cap : Int) (n : Nat) (w : World) (hs : Src w s zs) (hf : FlAt w B0 fv F) (hF : ImF F 4) (hn : n ≤ 60) :
    Calls Tryz.prog 7 #[.pointer (some ⟨s, 0, none⟩), fv, .int .i64 cap, .int .i64 (n : Int)] w fun e w' => (∃ oa c os, e = .returned (.slice oa n c) ∧ OpsR w' w.heap.size (.slice oa n c) os ∧ os.length = n) ∧ Src w' s zs ∧ w.grownBy w' (some s) := by
  have hsl := hs.lt; have HS : Hid (Src w s zs) := hs; have HN : Hid (Calls _ _ _ _ _) := new_any fv B0 F cap w hf hF; clear hs hf hF
  go_enter Tryz.func7, Tryz.ntmps7
  go_wp2_with fail; refine HN.out.mono ?_; rintro e w1 ⟨⟨d, M, rfl, hmk⟩, hg1⟩; obtain ⟨n0, hn0⟩ : ∃ y, w.heap.size = y := ⟨_, rfl⟩; rw [hn0] at hmk
  have HS0 : Hid (DoS w (w1.alloc (.cells #[] 33)) s d n0 zs 0 (.slice (some ⟨w1.heap.size, 0, none⟩) 0 0) [] M ∧ w.heap.size = n0) := by
    have hga := World.grownBy_alloc w1 (.cells #[] 33) none; have hz := hg1.size; exact ⟨⟨hmk.mv (ts := []) (Moves.of_grown0 hga) (by simp) (by simp) (by simp), ⟨⟨rfl, .inr ⟨_, 0, _, rfl, by omega, heap_alloc_new w1 _, Nat.le_refl _, Nat.zero_le _, rfl, rfl⟩⟩, by simp⟩, (HS.out.grown0 hg1).grown0 hga, grownBy_weak (grownBy_trans hg1 hga), hsl, hn0⟩, hn0⟩
  clear hmk hg1 HN HS hn0; go_wp2; generalize w1.alloc (.cells #[] 33) = W0 at HS0 ⊢; generalize w1.heap.size = g0 at HS0 ⊢
  go_loopw [10, 11] (fun v iv wr => ∃ (k : Nat) (os : List Opv) (M : Mk), k ≤ n ∧ iv = .int .i64 (k : Int) ∧ os.length = k ∧ (∃ oa c, v = .slice oa k c) ∧ DoS w wr s d n0 zs k v os M) (fun _ iv _ => n - (intOf iv).toNat)
  case atStart => exact ⟨0, [], M, Nat.zero_le _, rfl, rfl, ⟨_, _, rfl⟩, HS0.out.1⟩
  case round =>
    obtain ⟨k, os, M1, hk, rfl, hol, ⟨oa, c, rfl⟩, hst⟩ := hrel; have HD : Hid (DoS w wr s d n0 zs k (.slice oa k c) os M1 ∧ os.length = k ∧ w.heap.size = n0) := ⟨hst, hol, HS0.out.2⟩; clear hst hol HS0
    by_cases hlt : k < n
    · have hltI : (k : Int) < (n : Int) := by omega
      have v1 : IntKind.i64.wrap ((k : Int) + 1) = (k : Int) + 1 := IntWalk.i64_in _ (by omega); have hNk := Nb_le (k := k) (by omega); have hQk : Qb k = 10 + 101 * k := rfl; go_wp2_with fail; refine (drawOp_any s d zs _ M1 _ _ _ _ wr HD.out.1.src HD.out.1.dk ⟨by omega, by omega, by omega⟩).mono ?_; rintro e X1 ⟨⟨kd, a, nm, tn, da, dn, dc, D, rfl, hG⟩, hs9, hg9⟩; have HD2 : Hid (DoS w (X1.alloc (.cells #[.int .i64 kd, .int .i64 a, .string nm, .string tn, .slice da dn dc] 33)) s d n0 zs k (.slice oa k c) os M1 ∧ OpG (X1.alloc (.cells #[.int .i64 kd, .int .i64 a, .string nm, .string tn, .slice da dn dc] 33)) kd a nm tn da dn dc D ∧ (X1.alloc (.cells #[.int .i64 kd, .int .i64 a, .string nm, .string tn, .slice da dn dc] 33)).heap[X1.heap.size]? = some (.cells #[.int .i64 kd, .int .i64 a, .string nm, .string tn, .slice da dn dc] 33 (0, 0)) ∧ os.length = k ∧ w.heap.size = n0) := ⟨(HD.out.1.draw hs9 hg9).grown0 (World.grownBy_alloc _ _ none), hG.grown0 (World.grownBy_alloc _ _ none), heap_alloc_new X1 _, HD.out.2⟩; clear hs9 hg9 hG HD hNk hQk
      go_upto_region 7 with fail
      generalize X1.alloc (.cells #[.int .i64 kd, .int .i64 a, .string nm, .string tn, .slice da dn dc] 33) = X2 at HD2 ⊢; generalize X1.heap.size = b at HD2 ⊢; have c0 : X2.cell? ⟨b, 0, none⟩ = some (.int .i64 kd) := (zCr HD2.out.2.2.1).trans rfl; have c1 : X2.cell? ⟨b, 1, none⟩ = some (.int .i64 a) := (zCr HD2.out.2.2.1).trans rfl; have c2 : X2.cell? ⟨b, 2, none⟩ = some (.string nm) := (zCr HD2.out.2.2.1).trans rfl; have c3 : X2.cell? ⟨b, 3, none⟩ = some (.string tn) := (zCr HD2.out.2.2.1).trans rfl; have c4 : X2.cell? ⟨b, 4, none⟩ = some (.slice da dn dc) := (zCr HD2.out.2.2.1).trans rfl; go_wp2_with fail; refine (do_anyM k d _ M1 kd a nm tn da dn dc D X2 (by omega) HD2.out.1.dk HD2.out.2.1).mono ?_; rintro e X3 ⟨⟨u0, u1, rfl⟩, hdo⟩; obtain ⟨M3, hd3⟩ := HD2.out.1.did hdo; have hb3 : X3.heap[b]? = some (.cells #[.int .i64 kd, .int .i64 a, .string nm, .string tn, .slice da dn dc] 33 (0, 0)) := hdo.2.cells HD2.out.2.2.1 (by decide) (by simp); have HD3 : Hid (DoS w X3 s d n0 zs (k + 1) (.slice oa k c) os M3 ∧ OpG X3 kd a nm tn da dn dc D ∧ os.length = k ∧ w.heap.size = n0) := ⟨hd3, HD2.out.2.1.mv hdo.2 (by decide), HD2.out.2.2.2⟩; clear c0 c1 c2 c3 c4 HD2 hdo hd3; have c0 : X3.cell? ⟨b, 0, none⟩ = some (.int .i64 kd) := (zCr hb3).trans rfl; have c1 : X3.cell? ⟨b, 1, none⟩ = some (.int .i64 a) := (zCr hb3).trans rfl; have c2 : X3.cell? ⟨b, 2, none⟩ = some (.string nm) := (zCr hb3).trans rfl; have c3 : X3.cell? ⟨b, 3, none⟩ = some (.string tn) := (zCr hb3).trans rfl; have c4 : X3.cell? ⟨b, 4, none⟩ = some (.slice da dn dc) := (zCr hb3).trans rfl
      have HO : Hid (X3.ownsRow n0 33 5 (.slice oa k c) k (os.flatMap Opv.cells)) := by have h9 := HD3.out.1.ops.row; rw [HD3.out.2.2.1] at h9; exact h9
      have hB : n0 ≤ X3.heap.size := by have h9 := HD3.out.1.gr.size; rw [HD3.out.2.2.2] at h9; exact h9
      clear hb3
      go_upto_region 5 with (at_builtin; refine wpList_app2 rfl _ _ 27 rfl n0 33 Tryz.underlying27 Tryz.infoOp rfl (by decide) (.slice oa k c) k (os.flatMap Opv.cells) rfl HO.out #[.int .i64 kd, .int .i64 a, .string nm, .string tn, .slice da dn dc] X3.heap.size rfl rfl rfl rfl (by omega) (by decide) hB ?_)
      intro oa2 c2' X4 h2 h3; have HD4 : Hid (DoS w X4 s d n0 zs (k + 1) (.slice oa2 (k + 1) c2') (os ++ [⟨kd, a, nm, tn, da, dn, dc, D⟩]) M3 ∧ os.length = k ∧ w.heap.size = n0) := ⟨HD3.out.1.push (o := ⟨kd, a, nm, tn, da, dn, dc, D⟩) h3 (by rw [HD3.out.2.2.1]; exact h2) HD3.out.2.1, HD3.out.2.2⟩; clear h2 h3 HD3 HO c0 c1 c2 c3 c4; go_wp2; go_roundw
      case rel => exact ⟨k + 1, _, M3, by omega, by go_num, by simp [HD4.out.2.1], ⟨_, _, rfl⟩, HD4.out.1⟩
      case measure => simp [intOf]; omega
    · obtain rfl : k = n := by omega
      have HF : Hid (OpsR wr w.heap.size (.slice oa k c) os ∧ os.length = k ∧ Src wr s zs ∧ w.grownBy wr (some s)) := ⟨by rw [HD.out.2.2]; exact HD.out.1.ops, HD.out.2.1, HD.out.1.src, HD.out.1.gr⟩; go_wp2; go_ret; exact ⟨⟨oa, c, os, rfl, HF.out.1, HF.out.2.1⟩, HF.out.2.2⟩
end Go.Proofs.YtgehhfncjoogiaaGreatDoor
namespace Go.Proofs.YtgehhfncjoogiaaGreatDoor
open Go.RowKit

def strB (zs : List Nat) : ByteArray := ⟨(zs.map UInt8.ofNat).toArray⟩
theorem strB_toList (zs : List Nat) : (strB zs).toList = zs.map UInt8.ofNat := by simp [strB]
theorem foldl_push (l : List Nat) : ∀ s : ByteArray, (l.map (fun n : Nat => (n : Int))).foldl (fun r n => r.push (UInt8.ofNat n.toNat)) s = ⟨s.data ++ (l.map UInt8.ofNat).toArray⟩ := by
  induction l with
  | nil => intro s; simp
  | cons x l ih =>
    intro s; simp only [List.map_cons, List.foldl_cons]; rw [ih]
    congr 1
    apply Array.ext'
    simp [ByteArray.push]
theorem run_str_b {P : Program} (w : World) {src dst e : TypeId} (hs : P.underlying src = some (.slice e)) (he : P.underlying e = some (.int .u8)) (hd : P.underlying dst = some .string)
    {oa : Option Addr} {n : Nat} {zs : List Nat} (h : SlB w oa n zs) (c : Nat) : (convert src dst (.slice oa n c)).run P w = .ok (.string (strB zs)) w := by
  rw [run_convert_bytes_string w src dst e oa n c hs he hd]
  by_cases hn : n = 0
  · subst hn; obtain rfl : zs = [] := List.eq_nil_of_length_eq_zero h.1
    cases oa with
    | none => rfl
    | some a =>
      rw [run_bytesToString w a 0 c [] (by rfl)]
      rfl
  · obtain ⟨ad, rfl, hc⟩ := h.src (by omega)
    have hl : (loadCells ad n).run P w = .ok ((zs.map (fun n : Nat => (n : Int))).map (Value.int .u8)).toArray w := by
      have h1 := run_loadCells_list (P := P) (w := w) ad (zs.map bv) hc
      have h2 : (zs.map bv).length = n := by simpa using h.1
      rw [h2] at h1; rw [h1]
      simp [bv, Function.comp_def]
    rw [run_bytesToString w ad n c _ hl, foldl_push]
    simp [strB]
theorem strB_eq (xs ys : List Nat) (hx : ∀ z ∈ xs, z < 256) (hy : ∀ z ∈ ys, z < 256) : ((strB xs).toList == (strB ys).toList) = decide (xs = ys) := by
  have hinj : ∀ (a b : List Nat), (∀ z ∈ a, z < 256) → (∀ z ∈ b, z < 256) → a.map UInt8.ofNat = b.map UInt8.ofNat → a = b := by
    intro a
    induction a with
    | nil => intro b _ _ h; cases b with
      | nil => rfl
      | cons => simp at h
    | cons x a ih =>
      intro b ha hb h
      cases b with
      | nil => simp at h
      | cons y b =>
        simp only [List.map_cons, List.cons.injEq] at h
        have e1 : x = y := by
          have := congrArg UInt8.toNat h.1; have h3 := ha x (by simp); have h4 := hb y (by simp)
          simpa [Nat.mod_eq_of_lt h3, Nat.mod_eq_of_lt h4] using this
        rw [e1, ih b (fun z hz => ha z (by simp [hz])) (fun z hz => hb z (by simp [hz])) h.2]
  rw [strB_toList, strB_toList]
  by_cases he : xs = ys
  · subst he; simp
  · rw [decide_eq_false he]
    simpa using fun h => he (hinj xs ys hx hy h)
set_option maxHeartbeats 400000 in
theorem smBytes_any (oa ob : Option Addr) (la lb ca cb : Nat) (xs ys : List Nat) (w : World) (ha : SlB w oa la xs) (hb : SlB w ob lb ys) :
    Calls Tryz.prog 19 #[.slice oa la ca, .slice ob lb cb] w fun e w' => e = .returned (.bool (decide (xs = ys))) ∧ w' = w := by
  have hcv1 : (convert 22 9 (.slice oa la ca)).run Tryz.prog w = .ok (.string (strB xs)) w := run_str_b w Tryz.underlying22 Tryz.underlying5 Tryz.underlying9 ha ca; have hcv2 : (convert 22 9 (.slice ob lb cb)).run Tryz.prog w = .ok (.string (strB ys)) w := run_str_b w Tryz.underlying22 Tryz.underlying5 Tryz.underlying9 hb cb; have HE : Hid (((strB xs).toList == (strB ys).toList) = decide (xs = ys)) := strB_eq xs ys ha.2.1 hb.2.1; clear ha hb
  go_enter Tryz.func19, Tryz.ntmps19
  go_wp2; go_ret; exact ⟨ret_bool HE.out, rfl⟩
end Go.Proofs.YtgehhfncjoogiaaGreatDoor
namespace Go.Proofs.YtgehhfncjoogiaaGreatDoor
open Go.RowKit Go.Maps

theorem FlAt.at {w : World} {B n c : Nat} {oa : Option Addr} {F : List (List UInt8 × List Nat)} (h : FlAt w B (.slice oa n c) F) {k : Nat} {s : List UInt8} {d : List Nat} (hk : F[k]? = some (s, d)) : ∃ g a1 c1, oa = some ⟨g, 0, none⟩ ∧ w.cell? ⟨g, k * 2, none⟩ = some (.string ⟨s.toArray⟩) ∧ w.cell? ⟨g, k * 2 + 1, none⟩ = some (.slice a1 d.length c1) ∧ SlB w a1 d.length d ∧ d.length ≤ c1 := by
  obtain ⟨oa', c', cells, h1, h2, h3⟩ := h; simp only [Value.slice.injEq] at h1; obtain ⟨rfl, rfl, rfl⟩ := h1; obtain ⟨g1, a1, c1, g2, g3⟩ := h3.2 k s d hk; obtain ⟨g, e1, q1⟩ := own_cell h2 g1; obtain ⟨g', e2, q2⟩ := own_cell h2 g2; rw [e1] at e2; simp only [Option.some.injEq, Addr.mk.injEq, and_true] at e2; subst e2; obtain ⟨oa2, c2, hv, hs⟩ := g3.sl; obtain ⟨oa3, c3, hv3, hle⟩ := g3.is; simp only [Value.slice.injEq] at hv hv3; obtain ⟨rfl, -, rfl⟩ := hv; obtain ⟨-, -, rfl⟩ := hv3; exact ⟨g, a1, c1, e1, q1, q2, hs, hle⟩
theorem FlAt.is {w : World} {B : Nat} {v : Value} {F : List (List UInt8 × List Nat)} (h : FlAt w B v F) : ∃ oa c, v = .slice oa F.length c ∧ True := by
  obtain ⟨oa, c, _, h1, _⟩ := h; exact ⟨oa, c, h1, trivial⟩
set_option maxHeartbeats 4000000 in
theorem cpImage_any (v : Value) (B0 : Nat) (F : List (List UInt8 × List Nat)) (w : World) (h : FlAt w B0 v F) (hF : ImF F 4) :
    Calls Tryz.prog 17 #[v] w fun e w' => (∃ v', e = .returned v' ∧ FlAt w' w.heap.size v' F) ∧ w.grownBy w' none := by
  obtain ⟨oa, c, rfl, -⟩ := h.is; obtain ⟨n, hn⟩ : ∃ y, F.length = y := ⟨_, rfl⟩; rw [hn] at h ⊢
  have hn4 : n ≤ 4 := by rw [← hn]; exact hF.len
  have HFL : Hid (FlAt w B0 (.slice oa n c) F ∧ F.length = n ∧ ImF F 4) := ⟨h, hn, hF⟩; clear h hn hF; have HS0 : Hid ((w.alloc (.cells #[] 55)).ownsRow w.heap.size 55 2 (.slice (some ⟨w.heap.size, 0, none⟩) 0 0) 0 [] ∧ CellsF (w.alloc (.cells #[] 55)) w.heap.size [] (F.take 0) ∧ w.grownBy (w.alloc (.cells #[] 55)) none) := ⟨⟨rfl, .inr ⟨_, 0, _, rfl, Nat.le_refl _, heap_alloc_new w _, Nat.le_refl _, Nat.zero_le _, rfl, rfl⟩⟩, ⟨rfl, by simp⟩, World.grownBy_alloc _ _ none⟩
  go_enter Tryz.func17, Tryz.ntmps17
  go_wp2; generalize w.alloc (.cells #[] 55) = W0 at HS0 ⊢
  go_loopw [3, 9] (fun v iv wr => ∃ (k : Nat) (cells : List Value), k ≤ n ∧ iv = .int .i64 (k : Int) ∧ (∃ oa c, v = .slice oa k c) ∧ wr.ownsRow w.heap.size 55 2 v k cells ∧ CellsF wr w.heap.size cells (F.take k) ∧ w.grownBy wr none) (fun _ iv _ => n - (intOf iv).toNat)
  case atStart => exact ⟨0, [], Nat.zero_le _, rfl, ⟨_, _, rfl⟩, HS0.out⟩
  case round =>
    obtain ⟨k, cells, hk, rfl, ⟨ra, rc, rfl⟩, hrow, hcl, hgr⟩ := hrel; have HR : Hid (wr.ownsRow w.heap.size 55 2 (.slice ra k rc) k cells ∧ CellsF wr w.heap.size cells (F.take k) ∧ w.grownBy wr none) := ⟨hrow, hcl, hgr⟩; clear hrow hcl hgr HS0
    by_cases hlt : k < n
    · have hltI : (k : Int) < (n : Int) := by omega
      have v1 : IntKind.i64.wrap ((k : Int) + 1) = (k : Int) + 1 := IntWalk.i64_in _ (by omega); obtain ⟨⟨s, d⟩, hsd⟩ : ∃ x, F[k]? = some x := ⟨_, List.getElem?_eq_getElem (by rw [HFL.out.2.1]; exact hlt)⟩; obtain ⟨g, fa, fc, hoa, q0, q1, hsl, -⟩ := (HFL.out.1.grown0 HR.out.2.2).at hsd; subst hoa; obtain ⟨m, hm⟩ : ∃ y, d.length = y := ⟨_, rfl⟩; rw [hm] at q1 hsl
      have hm79 : m ≤ 79 := by rw [← hm]; exact HFL.out.2.2.2 _ (List.mem_of_getElem? hsd)
      have HB : Hid (wr.grownBy (wr.alloc (.cells #[.string ⟨s.toArray⟩, .slice fa m fc] 55)) none ∧ (wr.alloc (.cells #[.string ⟨s.toArray⟩, .slice fa m fc] 55)).heap[wr.heap.size]? = some (.cells #[.string ⟨s.toArray⟩, .slice fa m fc] 55 (0, 0)) ∧ F[k]? = some (s, d) ∧ d.length = m ∧ SlB (wr.alloc (.cells #[.string ⟨s.toArray⟩, .slice fa m fc] 55)) fa m d) := ⟨World.grownBy_alloc _ _ none, heap_alloc_new wr _, hsd, hm, hsl.grown0 (World.grownBy_alloc _ _ none)⟩
      have HQ : Hid (∀ q, (Value.slice ra k rc).ownBlock = some q → q < wr.heap.size) := fun q hq => by
        obtain ⟨cur, h9⟩ := row_type HR.out.1 hq; exact (Array.getElem?_eq_some_iff.1 h9).1
      clear hsd hm hsl
      go_upto_region 5 with fail
      generalize wr.alloc (.cells #[.string ⟨s.toArray⟩, .slice fa m fc] 55) = W1 at HB ⊢; generalize wr.heap.size = f at HB HQ ⊢; clear q0 q1; refine wp_region_Z (fun Y => Y.heap[f]? = some (.cells #[.string ⟨s.toArray⟩, .slice fa m fc] 55 (0, 0))) (fun _ => false) (by kernel_rfl) ?_; have hS : W1.drew.heap[f]? = some (.cells #[.string ⟨s.toArray⟩, .slice fa m fc] 55 (0, 0)) := HB.out.2.1; refine zTk 0 ?_; simp only [Act.put, zq1, zq2, zq3]; refine zTk 1 ?_; simp only [Act.put, zq1, zq2, zq3]; refine zLs 2 rfl hS (by intro W hW; have z0 : W.cell? ⟨f, 0, none⟩ = some (.string ⟨s.toArray⟩) := (zCr hW).trans rfl; go_simp; first | done | with_reducible rfl) ?_; simp only [Act.put, zq1, zq2, zq3]; refine zTk 3 ?_; simp only [Act.put, zq1, zq2, zq3]; refine zLs 4 rfl hS (by intro W hW; have z0 : W.cell? ⟨f, 1, none⟩ = some (.slice fa m fc) := (zCr hW).trans rfl; go_simp; first | done | with_reducible rfl) ?_; simp only [Act.put, zq1, zq2, zq3]; refine wpAnyZ_one' (i := 5) (by kernel_rfl) rfl (fun K hK => ?_); go_simp; go_at_call 15; refine (cp_any fa m fc d W1.drew (HB.out.2.2.2.2.heap rfl) (by omega)).mono ?_; rintro e w5 ⟨g', cp, rfl, hown, hg5⟩; have hg5 : W1.grownBy w5 none := ⟨hg5.os, hg5.tape, hg5.output, hg5.size, hg5.block⟩; have hown : w5.ownsRow W1.heap.size 5 1 (.slice (some ⟨g', 0, none⟩) m cp) m (d.map bv) := hown; have hf5 := grown_blk hg5 HB.out.2.1; have hz1 : w.heap.size ≤ W1.heap.size := (grownBy_trans HR.out.2.2 HB.out.1).size
      have HB5 : Hid (BRow w5 w.heap.size (.slice (some ⟨g', 0, none⟩) m cp) d ∧ w5.ownsRow w.heap.size 55 2 (.slice ra k rc) k cells ∧ CellsF w5 w.heap.size cells (F.take k) ∧ w.grownBy w5 none) := by
        have hg := grownBy_trans HB.out.1 hg5; exact ⟨brow_own hown HB.out.2.2.2.2.2.1 hz1, own1_grown HR.out.1 hg, HR.out.2.1.kept hg (fun _ _ _ _ _ => by simp), grownBy_trans HR.out.2.2 hg⟩
      refine hK.out _ _ (fun _ _ => hf5) ?_; clear hK K hown; (try simp only [Act.put, zq1, zq2, zq3]); refine zTk 6 ?_; simp only [Act.put, zq1, zq2, zq3]; obtain ⟨ra2, rc2, w7, hrun7, ho7, hg7⟩ := run_app1 (P := Tryz.prog) (w0 := w5) 25 25 w.heap.size 55 Tryz.underlying25 Tryz.infoFile rfl (by decide) (.slice ra k rc) k cells HB5.out.2.1 #[.string ⟨s.toArray⟩, .slice (some ⟨g', 0, none⟩) m cp] w5.heap.size rfl rfl rfl (by omega) (by decide) HB5.out.2.2.2.size; have hf7 : w7.heap[f]? = some (.cells #[.string ⟨s.toArray⟩, .slice fa m fc] 55 (0, 0)) := (hg7.block f (Array.getElem?_eq_some_iff.1 hf5).1 (fun hc => Nat.lt_irrefl _ (HQ.out f hc.symm))).trans hf5; refine wpAnyZ_one' (i := 7) (by kernel_rfl) rfl (fun K hK => ?_); go_simp; refine hK.out _ _ (fun _ _ => grown_blk (World.grownBy_alloc w5 _ none) hf5) ?_; clear hK K; (try simp only [Act.put, zq1, zq2, zq3])
      have HN : Hid (w7.ownsRow w.heap.size 55 2 (.slice ra2 (k + 1) rc2) (k + 1) (cells ++ [encStr s, .slice (some ⟨g', 0, none⟩) m cp]) ∧ CellsF w7 w.heap.size (cells ++ [encStr s, .slice (some ⟨g', 0, none⟩) m cp]) (F.take (k + 1)) ∧ w.grownBy w7 none) := by
        refine ⟨ho7, ?_, grownBy_row HB5.out.2.2.2 hg7 (fun q hq => own1_base HB5.out.2.1 hq)⟩
        have h8 := HB5.out.2.2.1.snoc hg7 (fun v dd hv kk hkk hc => by
          obtain ⟨cur, h7⟩ := row_type HB5.out.2.1 hc
          exact hv.ne h7 (by decide) hkk) s d (some ⟨g', 0, none⟩) cp (by rw [HB.out.2.2.2.1]; exact HB5.out.1)
        rw [HB.out.2.2.2.1] at h8; rw [List.take_add_one, HB.out.2.2.1]; exact h8
      refine wpAnyZ_one' (i := 8) (by kernel_rfl) rfl (fun K hK => ?_); refine step_run (by rfl) (.tmp 13) (.tmp 20) 25 (by rfl) _ _ (by rfl) (by rfl) hrun7 ?_; refine hK.out _ _ (fun _ _ => hf7) ?_; clear hK K hrun7 ho7 hg7 HB5 hg5 hf5 hf7; (try simp only [Act.put, zq1, zq2, zq3]); refine zTk 9 ?_; simp only [Act.put, zq1, zq2, zq3]; refine wpAnyZ_done (by kernel_rfl) ?_ _; go_wp2; go_roundw
      case rel => exact ⟨k + 1, _, by omega, by go_num, ⟨_, _, rfl⟩, HN.out⟩
      case measure => simp [intOf]; omega
    · obtain rfl : k = n := by omega
      have HFA : Hid (FlAt wr w.heap.size (.slice ra k rc) F) := by
        have h9 := HR.out.2.1; rw [List.take_of_length_le (by rw [HFL.out.2.1]; exact Nat.le_refl _)] at h9; exact ⟨ra, rc, cells, by rw [HFL.out.2.1], by rw [HFL.out.2.1]; exact HR.out.1, h9⟩
      go_wp2; go_ret; exact ⟨⟨_, rfl, HFA.out⟩, HR.out.2.2⟩
set_option maxHeartbeats 4000000 in
theorem smImage_same (va vb : Value) (Ba Bb : Nat) (F : List (List UInt8 × List Nat)) (w : World) (ha : FlAt w Ba va F) (hb : FlAt w Bb vb F) :
    Calls Tryz.prog 18 #[va, vb] w fun e w' => e = .returned (.bool true) ∧ w.grownBy w' none := by
  obtain ⟨oa, ca, rfl, -⟩ := ha.is; obtain ⟨ob, cb, rfl, -⟩ := hb.is; obtain ⟨n, hn⟩ : ∃ y, F.length = y := ⟨_, rfl⟩
  have hF : n ≤ 9223372036854775807 := by
    obtain ⟨_, _, cells, h1, h2, -⟩ := ha; rw [hn] at h2
    rcases h2.2 with ⟨-, h3⟩ | ⟨g, cap, cur, -, -, -, h4, h5, -⟩
    · omega
    · unfold maxLen at h5; omega
  rw [hn] at ha hb ⊢; have HFL : Hid (FlAt w Ba (.slice oa n ca) F ∧ FlAt w Bb (.slice ob n cb) F ∧ F.length = n) := ⟨ha, hb, hn⟩; clear ha hb hn
  go_enter Tryz.func18, Tryz.ntmps18
  go_wp2
  go_loopw [13] (fun iv wr => ∃ k : Nat, k ≤ n ∧ iv = .int .i64 (k : Int) ∧ w.grownBy wr none) (fun iv _ => n - (intOf iv).toNat)
  case atStart => exact ⟨0, Nat.zero_le _, rfl, grownBy_refl _ _⟩
  case round =>
    obtain ⟨k, hk, rfl, hgr⟩ := hrel; have HG : Hid (w.grownBy wr none) := hgr; clear hgr
    by_cases hlt : k < n
    · have hltI : (k : Int) < (n : Int) := by omega
      have v1 : IntKind.i64.wrap ((k : Int) + 1) = (k : Int) + 1 := IntWalk.i64_in _ (by omega); obtain ⟨⟨s, d⟩, hsd⟩ : ∃ x, F[k]? = some x := ⟨_, List.getElem?_eq_getElem (by rw [HFL.out.2.2]; exact hlt)⟩; obtain ⟨ga, fa, fc, hoa, q0, q1, hsl, -⟩ := (HFL.out.1.grown0 HG.out).at hsd; obtain ⟨gb, fa', fc', hob, p0, p1, hsl', -⟩ := (HFL.out.2.1.grown0 HG.out).at hsd; subst hoa; subst hob; obtain ⟨m, hm⟩ : ∃ y, d.length = y := ⟨_, rfl⟩; rw [hm] at q1 p1 hsl hsl'
      have HSM : Hid (∀ w', w'.heap = wr.heap → Calls Tryz.prog 19 #[.slice fa m fc, .slice fa' m fc'] w' fun e w'' => e = .returned (.bool true) ∧ w'' = w') := by
        intro w' hw; refine (smBytes_any fa fa' m m fc fc' d d w' (hsl.heap hw) (hsl'.heap hw)).mono ?_; rintro e w'' ⟨h1, h2⟩; exact ⟨by rw [h1]; simp, h2⟩
      have hne : ((⟨s.toArray⟩ : ByteArray).toList != (⟨s.toArray⟩ : ByteArray).toList) = false := by simp
      clear hsd hm hsl hsl'
      go_upto_region 6 with fail
      go_quiet (first | (go_at_call 19; refine Calls.quiet_of_same (HSM.out _ rfl)) | fail)
      go_wp2; go_roundw
      case rel => exact ⟨k + 1, by omega, by go_num, grownBy_trans HG.out ⟨rfl, rfl, rfl, Nat.le_refl _, fun _ _ _ => rfl⟩⟩
      case measure => simp [intOf]; omega
    · obtain rfl : k = n := by omega
      go_wp2; go_ret; exact ⟨rfl, HG.out⟩
theorem StepOut.co {X w' : World} {B d : Nat} {M : Dk} {c : Int} {N' : Nat} {LD' : DataW Unit} {P' : Pb} {alt : List Ch → Prop} {DN : Dk → Pb → Prop} (h : StepOut X w' B d { M with cnt := c } N' LD' P' alt)
    (hd : ∀ q' M', alt q' → M'.LD = LD' → M'.SD = M.SD → M'.N = N' → M'.queue = M.queue ++ q' → DN M' P') : CoOut X w' B d M DN := by
  obtain ⟨ms', qv', q', h1, h2, h3, h4, h5⟩ := h; exact ⟨_, ms', h1, h2 ▸ hd q' _ h3 rfl rfl rfl rfl, rfl, rfl, rfl, h4.wide (by simp) (by simp), h5⟩
theorem SyncDone.co {X w' : World} {B d : Nat} {M : Dk} {ms : List Bd} {c : Int} {o : Option Nat} {DN : Dk → Pb → Prop} (h : SyncDone X w' B d { M with cnt := c } ms o)
    (hd : ∀ M', M'.LD = M.LD → M'.SD = syncsD o M.queue M.SD → M'.N = M.N + tots M.queue → M'.queue = M.queue.filter (fun x => !(mineC o x)) → DN M' (syncsP o M.queue (ms.map Bd.tell))) : CoOut X w' B d M DN := by
  obtain ⟨ms', qv', h1, h2, h4, h5⟩ := h; exact ⟨_, ms', h1, h2 ▸ hd _ rfl rfl rfl rfl, rfl, rfl, rfl, h4.wide (by simp) (by intro t ht; simp only [List.mem_cons, List.not_mem_nil, or_false] at ht; rcases ht with h | h | h <;> simp [h]), h5⟩
def SameD (M : Dk) (P : Pb) (M' : Dk) (P' : Pb) : Prop := M'.LD = M.LD ∧ M'.SD = M.SD ∧ M'.N = M.N ∧ M'.queue = M.queue ∧ P' = P
def CanDo (k a : Int) (nm : ByteArray) (dn : Nat) (M : Dk) (P : Pb) : Prop :=
  (k = 1 ∧ goodN nm = true ∧ M.LD.atKey (kS nm) .nil = bD none ∧ Maps.size M.LD < 512)
  ∨ (k = 2 ∧ ∃ b L S, M.LD.atKey (kS nm) .nil = bD (some b) ∧ (b, L, S) ∈ P ∧ 0 ≤ a ∧ a ≤ (L.length : Int) ∧ a + (dn : Int) ≤ 65536 ∧ (totL P : Int) + (dn : Int) ≤ M.cap)
  ∨ (k = 6 ∧ ∃ b, M.LD.atKey (kS nm) .nil = bD (some b)) ∨ k = 7
def CrashT (C : List Nat) (M : Dk) (P : Pb) (M' : Dk) (P' : Pb) : Prop :=
  M'.N = M.N + totk M.queue ∧ M'.LD = crashD C M.queue 0 M.SD ∧ M'.SD = crashD C M.queue 0 M.SD ∧ M'.queue = [] ∧ ∃ v : Nat → Bool, P' = clP v (crashP C M.queue 0 P) ∧ ∀ b, v b = true ↔ ∃ kl, (crashD C M.queue 0 M.SD).atKey kl .nil = bD (some b)
def TrD (k a : Int) (nm tn : ByteArray) (D : List Nat) (M : Dk) (P : Pb) (M' : Dk) (P' : Pb) : Prop :=
  (k = 11 ∧ CrashT D M P M' P') ∨ (k ≠ 11 ∧ SameD M P M' P' ∧ ¬ CanDo k a nm D.length M P) ∨ ∃ K : Nat, k = (K : Int) ∧ Dn K a nm tn D M P M' P'
structure OpAt (w : World) (B : Nat) (kd a : Int) (nm tn : ByteArray) (da : Option Addr) (dn dc : Nat) (D : List Nat) : Prop where
  sn : nm.size ≤ 1048576
  st : tn.size ≤ 1048576
  sl : SlB w da dn D
  cp : dn ≤ dc
  lo : ∀ b off, da = some ⟨b, off, none⟩ → b < B
  z : dn ≤ 1048576
  ia : -9223372036854775808 ≤ a ∧ a ≤ 9223372036854775807
  k9 : kd ≠ 9
  k10 : kd ≠ 10
structure Run (M : Dk) (P : Pb) : Prop where
  fuse : M.fuse = -1
  off : M.off = false
  q : M.queue.length ≤ 1000
  n : M.N + tots M.queue + totk M.queue + 2 ≤ 100000
  t : totL P ≤ 1099511627776
def DoR (w w' : World) (B d : Nat) (M : Dk) (ms : List Bd) (ad : Nat → Addr) (kd a : Int) (nm tn : ByteArray) (D : List Nat) (dv ev : Value) : Prop :=
  (ev = .nilIface ∨ RefAt w' ad ev) ∧ ErrsAt w' B ad ∧ (∀ k, k < B → w'.heap[k]? = w.heap[k]?) ∧ Moves [M.lb, M.sb] [93, 5, 104, 90] w w' ∧ (∃ M' ms', DkAt w' B d M' ms' ∧ TrD kd a nm tn D M (ms.map Bd.tell) M' (ms'.map Bd.tell) ∧ M'.cap = M.cap ∧ M'.fuse = -1 ∧ M'.off = false)
  ∧ (kd = 8 → ∀ b L S, M.LD.atKey (kS nm) .nil = bD (some b) → (b, L, S) ∈ ms.map Bd.tell → ev = .nilIface ∧ BRow w' B dv L)
theorem tell_uniq {ms : List Bd} (h : (ms.map Bd.b).Nodup) {m : Bd} (hm : m ∈ ms) {L S : List Nat} (hx : (m.b, L, S) ∈ ms.map Bd.tell) : L = m.L ∧ S = m.S := by
  obtain ⟨m', h1, h2⟩ := List.mem_map.1 hx; simp only [Bd.tell, Prod.mk.injEq] at h2
  have : m' = m := by
    obtain ⟨i, hi⟩ := List.mem_iff_getElem?.1 h1; obtain ⟨j, hj⟩ := List.mem_iff_getElem?.1 hm
    have e1 : (ms.map Bd.b)[i]? = some m.b := by rw [List.getElem?_map, hi]; simp [h2.1]
    have e2 : (ms.map Bd.b)[j]? = some m.b := by rw [List.getElem?_map, hj]; rfl
    have h3 := (List.getElem?_inj (List.getElem?_eq_some_iff.1 e1).1 h).1 (e1.trans e2.symm); subst h3; rw [hi] at hj; exact Option.some.inj hj
  subst this; exact ⟨h2.2.1.symm, h2.2.2.symm⟩
theorem LbOut.same {w w' : World} {B d : Nat} {M : Dk} {ms : List Bd} (h : LbOut w w' B d M (ms.map Bd.tell)) : ∃ M' ms', DkAt w' B d M' ms' ∧ SameD M (ms.map Bd.tell) M' (ms'.map Bd.tell) ∧ M'.cap = M.cap ∧ M'.fuse = M.fuse ∧ M'.off = M.off := by
  obtain ⟨ms', c, h1, h2, -⟩ := h; exact ⟨_, ms', h1, ⟨rfl, rfl, rfl, rfl, h2⟩, rfl, rfl, rfl⟩
def FtK (K : Nat) (nm : ByteArray) (ob : Option Nat) (M : Dk) (ms : List Bd) (a : Int) (dn : Nat) (f : Option Nat) : Prop :=
  (∀ j, f = some j → j < 13) ∧ (K = 1 → CrFt nm ob (Maps.size M.LD) f) ∧ (2 ≤ K → K ≤ 6 → StFt K ob ms M.cap a dn f) ∧ (K = 7 → f = none)
theorem FtK.can {K : Nat} {nm : ByteArray} {ob : Option Nat} {M : Dk} {ms : List Bd} {a : Int} {dn : Nat} {f : Option Nat} (h : FtK K nm ob M ms a dn f) (hn : (ms.map Bd.b).Nodup) (hob : M.LD.atKey (kS nm) .nil = bD ob) (hr : ∀ b, ob = some b → ∃ m ∈ ms, m.b = b) (hc : CanDo (K : Int) a nm dn M (ms.map Bd.tell)) : f = none := by
  have inj : ∀ {x : Option Nat}, M.LD.atKey (kS nm) .nil = bD x → ob = x := fun hx => bD_inj (hob.symm.trans hx)
  rcases hc with ⟨hk, h1, h2, h3⟩ | ⟨hk, b, L, S, h1, h2, h3, h4, h5, h6⟩ | ⟨hk, b, h1⟩ | hk
  · exact (h.2.1 (by omega)).2 h1 (inj h2) h3
  · obtain ⟨m, hm, rfl⟩ := hr b (inj h1); obtain ⟨rfl, -⟩ := tell_uniq hn hm h2
    obtain rfl : K = 2 := by omega
    exact (h.2.2.1 (by omega) (by omega)).2.2 m hm (inj h1) (fun _ => ⟨h3, h4, h5, h6⟩) (.inl rfl)
  · obtain ⟨m, hm, rfl⟩ := hr b (inj h1)
    obtain rfl : K = 6 := by omega
    exact (h.2.2.1 (by omega) (by omega)).2.2 m hm (inj h1) (fun h => by omega) (.inr rfl)
  · exact h.2.2.2 (by omega)
theorem step1_any (d : Nat) (a : Int) (nm tn : ByteArray) (da : Option Addr) (dn dc : Nat) (M : Dk) (ms : List Bd) (B : Nat) (ad : Nat → Addr) (ob : Option Nat) (D : List Nat) (w : World) (h : DkAt w B d M ms) (hE : ErrsAt w B ad) (hR : Run M (ms.map Bd.tell)) (hO : OpAt w B 1 a nm tn da dn dc D) (hob : M.LD.atKey (kS nm) .nil = bD ob) :
    Calls Tryz.prog 50 #[.pointer (some ⟨d, 0, none⟩), .agg #[.int .i64 1, .int .i64 a, .string nm, .string tn, .slice da dn dc]] w fun e w' => ∃ f ev, e = .returned ev ∧ FtK 1 nm ob M ms a dn f ∧ StOut w w' B d M (ms.map Bd.tell) ad ev f (Dn 1 a nm tn D M (ms.map Bd.tell)) := by
  have hs : nm.size ≤ maxLen := by have := hO.sn; unfold maxLen; omega
  have hn := hR.n
  have hq : M.queue.length ≤ 100000 := by have := hR.q; omega
  have hN1 : M.N + 1 ≤ 1000000 := by omega
  have hN2 : M.N + 2 ≤ 1000000 := by omega
  have hNt : M.N + tots M.queue ≤ 1000000 := by omega
  refine step_any d 1 a nm tn da dn dc M ms B ad w h hE hR.fuse (FtK 1 nm ob M ms a dn) (Dn 1 a nm tn D M (ms.map Bd.tell)) (fun X hX => ?_) (fun j hj => hj.1 j rfl) (fun X ms1 c hft h1 h2 hlow => ?_)
  · refine (stepFault1 d a nm tn da dn dc M ms B ad ob X (h.grown0 hX) (hE.grown hX) hO.sn hob).mono ?_; rintro e w' ⟨f, rfl, h1, h2⟩; exact ⟨f, rfl, ⟨h1.1, fun _ => h1, by omega, by omega⟩, h2⟩
  · clear hN1 hN2 hNt
    have hN1 : M.N + 1 ≤ 1000000 := by omega
    have hN2 : M.N + 2 ≤ 1000000 := by omega
    have hNt : M.N + tots M.queue ≤ 1000000 := by omega
    refine (carryCreate_any d a nm tn da dn dc { M with cnt := c } ms1 B ob X h1 hs hob hq hN1).mono ?_; rintro e w' ⟨rfl, hso⟩; refine ⟨rfl, hso.co (fun q' M' hq' g1 g2 g3 g4 => ?_)⟩; obtain ⟨x, rfl, x1, x2⟩ := hq'; refine .inl ⟨rfl, X.heap.size + 1, x, fun hc => ?_, g1, g2, g3, by rw [h2], g4, x1, x2⟩; rw [← h2, List.map_map] at hc; obtain ⟨m', hm', he⟩ := List.mem_map.1 hc; have h9 := (h1.bods.each m' hm').1.lt (.inl rfl); have he' : m'.b = X.heap.size + 1 := he
    omega
theorem step2_any (d : Nat) (a : Int) (nm tn : ByteArray) (da : Option Addr) (dn dc : Nat) (M : Dk) (ms : List Bd) (B : Nat) (ad : Nat → Addr) (ob : Option Nat) (D : List Nat) (w : World) (h : DkAt w B d M ms) (hE : ErrsAt w B ad) (hR : Run M (ms.map Bd.tell)) (hO : OpAt w B 2 a nm tn da dn dc D) (hob : M.LD.atKey (kS nm) .nil = bD ob) :
    Calls Tryz.prog 50 #[.pointer (some ⟨d, 0, none⟩), .agg #[.int .i64 2, .int .i64 a, .string nm, .string tn, .slice da dn dc]] w fun e w' => ∃ f ev, e = .returned ev ∧ FtK 2 nm ob M ms a dn f ∧ StOut w w' B d M (ms.map Bd.tell) ad ev f (Dn 2 a nm tn D M (ms.map Bd.tell)) := by
  have hs : nm.size ≤ maxLen := by have := hO.sn; unfold maxLen; omega
  have hn := hR.n
  have hq : M.queue.length ≤ 100000 := by have := hR.q; omega
  have hN1 : M.N + 1 ≤ 1000000 := by omega
  have hN2 : M.N + 2 ≤ 1000000 := by omega
  have hNt : M.N + tots M.queue ≤ 1000000 := by omega
  refine step_any d 2 a nm tn da dn dc M ms B ad w h hE hR.fuse (FtK 2 nm ob M ms a dn) (Dn 2 a nm tn D M (ms.map Bd.tell)) (fun X hX => ?_) (fun j hj => hj.1 j rfl) (fun X ms1 c hft h1 h2 hlow => ?_)
  · refine (stepFault2 d a nm tn da dn dc M ms B ad ob X (h.grown0 hX) (hE.grown hX) hs hob hR.t hO.z hO.ia).mono ?_; rintro e w' ⟨f, rfl, h1, h2⟩; exact ⟨f, rfl, ⟨h1.1, by omega, fun _ _ => h1, by omega⟩, h2⟩
  · clear hN1 hN2 hNt
    have hN1 : M.N + 1 ≤ 1000000 := by omega
    have hN2 : M.N + 2 ≤ 1000000 := by omega
    have hNt : M.N + tots M.queue ≤ 1000000 := by omega
    obtain ⟨m, hm, hmo, hf2, hf3⟩ := (hft.2.2.1 (by omega) (by omega)).2.1 rfl; obtain ⟨m1, hm1, e1, e2, e3⟩ := tell_get h2 hm
    have hmo1 : ob = some m1.b := by rw [e1]; exact hmo
    have hmt : (m1.b, m1.L, m1.S) ∈ ms.map Bd.tell := by rw [← h2]; exact List.mem_map_of_mem (f := Bd.tell) hm1
    have hob1 : M.LD.atKey (kS nm) .nil = bD (some m1.b) := by rw [hob, hmo1]
    obtain ⟨f1, f2, f3⟩ := hf2 rfl; obtain ⟨at_, rfl⟩ : ∃ at_ : Nat, a = (at_ : Int) := ⟨a.toNat, by omega⟩; refine (carryWrite_any d nm tn da dn dc { M with cnt := c } ms1 B ob m1 at_ D X h1 hs hob hq hm1 hmo1 (hO.sl.keep (fun b off hda => hlow b (hO.lo b off hda))) hO.cp hO.lo (by rw [e2]; omega) (by omega)).mono ?_; rintro e w' ⟨rfl, hso⟩; refine ⟨rfl, hso.co (fun q' M' hq' g1 g2 g3 g4 => ?_)⟩; refine .inr (.inl ⟨rfl, m1.b, m1.L, m1.S, at_, hob1, hmt, rfl, by rw [e2]; omega, by rw [hO.sl.1]; omega, g1, g2, g3, by rw [h2], ?_⟩)
    rcases hq' with ⟨rfl, hD⟩ | ⟨x, rfl, x1, x2, x3, x4, x5, x6⟩
    · exact .inl ⟨by rw [g4, List.append_nil], hD⟩
    · exact .inr ⟨x, g4, x1, x2, x3, x4, x5, x6⟩
theorem step3_any (d : Nat) (a : Int) (nm tn : ByteArray) (da : Option Addr) (dn dc : Nat) (M : Dk) (ms : List Bd) (B : Nat) (ad : Nat → Addr) (ob : Option Nat) (D : List Nat) (w : World) (h : DkAt w B d M ms) (hE : ErrsAt w B ad) (hR : Run M (ms.map Bd.tell)) (hO : OpAt w B 3 a nm tn da dn dc D) (hob : M.LD.atKey (kS nm) .nil = bD ob) :
    Calls Tryz.prog 50 #[.pointer (some ⟨d, 0, none⟩), .agg #[.int .i64 3, .int .i64 a, .string nm, .string tn, .slice da dn dc]] w fun e w' => ∃ f ev, e = .returned ev ∧ FtK 3 nm ob M ms a dn f ∧ StOut w w' B d M (ms.map Bd.tell) ad ev f (Dn 3 a nm tn D M (ms.map Bd.tell)) := by
  have hs : nm.size ≤ maxLen := by have := hO.sn; unfold maxLen; omega
  have hn := hR.n
  have hq : M.queue.length ≤ 100000 := by have := hR.q; omega
  have hN1 : M.N + 1 ≤ 1000000 := by omega
  have hN2 : M.N + 2 ≤ 1000000 := by omega
  have hNt : M.N + tots M.queue ≤ 1000000 := by omega
  refine step_any d 3 a nm tn da dn dc M ms B ad w h hE hR.fuse (FtK 3 nm ob M ms a dn) (Dn 3 a nm tn D M (ms.map Bd.tell)) (fun X hX => ?_) (fun j hj => hj.1 j rfl) (fun X ms1 c hft h1 h2 hlow => ?_)
  · refine (stepFault3 d a nm tn da dn dc M ms B ad ob X (h.grown0 hX) (hE.grown hX) hs hob).mono ?_; rintro e w' ⟨f, rfl, h1, h2⟩; exact ⟨f, rfl, ⟨h1.1, by omega, fun _ _ => h1, by omega⟩, h2⟩
  · clear hN1 hN2 hNt
    have hN1 : M.N + 1 ≤ 1000000 := by omega
    have hN2 : M.N + 2 ≤ 1000000 := by omega
    have hNt : M.N + tots M.queue ≤ 1000000 := by omega
    obtain ⟨m, hm, hmo, hf2, hf3⟩ := (hft.2.2.1 (by omega) (by omega)).2.1 rfl; obtain ⟨m1, hm1, e1, e2, e3⟩ := tell_get h2 hm
    have hmo1 : ob = some m1.b := by rw [e1]; exact hmo
    have hmt : (m1.b, m1.L, m1.S) ∈ ms.map Bd.tell := by rw [← h2]; exact List.mem_map_of_mem (f := Bd.tell) hm1
    have hob1 : M.LD.atKey (kS nm) .nil = bD (some m1.b) := by rw [hob, hmo1]
    obtain ⟨f1, f2⟩ := hf3 rfl; obtain ⟨at_, rfl⟩ : ∃ at_ : Nat, a = (at_ : Int) := ⟨a.toNat, by omega⟩; refine (carryCut_any d nm tn da dn dc { M with cnt := c } ms1 B ob m1 at_ X h1 hs hob hq hm1 hmo1 (by rw [e2]; omega)).mono ?_; rintro e w' ⟨rfl, hso⟩; refine ⟨rfl, hso.co (fun q' M' hq' g1 g2 g3 g4 => ?_)⟩; refine .inr (.inr (.inl ⟨rfl, m1.b, m1.L, m1.S, at_, hob1, hmt, rfl, by rw [e2]; omega, g1, g2, g3, by rw [h2], ?_⟩))
    rcases hq' with ⟨rfl, hD⟩ | ⟨x, rfl, x1, x2, x3, x4, x5⟩
    · exact .inl ⟨by rw [g4, List.append_nil], hD⟩
    · exact .inr ⟨x, g4, x1, x2, x3, x4, x5⟩
theorem step4_any (d : Nat) (a : Int) (nm tn : ByteArray) (da : Option Addr) (dn dc : Nat) (M : Dk) (ms : List Bd) (B : Nat) (ad : Nat → Addr) (ob : Option Nat) (D : List Nat) (w : World) (h : DkAt w B d M ms) (hE : ErrsAt w B ad) (hR : Run M (ms.map Bd.tell)) (hO : OpAt w B 4 a nm tn da dn dc D) (hob : M.LD.atKey (kS nm) .nil = bD ob) :
    Calls Tryz.prog 50 #[.pointer (some ⟨d, 0, none⟩), .agg #[.int .i64 4, .int .i64 a, .string nm, .string tn, .slice da dn dc]] w fun e w' => ∃ f ev, e = .returned ev ∧ FtK 4 nm ob M ms a dn f ∧ StOut w w' B d M (ms.map Bd.tell) ad ev f (Dn 4 a nm tn D M (ms.map Bd.tell)) := by
  have hs : nm.size ≤ maxLen := by have := hO.sn; unfold maxLen; omega
  have hn := hR.n
  have hq : M.queue.length ≤ 100000 := by have := hR.q; omega
  have hN1 : M.N + 1 ≤ 1000000 := by omega
  have hN2 : M.N + 2 ≤ 1000000 := by omega
  have hNt : M.N + tots M.queue ≤ 1000000 := by omega
  refine step_any d 4 a nm tn da dn dc M ms B ad w h hE hR.fuse (FtK 4 nm ob M ms a dn) (Dn 4 a nm tn D M (ms.map Bd.tell)) (fun X hX => ?_) (fun j hj => hj.1 j rfl) (fun X ms1 c hft h1 h2 hlow => ?_)
  · refine (stepFault4 d a nm tn da dn dc M ms B ad ob X (h.grown0 hX) (hE.grown hX) hs hob hO.st).mono ?_; rintro e w' ⟨f, rfl, h1, h2⟩; exact ⟨f, rfl, ⟨h1.1, by omega, fun _ _ => h1, by omega⟩, h2⟩
  · clear hN1 hN2 hNt
    have hN1 : M.N + 1 ≤ 1000000 := by omega
    have hN2 : M.N + 2 ≤ 1000000 := by omega
    have hNt : M.N + tots M.queue ≤ 1000000 := by omega
    obtain ⟨m, hm, hmo, hf2, hf3⟩ := (hft.2.2.1 (by omega) (by omega)).2.1 rfl; obtain ⟨m1, hm1, e1, e2, e3⟩ := tell_get h2 hm
    have hmo1 : ob = some m1.b := by rw [e1]; exact hmo
    have hmt : (m1.b, m1.L, m1.S) ∈ ms.map Bd.tell := by rw [← h2]; exact List.mem_map_of_mem (f := Bd.tell) hm1
    have hob1 : M.LD.atKey (kS nm) .nil = bD (some m1.b) := by rw [hob, hmo1]
    rcases hne : (tn.toList == nm.toList) with _ | _
    · refine (carryRename_any d a nm tn da dn dc { M with cnt := c } ms1 B ob m1 X h1 hs hob hq (by have := hO.st; unfold maxLen; omega) hm1 hmo1 hne hN2).mono ?_; rintro e w' ⟨rfl, hso⟩; refine ⟨rfl, hso.co (fun q' M' hq' g1 g2 g3 g4 => ?_)⟩; obtain ⟨x, rfl, x1, x2⟩ := hq'; exact .inr (.inr (.inr (.inl ⟨rfl, .inr ⟨m1.b, x, hob1, g1, g2, g3, h2, g4, x1, x2⟩⟩)))
    · refine (carryRenameSame_any d a nm tn da dn dc { M with cnt := c } ms1 B ob X h1 hs hob hne).mono ?_; rintro e w' ⟨rfl, hg⟩; refine ⟨rfl, { M with cnt := c }, ms1, h1.grown0 hg, ?_, rfl, rfl, rfl, Moves.of_grown0 hg, fun k hk => hg.block k (Nat.lt_of_lt_of_le hk h1.sizeB) (by simp)⟩; exact .inr (.inr (.inr (.inl ⟨rfl, .inl ⟨rfl, rfl, rfl, h2, rfl⟩⟩)))
theorem step5_any (d : Nat) (a : Int) (nm tn : ByteArray) (da : Option Addr) (dn dc : Nat) (M : Dk) (ms : List Bd) (B : Nat) (ad : Nat → Addr) (ob : Option Nat) (D : List Nat) (w : World) (h : DkAt w B d M ms) (hE : ErrsAt w B ad) (hR : Run M (ms.map Bd.tell)) (hO : OpAt w B 5 a nm tn da dn dc D) (hob : M.LD.atKey (kS nm) .nil = bD ob) :
    Calls Tryz.prog 50 #[.pointer (some ⟨d, 0, none⟩), .agg #[.int .i64 5, .int .i64 a, .string nm, .string tn, .slice da dn dc]] w fun e w' => ∃ f ev, e = .returned ev ∧ FtK 5 nm ob M ms a dn f ∧ StOut w w' B d M (ms.map Bd.tell) ad ev f (Dn 5 a nm tn D M (ms.map Bd.tell)) := by
  have hs : nm.size ≤ maxLen := by have := hO.sn; unfold maxLen; omega
  have hn := hR.n
  have hq : M.queue.length ≤ 100000 := by have := hR.q; omega
  have hN1 : M.N + 1 ≤ 1000000 := by omega
  have hN2 : M.N + 2 ≤ 1000000 := by omega
  have hNt : M.N + tots M.queue ≤ 1000000 := by omega
  refine step_any d 5 a nm tn da dn dc M ms B ad w h hE hR.fuse (FtK 5 nm ob M ms a dn) (Dn 5 a nm tn D M (ms.map Bd.tell)) (fun X hX => ?_) (fun j hj => hj.1 j rfl) (fun X ms1 c hft h1 h2 hlow => ?_)
  · refine (stepFault5 d a nm tn da dn dc M ms B ad ob X (h.grown0 hX) (hE.grown hX) hs hob).mono ?_; rintro e w' ⟨f, rfl, h1, h2⟩; exact ⟨f, rfl, ⟨h1.1, by omega, fun _ _ => h1, by omega⟩, h2⟩
  · clear hN1 hN2 hNt
    have hN1 : M.N + 1 ≤ 1000000 := by omega
    have hN2 : M.N + 2 ≤ 1000000 := by omega
    have hNt : M.N + tots M.queue ≤ 1000000 := by omega
    refine (carryRemove_any d a nm tn da dn dc { M with cnt := c } ms1 B ob X h1 hs hob hq hN1).mono ?_; rintro e w' ⟨rfl, hso⟩; refine ⟨rfl, hso.co (fun q' M' hq' g1 g2 g3 g4 => ?_)⟩; obtain ⟨x, rfl, x1, x2⟩ := hq'; exact .inr (.inr (.inr (.inr (.inl ⟨rfl, x, g1, g2, g3, h2, g4, x1, x2⟩))))
theorem step6_any (d : Nat) (a : Int) (nm tn : ByteArray) (da : Option Addr) (dn dc : Nat) (M : Dk) (ms : List Bd) (B : Nat) (ad : Nat → Addr) (ob : Option Nat) (D : List Nat) (w : World) (h : DkAt w B d M ms) (hE : ErrsAt w B ad) (hR : Run M (ms.map Bd.tell)) (hO : OpAt w B 6 a nm tn da dn dc D) (hob : M.LD.atKey (kS nm) .nil = bD ob) :
    Calls Tryz.prog 50 #[.pointer (some ⟨d, 0, none⟩), .agg #[.int .i64 6, .int .i64 a, .string nm, .string tn, .slice da dn dc]] w fun e w' => ∃ f ev, e = .returned ev ∧ FtK 6 nm ob M ms a dn f ∧ StOut w w' B d M (ms.map Bd.tell) ad ev f (Dn 6 a nm tn D M (ms.map Bd.tell)) := by
  have hs : nm.size ≤ maxLen := by have := hO.sn; unfold maxLen; omega
  have hn := hR.n
  have hq : M.queue.length ≤ 100000 := by have := hR.q; omega
  have hN1 : M.N + 1 ≤ 1000000 := by omega
  have hN2 : M.N + 2 ≤ 1000000 := by omega
  have hNt : M.N + tots M.queue ≤ 1000000 := by omega
  refine step_any d 6 a nm tn da dn dc M ms B ad w h hE hR.fuse (FtK 6 nm ob M ms a dn) (Dn 6 a nm tn D M (ms.map Bd.tell)) (fun X hX => ?_) (fun j hj => hj.1 j rfl) (fun X ms1 c hft h1 h2 hlow => ?_)
  · refine (stepFault6 d a nm tn da dn dc M ms B ad ob X (h.grown0 hX) (hE.grown hX) hs hob).mono ?_; rintro e w' ⟨f, rfl, h1, h2⟩; exact ⟨f, rfl, ⟨h1.1, by omega, fun _ _ => h1, by omega⟩, h2⟩
  · clear hN1 hN2 hNt
    have hN1 : M.N + 1 ≤ 1000000 := by omega
    have hN2 : M.N + 2 ≤ 1000000 := by omega
    have hNt : M.N + tots M.queue ≤ 1000000 := by omega
    obtain ⟨m, hm, hmo, hf2, hf3⟩ := (hft.2.2.1 (by omega) (by omega)).2.1 rfl; obtain ⟨m1, hm1, e1, e2, e3⟩ := tell_get h2 hm
    have hmo1 : ob = some m1.b := by rw [e1]; exact hmo
    have hmt : (m1.b, m1.L, m1.S) ∈ ms.map Bd.tell := by rw [← h2]; exact List.mem_map_of_mem (f := Bd.tell) hm1
    have hob1 : M.LD.atKey (kS nm) .nil = bD (some m1.b) := by rw [hob, hmo1]
    refine (carrySync_any d a nm tn da dn dc { M with cnt := c } ms1 B ob m1 X h1 hs hob hq hNt hm1 hmo1).mono ?_; rintro e w' ⟨rfl, hso⟩; refine ⟨rfl, hso.co (fun M' g1 g2 g3 g4 => ?_)⟩; exact .inr (.inr (.inr (.inr (.inr ⟨.inl rfl, some m1.b, by simp, fun _ => ⟨m1.b, rfl, hob1⟩, g1, g2, g3, by rw [h2], g4⟩))))
theorem step7_any (d : Nat) (a : Int) (nm tn : ByteArray) (da : Option Addr) (dn dc : Nat) (M : Dk) (ms : List Bd) (B : Nat) (ad : Nat → Addr) (ob : Option Nat) (D : List Nat) (w : World) (h : DkAt w B d M ms) (hE : ErrsAt w B ad) (hR : Run M (ms.map Bd.tell)) (hO : OpAt w B 7 a nm tn da dn dc D) (hob : M.LD.atKey (kS nm) .nil = bD ob) :
    Calls Tryz.prog 50 #[.pointer (some ⟨d, 0, none⟩), .agg #[.int .i64 7, .int .i64 a, .string nm, .string tn, .slice da dn dc]] w fun e w' => ∃ f ev, e = .returned ev ∧ FtK 7 nm ob M ms a dn f ∧ StOut w w' B d M (ms.map Bd.tell) ad ev f (Dn 7 a nm tn D M (ms.map Bd.tell)) := by
  have hs : nm.size ≤ maxLen := by have := hO.sn; unfold maxLen; omega
  have hn := hR.n
  have hq : M.queue.length ≤ 100000 := by have := hR.q; omega
  have hN1 : M.N + 1 ≤ 1000000 := by omega
  have hN2 : M.N + 2 ≤ 1000000 := by omega
  have hNt : M.N + tots M.queue ≤ 1000000 := by omega
  refine step_any d 7 a nm tn da dn dc M ms B ad w h hE hR.fuse (FtK 7 nm ob M ms a dn) (Dn 7 a nm tn D M (ms.map Bd.tell)) (fun X hX => ?_) (fun j hj => hj.1 j rfl) (fun X ms1 c hft h1 h2 hlow => ?_)
  · refine (stepFault7 d a nm tn da dn dc M ms B X (h.grown0 hX)).mono ?_; rintro e w' ⟨rfl, h2⟩; exact ⟨none, rfl, ⟨by simp, by omega, by omega, fun _ => rfl⟩, h2⟩
  · clear hN1 hN2 hNt
    have hN1 : M.N + 1 ≤ 1000000 := by omega
    have hN2 : M.N + 2 ≤ 1000000 := by omega
    have hNt : M.N + tots M.queue ≤ 1000000 := by omega
    refine (carrySyncDir_any d a nm tn da dn dc { M with cnt := c } ms1 B ob X h1 hs hob hq hNt).mono ?_; rintro e w' ⟨rfl, hso⟩; refine ⟨rfl, hso.co (fun M' g1 g2 g3 g4 => ?_)⟩; exact .inr (.inr (.inr (.inr (.inr ⟨.inr rfl, none, by simp, by simp, g1, g2, g3, by rw [h2], g4⟩))))
theorem run_ob {w : World} {B d : Nat} {M : Dk} {ms : List Bd} (h : DkAt w B d M ms) (nm : ByteArray) (hs : nm.size ≤ maxLen) : ∃ ob, M.LD.atKey (kS nm) .nil = bD ob := by
  obtain ⟨v, ps, -, hv⟩ := h.dl.lookup keyS undMap (zeroP w) (ptrE_mk none) (keyOfS hs); obtain ⟨ob, -, hz⟩ := ptrE_inv hv; exact ⟨ob, congrArg Prod.fst hz⟩
theorem CoOut.all {X w' : World} {B d : Nat} {M : Dk} {DN : Dk → Pb → Prop} (h : CoOut X w' B d M DN) : (∃ M' ms', DkAt w' B d M' ms' ∧ DN M' (ms'.map Bd.tell) ∧ M'.cap = M.cap ∧ M'.fuse = M.fuse ∧ M'.off = M.off) ∧ Moves [M.lb, M.sb] [93, 5, 104, 90] X w' ∧ ∀ k, k < B → w'.heap[k]? = X.heap[k]? := by
  obtain ⟨M', ms', h1, h2, h3, h4, h5, h6, h7⟩ := h; exact ⟨⟨M', ms', h1, h2, h3, h4, h5⟩, h6, h7⟩
theorem do_all (d : Nat) (kd a : Int) (nm tn : ByteArray) (da : Option Addr) (dn dc : Nat) (M : Dk) (ms : List Bd) (B : Nat) (ad : Nat → Addr) (D : List Nat) (w : World) (h : DkAt w B d M ms) (hE : ErrsAt w B ad) (hR : Run M (ms.map Bd.tell)) (hO : OpAt w B kd a nm tn da dn dc D) :
    Calls Tryz.prog 32 #[.pointer (some ⟨d, 0, none⟩), .agg #[.int .i64 kd, .int .i64 a, .string nm, .string tn, .slice da dn dc]] w fun e w' => ∃ oa n c ev, e = .returned (.tuple #[.slice oa n c, ev]) ∧ DoR w w' B d M ms ad kd a nm tn D (.slice oa n c) ev := by
  have hs : nm.size ≤ maxLen := by have := hO.sn; unfold maxLen; omega
  obtain ⟨ob, hob⟩ := run_ob h nm hs
  have hRef : ∀ b, ob = some b → ∃ m ∈ ms, m.b = b := fun b hb => (h.refL.1 (kS nm) b (by rw [hob, hb])).get
  have hn := hR.n; have hq := hR.q; refine (do_any d kd a nm tn da dn dc M ms B ad ob D w h hE hR.off hO.k9 hO.k10 hs hob (by omega) (by omega) hO.sl hO.lo (fun X w' ev => ∃ K f, kd = ((K : Nat) : Int) ∧ FtK K nm ob M ms a dn f ∧ StOut X w' B d M (ms.map Bd.tell) ad ev f (Dn K a nm tn D M (ms.map Bd.tell))) ?_ ?_).mono ?_
  · rintro X w' ev ⟨K, f, -, -, h1 | h1⟩
    · exact h1.2.1.evOk
    · exact .inl h1.2.1
  · intro X hX h1 h7
    have hOX : ∀ K : Int, kd = K → OpAt X B K a nm tn da dn dc D := fun K hK => by
      subst hK; exact ⟨hO.sn, hO.st, hO.sl.grown0 hX, hO.cp, hO.lo, hO.z, hO.ia, hO.k9, hO.k10⟩
    rcases (by omega : kd = 1 ∨ kd = 2 ∨ kd = 3 ∨ kd = 4 ∨ kd = 5 ∨ kd = 6 ∨ kd = 7) with rfl | rfl | rfl | rfl | rfl | rfl | rfl
    · refine (step1_any d a nm tn da dn dc M ms B ad ob D X (h.grown0 hX) (hE.grown hX) hR (hOX 1 rfl) hob).mono ?_; rintro e w' ⟨f, ev, rfl, h3, h4⟩; exact ⟨ev, rfl, 1, f, rfl, h3, h4⟩
    · refine (step2_any d a nm tn da dn dc M ms B ad ob D X (h.grown0 hX) (hE.grown hX) hR (hOX 2 rfl) hob).mono ?_; rintro e w' ⟨f, ev, rfl, h3, h4⟩; exact ⟨ev, rfl, 2, f, rfl, h3, h4⟩
    · refine (step3_any d a nm tn da dn dc M ms B ad ob D X (h.grown0 hX) (hE.grown hX) hR (hOX 3 rfl) hob).mono ?_; rintro e w' ⟨f, ev, rfl, h3, h4⟩; exact ⟨ev, rfl, 3, f, rfl, h3, h4⟩
    · refine (step4_any d a nm tn da dn dc M ms B ad ob D X (h.grown0 hX) (hE.grown hX) hR (hOX 4 rfl) hob).mono ?_; rintro e w' ⟨f, ev, rfl, h3, h4⟩; exact ⟨ev, rfl, 4, f, rfl, h3, h4⟩
    · refine (step5_any d a nm tn da dn dc M ms B ad ob D X (h.grown0 hX) (hE.grown hX) hR (hOX 5 rfl) hob).mono ?_; rintro e w' ⟨f, ev, rfl, h3, h4⟩; exact ⟨ev, rfl, 5, f, rfl, h3, h4⟩
    · refine (step6_any d a nm tn da dn dc M ms B ad ob D X (h.grown0 hX) (hE.grown hX) hR (hOX 6 rfl) hob).mono ?_; rintro e w' ⟨f, ev, rfl, h3, h4⟩; exact ⟨ev, rfl, 6, f, rfl, h3, h4⟩
    · refine (step7_any d a nm tn da dn dc M ms B ad ob D X (h.grown0 hX) (hE.grown hX) hR (hOX 7 rfl) hob).mono ?_; rintro e w' ⟨f, ev, rfl, h3, h4⟩; exact ⟨ev, rfl, 7, f, rfl, h3, h4⟩
  · rintro e w' ⟨oa, n, c, ev, rfl, hev, hdo⟩; refine ⟨oa, n, c, ev, rfl, ?_⟩; have hB := h.sizeB
    rcases hdo with ⟨rfl, h1, h2, h3⟩ | ⟨rfl, h1⟩ | ⟨h1, h2, h3, h4, h5⟩ | ⟨h1, h2, h3, X, hX, K, f, hk, hf, hst⟩
    · obtain ⟨ms', lb, v, g1, g2, g3, g4, g5⟩ := h3; refine ⟨.inl h2, hE.to g5, g5, g4.wide (by simp) (by intro t ht; simp only [List.mem_cons, List.not_mem_nil, or_false] at ht; rcases ht with h | h | h <;> simp [h]), ⟨_, ms', g1, .inl ⟨rfl, rfl, rfl, rfl, rfl, v, g2, g3⟩, rfl, rfl, rfl⟩, fun h => by omega⟩
    · have hg := h1.1
      have hlow : ∀ k, k < B → w'.heap[k]? = w.heap[k]? := fun k hk => hg.block k (by omega) (by simp)
      refine ⟨?_, hE.to hlow, hlow, Moves.of_grown0 hg, ⟨M, ms, h.grown0 hg, .inr (.inl ⟨by omega, ⟨rfl, rfl, rfl, rfl, rfl⟩, ?_⟩), rfl, hR.fuse, hR.off⟩, fun _ b L S h2 h3 => ?_⟩
      · rcases h1.2 with ⟨-, -, h2⟩ | ⟨_, _, _, h2, _⟩
        · exact .inr h2
        · exact .inl h2
      · rintro (⟨hk, -⟩ | ⟨hk, -⟩ | ⟨hk, -⟩ | hk) <;> omega
      · have hbo : ob = some b := bD_inj (hob.symm.trans h2)
        rcases h1.2 with ⟨h4, -⟩ | ⟨m, hm, h4, h5, h6⟩
        · rw [h4] at hbo; cases hbo
        · obtain rfl : m.b = b := Option.some.inj (h4.symm.trans hbo); obtain ⟨rfl, -⟩ := tell_uniq h.bods.one hm h3; exact ⟨h5, h6⟩
    · have hlow : ∀ k, k < B → w'.heap[k]? = w.heap[k]? := fun k hk => h5.block k (by omega) (by simp)
      refine ⟨.inr h4, hE.to hlow, hlow, Moves.of_grown0 h5, ⟨M, ms, h.grown0 h5, .inr (.inl ⟨h2, ⟨rfl, rfl, rfl, rfl, rfl⟩, ?_⟩), rfl, hR.fuse, hR.off⟩, fun h => by omega⟩; rintro (⟨hk, -⟩ | ⟨hk, -⟩ | ⟨hk, -⟩ | hk) <;> omega
    · have hXl : ∀ k, k < B → X.heap[k]? = w.heap[k]? := fun k hk => hX.block k (by omega) (by simp)
      rcases hst with ⟨⟨j, hj⟩, g1, g2⟩ | ⟨g0, g1, g2⟩
      · obtain ⟨M', ms', f1, f2, f3, f4, f5⟩ := g2.same; obtain ⟨_, _, _, _, q3, q4⟩ := g2
        have hlow : ∀ k, k < B → w'.heap[k]? = w.heap[k]? := fun k hk => (q4 k hk).trans (hXl k hk)
        refine ⟨.inr g1, hE.to hlow, hlow, (Moves.of_grown0 hX).trans (q3.wide (by simp) (by intro t ht; simp only [List.mem_cons, List.not_mem_nil, or_false] at ht; rcases ht with h | h <;> simp [h])), ⟨M', ms', f1, .inr (.inl ⟨by omega, f2, fun hc => ?_⟩), f3, f4.trans hR.fuse, f5.trans hR.off⟩, fun h => by omega⟩; rw [hO.sl.1, hk] at hc; have h9 := hf.can h.bods.one hob hRef hc; rw [hj] at h9
        cases h9
      · obtain ⟨⟨M', ms', f1, f2, f3, f4, f5⟩, q3, q4⟩ := g2.all
        have hlow : ∀ k, k < B → w'.heap[k]? = w.heap[k]? := fun k hk => (q4 k hk).trans (hXl k hk)
        exact ⟨.inl g1, hE.to hlow, hlow, (Moves.of_grown0 hX).trans q3, ⟨M', ms', f1, .inr (.inr ⟨K, hk, f2⟩), f3, f4.trans hR.fuse, f5.trans hR.off⟩, fun h => by omega⟩
structure Op where
  kd : Int
  a : Int
  nm : ByteArray
  tn : ByteArray
  D : List Nat
def OpsAt (w : World) (B : Nat) (oa : Option Addr) (ops : List Op) : Prop := ∀ (i : Nat) (o : Op), ops[i]? = some o → ∃ b off da dn dc, oa = some ⟨b, off, none⟩ ∧ w.cell? ⟨b, off + i * 5, none⟩ = some (.int .i64 o.kd) ∧ w.cell? ⟨b, off + i * 5 + 1, none⟩ = some (.int .i64 o.a) ∧ w.cell? ⟨b, off + i * 5 + 2, none⟩ = some (.string o.nm) ∧ w.cell? ⟨b, off + i * 5 + 3, none⟩ = some (.string o.tn) ∧ w.cell? ⟨b, off + i * 5 + 4, none⟩ = some (.slice da dn dc) ∧ OpAt w B o.kd o.a o.nm o.tn da dn dc o.D
theorem cell_low {w w' : World} {B : Nat} {a : Addr} {v : Value} (h : w.cell? a = some v) (hb : a.block < B) (hl : ∀ k, k < B → w'.heap[k]? = w.heap[k]?) : w'.cell? a = some v := (World.cell?_of_block (w := w) (a := a) (hl a.block hb)).trans h
theorem OpsAt.to {w w' : World} {oa : Option Addr} {ops : List Op} (h : OpsAt w w.heap.size oa ops) (hl : ∀ k, k < w.heap.size → w'.heap[k]? = w.heap[k]?) : OpsAt w' w.heap.size oa ops := fun i o hi => by
  obtain ⟨b, off, da, dn, dc, h1, h2, h3, h4, h5, h6, h7⟩ := h i o hi; exact ⟨b, off, da, dn, dc, h1, cell_low h2 (cell_block_lt h2) hl, cell_low h3 (cell_block_lt h3) hl, cell_low h4 (cell_block_lt h4) hl, cell_low h5 (cell_block_lt h5) hl, cell_low h6 (cell_block_lt h6) hl, ⟨h7.sn, h7.st, h7.sl.keep (fun b' off' hd => hl b' (h7.lo b' off' hd)), h7.cp, h7.lo, h7.z, h7.ia, h7.k9, h7.k10⟩⟩
theorem ownS_moves {w w' : World} {B e s n : Nat} {v : Value} {xs : List Value} {mp : List Nat} {ts : List TypeId} (ho : w.ownsRow B e s v n xs) (hM : Moves mp ts w w') (ht : e ∉ ts) (hmp : ∀ k ∈ mp, ∃ es ck, w.heap[k]? = some (.map es ck)) : w'.ownsRow B e s v n xs := by
  obtain ⟨hl, h1' | ⟨g', cap', cur', h1', hb', hg', h2'⟩⟩ := ho
  · exact ⟨hl, .inl h1'⟩
  · refine ⟨hl, .inr ⟨g', cap', cur', h1', hb', hM.cells hg' ht (fun hc => ?_), h2'⟩⟩; obtain ⟨es, ck, g1⟩ := hmp g' hc; rw [g1] at hg'
    cases hg'
theorem Tryz.infoAns : (Tryz.prog.info? 35).map (fun i => (i.zero, i.size, i.bytes)) = some (some (.agg #[.int .i64 0, .slice none 0 0]), 2, 32) := by kernel_rfl
theorem Tryz.sizeOut : (Tryz.prog.info? 44).map (·.size) = some 5 := by kernel_rfl
theorem results_out {fn : Func} {t : Tmp} {w : World} {g : Nat} {vs : List Value} {tmps : Array Value} (h : fn.results = #[.cell t 44]) (ht : tmps.getD t undef = .pointer (some ⟨g, 0, none⟩)) (hg : w.heap[g]? = some (.cells vs.toArray 44 (0, 0))) (hl : vs.length = 5) : (results fn tmps).run Tryz.prog w = .ok (.agg vs.toArray) w := by
  have h1 := run_loadVar_mid (P := Tryz.prog) w g 0 44 vs _ (range_blk hg) Tryz.underlying44 rfl (by rw [hl]; exact Tryz.sizeOut); exact results_ret h ht h1
theorem Img.of_row {w : World} {oa : Option Addr} {L : List (List Tr)} (h : RowOk w kFile oa L) (ht : totR L ≤ 1048576) (hk : okImg (filesOf L) = true) : Img w oa (filesOf L) := fun i s d hi => by
  have hil : i < L.length := by have := (List.getElem?_eq_some_iff.1 hi).1; rwa [filesOf_len] at this
  obtain ⟨e, he⟩ : ∃ e, L[i]? = some e := ⟨_, List.getElem?_eq_getElem hil⟩; obtain ⟨hf, hrd, b, off, hab, hc⟩ := h i e he; obtain ⟨t0, d1, a1, p1, rfl⟩ := fitFile hf; have h9 := filesOf_get he; rw [hi] at h9; obtain ⟨rfl, rfl⟩ := Prod.mk.inj (Option.some.inj h9)
  have hts : s.size ≤ 1048576 := by have h1 := tot_sub (y := .str s) (j := 0) he rfl; rw [tot_str] at h1; omega
  have hbad : badAt (filesOf L) i = false := by
    simp only [okImg, Bool.and_eq_true, decide_eq_true_eq] at hk; exact hk.1.2 i (by rw [filesOf_len]; exact hil)
  rw [badAt_eq hi] at hbad; simp only [Bool.or_eq_false_iff, decide_eq_false_iff_not] at hbad
  have hd2 : d.length ≤ 65536 := by omega
  refine ⟨hts, hd2, b, off, a1, p1, hab, hc 0 _ rfl, hc 1 _ rfl, ?_⟩; have h8 := hrd (.byt d a1 p1) (by simp); exact h8.isByt
theorem DkAt.keep {w w' : World} {B d : Nat} {M : Dk} {ms : List Bd} {ts : List TypeId} (h : DkAt w B d M ms) (hM : Moves [] ts w w') (ht : ∀ t ∈ ts, t ≠ 93 ∧ t ≠ 5 ∧ t ≠ 104 ∧ t ≠ 90 ∧ t ≠ 157 ∧ t ≠ 160 ∧ t ≠ 153 ∧ t ≠ 127) (hlow : ∀ k, k < B → w'.heap[k]? = w.heap[k]?) : DkAt w' B d M ms :=
  ⟨hM.cells h.box (fun hc => (ht _ hc).2.2.2.1 rfl) (by simp), hM.map h.dl (by simp), hM.map h.ds (by simp), h.ne, h.low, h.bods.moves hM (fun hc => (ht _ hc).1 rfl) (fun hc => (ht _ hc).2.1 rfl) (by simp), own1_moves h.q (Nat.le_refl _) hM (fun hc => (ht _ hc).2.2.1 rfl) (by simp), fun x hx => (h.chs x hx).moves hM (fun t hc => ⟨(ht t hc).2.2.2.2.1, (ht t hc).2.2.2.2.2.1, (ht t hc).2.2.2.2.2.2.1, (ht t hc).2.2.2.2.2.2.2⟩) (by simp) hlow, h.refs, h.refL, h.refS⟩
def FlRes0 (w' : World) (ms : List Bd) (D : DataW Unit) (sel : Bd → List Nat) (v : Value) : Prop := ∃ ss F B', NamesOf D ss ∧ FlOf ms D sel ss F ∧ FlAt w' B' v F
def LastA (w' : World) (B : Nat) (n : Nat) (last : List Nat) (av : Value) : Prop := ∃ oa c cells, av = .slice oa n c ∧ w'.ownsRow B 35 2 av n cells ∧ cells[(n - 1) * 2]? = some (.int .i64 0) ∧ ∃ a1 c1, cells[(n - 1) * 2 + 1]? = some (.slice a1 last.length c1) ∧ BRow w' B (.slice a1 last.length c1) last
theorem LastA.grown0 {w w' : World} {B n : Nat} {last : List Nat} {av : Value} (h : LastA w B n last av) (hg : w.grownBy w' none) : LastA w' B n last av := by
  obtain ⟨oa, c, cells, h1, h2, h3, a1, c1, h4, h5⟩ := h; exact ⟨oa, c, cells, h1, own1_grown h2 hg, h3, a1, c1, h4, h5.grown0 hg⟩
theorem row_keepT {w w' : World} {B e s n g : Nat} {v : Value} {xs : List Value} {cur : Array Value} {t : TypeId} {f : Nat × Nat} (h : w.ownsRow B e s v n xs) (hk : ∀ k, k ≠ g → w'.heap[k]? = w.heap[k]?) (hb : w.heap[g]? = some (.cells cur t f)) (ht : t ≠ e) : w'.ownsRow B e s v n xs := own1_keepT h hb ht hk
theorem BRow.keepT {w w' : World} {B g : Nat} {v : Value} {L : List Nat} {cur : Array Value} {t : TypeId} {f : Nat × Nat} (h : BRow w B v L) (hk : ∀ k, k ≠ g → w'.heap[k]? = w.heap[k]?) (hb : w.heap[g]? = some (.cells cur t f)) (ht : t ≠ 5) : BRow w' B v L := by
  obtain ⟨hz, h | ⟨g', cap, rfl, hc, ho⟩⟩ := h
  · exact ⟨hz, .inl h⟩
  · exact ⟨hz, .inr ⟨g', cap, rfl, hc, row_keepT ho hk hb ht⟩⟩
theorem FlAt.keepT {w w' : World} {B g : Nat} {v : Value} {F : List (List UInt8 × List Nat)} {cur : Array Value} {t : TypeId} {f : Nat × Nat} (h : FlAt w B v F) (hk : ∀ k, k ≠ g → w'.heap[k]? = w.heap[k]?) (hb : w.heap[g]? = some (.cells cur t f)) (ht : t ≠ 5) (ht2 : t ≠ 55) : FlAt w' B v F := by
  obtain ⟨oa, c, cells, h1, h2, h3, h4⟩ := h; refine ⟨oa, c, cells, h1, row_keepT h2 hk hb ht2, h3, fun i s d hi => ?_⟩; obtain ⟨g1, a1, c1, g2, g3⟩ := h4 i s d hi; exact ⟨g1, a1, c1, g2, g3.keepT hk hb ht⟩
theorem LastA.keepT {w w' : World} {B n g : Nat} {last : List Nat} {av : Value} {cur : Array Value} {t : TypeId} {f : Nat × Nat} (h : LastA w B n last av) (hk : ∀ k, k ≠ g → w'.heap[k]? = w.heap[k]?) (hb : w.heap[g]? = some (.cells cur t f)) (ht : t ≠ 5) (ht2 : t ≠ 35) : LastA w' B n last av := by
  obtain ⟨oa, c, cells, h1, h2, h3, a1, c1, h4, h5⟩ := h; exact ⟨oa, c, cells, h1, row_keepT h2 hk hb ht2, h3, a1, c1, h4, h5.keepT hk hb ht⟩
theorem FlRes0.keepT {w w' : World} {ms : List Bd} {D : DataW Unit} {sel : Bd → List Nat} {g : Nat} {v : Value} {cur : Array Value} {t : TypeId} {f : Nat × Nat} (h : FlRes0 w ms D sel v) (hk : ∀ k, k ≠ g → w'.heap[k]? = w.heap[k]?) (hb : w.heap[g]? = some (.cells cur t f)) (ht : t ≠ 5) (ht2 : t ≠ 55) : FlRes0 w' ms D sel v := by
  obtain ⟨ss, F, B', h1, h2, h3⟩ := h; exact ⟨ss, F, B', h1, h2, h3.keepT hk hb ht ht2⟩
theorem FlRes0.grown0 {w w' : World} {ms : List Bd} {D : DataW Unit} {sel : Bd → List Nat} {v : Value} (h : FlRes0 w ms D sel v) (hg : w.grownBy w' none) : FlRes0 w' ms D sel v := by
  obtain ⟨ss, F, B', h1, h2, h3⟩ := h; exact ⟨ss, F, B', h1, h2, h3.grown0 hg⟩
def Rf (M : Dk) (P : Pb) : Prop := (∀ kl b, M.LD.atKey kl .nil = bD (some b) → b ∈ P.map (·.1)) ∧ (∀ kl b, M.SD.atKey kl .nil = bD (some b) → b ∈ P.map (·.1)) ∧ ∀ x ∈ M.queue, (x.kind ≠ 3 → x.b ∈ P.map (·.1)) ∧ (x.kind = 3 → ∀ y ∈ x.bs, ∀ b, y.2 = some b → b ∈ P.map (·.1))
theorem DkAt.rf {w : World} {B d : Nat} {M : Dk} {ms : List Bd} (h : DkAt w B d M ms) : Rf M (ms.map Bd.tell) := by
  have e : (ms.map Bd.tell).map (·.1) = ms.map Bd.b := by rw [List.map_map]; rfl
  unfold Rf
  rw [e]; exact ⟨h.refL.1, h.refS.1, fun x hx => h.refs x hx⟩
def DrOut (w w' : World) (Inv : Nat → Dk → Pb → Prop) (n : Nat) (last : List Nat) (av lv sv : Value) (q : Int) : Prop :=
  ∃ M ms, Inv n M (ms.map Bd.tell) ∧ (ms.map Bd.b).Nodup ∧ q = (npsum M.queue : Int) ∧ LastA w' w.heap.size n last av ∧ FlRes0 w' ms M.LD Bd.L lv ∧ FlRes0 w' ms M.SD Bd.S sv ∧ w.grownBy w' none
structure DrSt (w wr : World) (d n : Nat) (ad : Nat → Addr) (Inv : Nat → Dk → Pb → Prop) (last : List Nat) (k : Nat) (av : Value) (M : Dk) (ms : List Bd) (cells : List Value) : Prop where
  dk : DkAt wr w.heap.size d M ms
  inv : Inv k M (ms.map Bd.tell)
  fuse : M.fuse = -1
  off : M.off = false
  errs : ErrsAt wr w.heap.size ad
  low : ∀ j, j < w.heap.size → wr.heap[j]? = w.heap[j]?
  frame : wr.os = w.os ∧ wr.tape = w.tape ∧ wr.output = w.output ∧ w.heap.size ≤ wr.heap.size
  row : wr.ownsRow w.heap.size 35 2 av k cells
  out : wr.heap[w.heap.size]? = some (.cells #[.int .i64 0, .slice none 0 0, .slice none 0 0, .slice none 0 0, .int .i64 0] 44 (0, 0))
  last : k = n → LastA wr w.heap.size n last av
theorem DrSt.gr {w wr : World} {d n : Nat} {ad : Nat → Addr} {Inv : Nat → Dk → Pb → Prop} {last : List Nat} {k : Nat} {av : Value} {M : Dk} {ms : List Bd} {cells : List Value} (h : DrSt w wr d n ad Inv last k av M ms cells) : w.grownBy wr none := ⟨h.frame.1, h.frame.2.1, h.frame.2.2.1, h.frame.2.2.2, fun i hi _ => h.low i hi⟩
set_option maxRecDepth 20000 in
set_option maxHeartbeats 8000000 in
theorem DiskRun_any (oa : Option Addr) (n cp : Nat) (cap : Int) (pa : Option Addr) (pn pc : Nat) (L : List (List Tr)) (ops : List Op) (ad : Nat → Addr) (Inv : Nat → Dk → Pb → Prop) (last : List Nat) (w : World)
    (hI : RowOk w kFile oa L) (hIt : totR L ≤ 1048576) (hIok : okImg (filesOf L) = true) (hLn : L.length = n) (hL : n ≤ 100) (hops : OpsAt w w.heap.size pa ops) (hpn : ops.length = pn) (hp1 : 1 ≤ pn) (hp2 : pn ≤ 1000) (hE : ErrsAt w w.heap.size ad)
    (H0 : ∀ M P bs, NewD (filesOf L) cap M P bs → Inv 0 M P) (HRn : ∀ i M P, i ≤ pn → Inv i M P → M.fuse = -1 → M.off = false → Run M P)
    (HSt : ∀ (i : Nat) (o : Op) (M : Dk) (P : Pb) (M' : Dk) (P' : Pb), ops[i]? = some o → Inv i M P → (P.map (·.1)).Nodup → Rf M P → TrD o.kd o.a o.nm o.tn o.D M P M' P' → M'.cap = M.cap → Inv (i + 1) M' P')
    (HLs : ∀ (o : Op) (M : Dk) (P : Pb), ops[pn - 1]? = some o → Inv (pn - 1) M P → o.kd = 8 ∧ ∃ b S, M.LD.atKey (kS o.nm) .nil = bD (some b) ∧ (b, last, S) ∈ P) :
    Calls Tryz.prog 16 #[.slice oa n cp, .int .i64 cap, .slice pa pn pc] w fun e w' => ∃ av lv sv q, e = .returned (.agg #[.int .i64 0, av, lv, sv, .int .i64 q]) ∧ DrOut w w' Inv pn last av lv sv q := by
  have hg0 : w.grownBy (w.alloc (.cells #[.int .i64 0, .slice none 0 0, .slice none 0 0, .slice none 0 0, .int .i64 0] 44)) none := World.grownBy_alloc w _ none; have hX := heap_alloc_new w (.cells #[.int .i64 0, .slice none 0 0, .slice none 0 0, .slice none 0 0, .int .i64 0] 44); have HV : Hid (Calls _ _ _ _ _) := validImage_any L oa cp (w.alloc (.cells #[.int .i64 0, .slice none 0 0, .slice none 0 0, .slice none 0 0, .int .i64 0] 44)) (hI.grown0 hg0) hIt; rw [hIok, hLn] at HV; have HIM : Hid (Img w oa (filesOf L) ∧ (filesOf L).length = n) := ⟨Img.of_row hI hIt hIok, by rw [filesOf_len]; exact hLn⟩; have HO : Hid (OpsAt w w.heap.size pa ops ∧ ops.length = pn ∧ ErrsAt w w.heap.size ad) := ⟨hops, hpn, hE⟩; have HH : Hid ((∀ M P bs, NewD (filesOf L) cap M P bs → Inv 0 M P) ∧ (∀ i M P, i ≤ pn → Inv i M P → M.fuse = -1 → M.off = false → Run M P) ∧ (∀ (i : Nat) (o : Op) (M : Dk) (P : Pb) (M' : Dk) (P' : Pb), ops[i]? = some o → Inv i M P → (P.map (·.1)).Nodup → Rf M P → TrD o.kd o.a o.nm o.tn o.D M P M' P' → M'.cap = M.cap → Inv (i + 1) M' P') ∧ (∀ (o : Op) (M : Dk) (P : Pb), ops[pn - 1]? = some o → Inv (pn - 1) M P → o.kd = 8 ∧ ∃ b S, M.LD.atKey (kS o.nm) .nil = bD (some b) ∧ (b, last, S) ∈ P)) := ⟨H0, HRn, HSt, HLs⟩; have HG0 : Hid (w.grownBy (w.alloc (.cells #[.int .i64 0, .slice none 0 0, .slice none 0 0, .slice none 0 0, .int .i64 0] 44)) none ∧ (w.alloc (.cells #[.int .i64 0, .slice none 0 0, .slice none 0 0, .slice none 0 0, .int .i64 0] 44)).heap[w.heap.size]? = some (.cells #[.int .i64 0, .slice none 0 0, .slice none 0 0, .slice none 0 0, .int .i64 0] 44 (0, 0))) := ⟨hg0, hX⟩
  have hpI : ¬ ((5000 : Int) < (pn : Int)) := by omega
  clear hI hIt hIok hLn hops hpn hE H0 HRn HSt HLs hg0 hX
  go_enter Tryz.func16, Tryz.ntmps16
  go_wp2_with fail; refine HV.out.mono ?_; rintro e w1 ⟨rfl, hg1⟩; have HG1 : Hid (w.grownBy w1 none ∧ w1.heap[w.heap.size]? = some (.cells #[.int .i64 0, .slice none 0 0, .slice none 0 0, .slice none 0 0, .int .i64 0] 44 (0, 0))) := ⟨grownBy_trans HG0.out.1 hg1, grown_blk hg1 HG0.out.2⟩; have HND : Hid (Calls _ _ _ _ _) := newDisk_any oa n cp cap (filesOf L) w.heap.size w1 (HIM.out.1.grown0 HG1.out.1) HIM.out.2 hL HG1.out.1.size; clear hg1 HG0 HV; go_wp2_with fail; refine HND.out.mono ?_; rintro e w2 ⟨d, rfl, M0, ms0, bs, hd1, hd2, hd3⟩
  have HST0 : Hid (DrSt w w2 d pn ad Inv last 0 (.slice none 0 0) M0 ms0 []) := by
    have hg := grownBy_trans HG1.out.1 hd3; refine ⟨hd1, HH.out.1 _ _ _ hd2, hd2.2.2.1, hd2.2.2.2.1, HO.out.2.2.grown hg, fun j hj => hg.block j hj (by simp), ⟨hg.os, hg.tape, hg.output, hg.size⟩, World.ownsRow_nil _ _ _ _, grown_blk hd3 HG1.out.2, fun h => by omega⟩
  clear hd1 hd2 hd3 HND HG1; go_wp2
  go_loopw [8, 26] (fun av iv wr => ∃ (k : Nat) (M : Dk) (ms : List Bd) (cells : List Value), k ≤ pn ∧ iv = .int .i64 (k : Int) ∧ (∃ oa c, av = .slice oa k c) ∧ DrSt w wr d pn ad Inv last k av M ms cells) (fun _ iv _ => pn - (intOf iv).toNat)
  case atStart => exact ⟨0, M0, ms0, [], Nat.zero_le _, rfl, ⟨none, 0, rfl⟩, HST0.out⟩
  case round =>
    obtain ⟨k, M, ms, cells, hk, rfl, ⟨va, vc, rfl⟩, hst⟩ := hrel; have HS : Hid (DrSt w wr d pn ad Inv last k (.slice va k vc) M ms cells) := hst; clear hst HST0
    by_cases hlt : k < pn
    · obtain ⟨o, ho⟩ : ∃ o, ops[k]? = some o := ⟨_, List.getElem?_eq_getElem (by rw [HO.out.2.1]; exact hlt)⟩; obtain ⟨b, off, da, dn, dc, hpa, q0, q1, q2, q3, q4, hop⟩ := (HO.out.1.to HS.out.low) k o ho; subst hpa; obtain ⟨kd, a, nm, tn, D⟩ := o; simp only at q0 q1 q2 q3 q4 hop; have HOP : Hid (ops[k]? = some ⟨kd, a, nm, tn, D⟩) := ho; have hXg : wr.grownBy (wr.alloc (.cells #[.int .i64 kd, .int .i64 a, .string nm, .string tn, .slice da dn dc] 33)) none := World.grownBy_alloc wr _ none; have HDO : Hid (Calls _ _ _ _ _) := do_all d kd a nm tn da dn dc M ms w.heap.size ad D (wr.alloc (.cells #[.int .i64 kd, .int .i64 a, .string nm, .string tn, .slice da dn dc] 33)) (HS.out.dk.grown0 hXg) (HS.out.errs.grown hXg) (HH.out.2.1 k M _ hk HS.out.inv HS.out.fuse HS.out.off) ⟨hop.sn, hop.st, hop.sl.grown0 hXg, hop.cp, hop.lo, hop.z, hop.ia, hop.k9, hop.k10⟩
      have hkI : (k : Int) < (pn : Int) := by omega
      have v1 : IntKind.i64.wrap ((k : Int) + 1) = (k : Int) + 1 := IntWalk.i64_in _ (by omega); clear ho hop hXg; go_wp2_with fail; refine HDO.out.mono ?_; rintro e w3 ⟨dva, dvn, dvc, ev, rfl, hdo⟩
      have hmp : ∀ j ∈ [M.lb, M.sb], ∃ es ck, (wr.alloc (.cells #[.int .i64 kd, .int .i64 a, .string nm, .string tn, .slice da dn dc] 33)).heap[j]? = some (.map es ck) := fun j hj => by
        have hdx := HS.out.dk.grown0 (World.grownBy_alloc wr (.cells #[.int .i64 kd, .int .i64 a, .string nm, .string tn, .slice da dn dc] 33) none); simp only [List.mem_cons, List.not_mem_nil, or_false] at hj
        rcases hj with rfl | rfl
        · obtain ⟨es, ck, h1, -⟩ := hdx.dl; exact ⟨es, ck, h1⟩
        · obtain ⟨es, ck, h1, -⟩ := hdx.ds; exact ⟨es, ck, h1⟩
      have hXg : wr.grownBy (wr.alloc (.cells #[.int .i64 kd, .int .i64 a, .string nm, .string tn, .slice da dn dc] 33)) none := World.grownBy_alloc wr _ none
      have HC : Hid (Calls Tryz.prog 33 #[ev] w3 fun e w' => (∃ c : Int, e = .returned (.int .i64 c) ∧ (ev = .nilIface → c = 0)) ∧ w3.grownBy w' none) := by
        rcases hdo.1 with rfl | href
        · refine (codeOf_nil w3).mono ?_; rintro e w' ⟨rfl, hg⟩; exact ⟨⟨0, rfl, fun _ => rfl⟩, hg⟩
        · refine (codeOf_ref ad w.heap.size ev w3 hdo.2.1 href).mono ?_; rintro e w' ⟨⟨c, rfl⟩, hg⟩; refine ⟨⟨c, rfl, fun hc => ?_⟩, hg⟩; obtain ⟨g, _, _, _, _, h9, _⟩ := href; rw [hc] at h9
          cases h9
      have row3 : w3.ownsRow w.heap.size 35 2 (.slice va k vc) k cells := ownS_moves (own1_grown HS.out.row hXg) hdo.2.2.2.1 (by decide) hmp
      have out3 := hdo.2.2.2.1.cells (grown_blk hXg HS.out.out) (by decide) (fun hc => by
        obtain ⟨es, ck, h9⟩ := hmp _ hc; rw [grown_blk hXg HS.out.out] at h9
        cases h9)
      have HDN : Hid (DoR (wr.alloc (.cells #[.int .i64 kd, .int .i64 a, .string nm, .string tn, .slice da dn dc] 33)) w3 w.heap.size d M ms ad kd a nm tn D (.slice dva dvn dvc) ev ∧ w3.ownsRow w.heap.size 35 2 (.slice va k vc) k cells ∧ wr.grownBy (wr.alloc (.cells #[.int .i64 kd, .int .i64 a, .string nm, .string tn, .slice da dn dc] 33)) none ∧ w3.heap[w.heap.size]? = some (.cells #[.int .i64 0, .slice none 0 0, .slice none 0 0, .slice none 0 0, .int .i64 0] 44 (0, 0))) := ⟨hdo, row3, hXg, out3⟩; clear hdo row3 hXg out3 hmp HDO q0 q1 q2 q3 q4; go_wp2_with fail; refine HC.out.mono ?_; rintro e w4 ⟨⟨cc, rfl, hcc⟩, hg4⟩; have HR4 : Hid (w4.ownsRow w.heap.size 35 2 (.slice va k vc) k cells ∧ w3.grownBy w4 none ∧ (ev = .nilIface → cc = 0)) := ⟨own1_grown HDN.out.2.1 hg4, hg4, hcc⟩
      have hB4 : w.heap.size ≤ w4.heap.size := by
        have h1 := HS.out.frame.2.2.2; have h2 := HDN.out.2.2.1.size; have h3 := HDN.out.1.2.2.2.1.size; have h4 := hg4.size
        omega
      clear hcc hg4 HC
      go_wp2_with (at_builtin; refine wpList_app1 rfl _ _ 42 rfl w.heap.size 35 Tryz.underlying42 Tryz.infoAns rfl (by decide) (.slice va k vc) k cells rfl HR4.out.1 #[.int .i64 cc, .slice dva dvn dvc] w4.heap.size rfl rfl rfl rfl (by omega) (by decide) hB4 ?_; intro v5 w5 h5 h6 h7)
      obtain ⟨oa5, c5, rfl⟩ := h7
      have HN : Hid (∃ M' ms' cells', DrSt w w5 d pn ad Inv last (k + 1) (.slice oa5 (k + 1) c5) M' ms' cells') := by
        obtain ⟨⟨hev, herr, hlow3, hmv3, ⟨M', ms', f1, f2, f3, f4, f5⟩, hrd⟩, hrow3, hXg, hout3⟩ := HDN.out; obtain ⟨hrow4, hg4, hcc⟩ := HR4.out; have hM5 : Moves [] [35] w4 w5 := Moves.of_row hrow4 h6; have hs1 := HS.out.frame.2.2.2; have hs2 := hXg.size; have hs3 := hmv3.size; have hs4 := hg4.size
        have hlow5 : ∀ j, j < w.heap.size → w5.heap[j]? = w4.heap[j]? := fun j hj => h6.block j (by omega) (fun hc => by have := own1_base hrow4 hc.symm; omega)
        have hlow4 : ∀ j, j < w.heap.size → w4.heap[j]? = w.heap[j]? := fun j hj => (hg4.block j (by omega) (by simp)).trans ((hlow3 j hj).trans ((hXg.block j (by omega) (by simp)).trans (HS.out.low j hj)))
        have hlow : ∀ j, j < w.heap.size → w5.heap[j]? = w.heap[j]? := fun j hj => (hlow5 j hj).trans (hlow4 j hj)
        have hnd : ((ms.map Bd.tell).map (·.1)).Nodup := by
          rw [List.map_map]; exact HS.out.dk.bods.one
        refine ⟨M', ms', _, ⟨(f1.grown0 hg4).keep hM5 (by decide) hlow5, HH.out.2.2.1 k _ M _ M' _ HOP.out HS.out.inv hnd HS.out.dk.rf f2 f3, f4, f5, HO.out.2.2.to hlow, hlow, ⟨?_, ?_, ?_, ?_⟩, h5, ?_, fun hkn => ?_⟩⟩
        · exact h6.os.trans (hg4.os.trans (hmv3.os.trans (hXg.os.trans HS.out.frame.1)))
        · exact h6.tape.trans (hg4.tape.trans (hmv3.tape.trans (hXg.tape.trans HS.out.frame.2.1)))
        · exact h6.output.trans (hg4.output.trans (hmv3.output.trans (hXg.output.trans HS.out.frame.2.2.1)))
        · have := h6.size; omega
        · exact hM5.cells (grown_blk hg4 hout3) (by decide) (by simp)
        · obtain ⟨hkd, b', S', hat, hmem⟩ := HH.out.2.2.2 ⟨kd, a, nm, tn, D⟩ M (ms.map Bd.tell) (by rw [← hkn]; exact HOP.out) (by rw [← hkn]; exact HS.out.inv); obtain ⟨hevn, hbr⟩ := hrd hkd b' last S' hat hmem; obtain ⟨oa9, c9, he9, -⟩ := hbr.is; simp only [Value.slice.injEq] at he9; obtain ⟨-, hdl, -⟩ := he9; subst hdl
          have hcl : cells.length = k * 2 := by
            have := hrow4.1
            simpa using this
          rw [← hkn]; refine ⟨oa5, c5, _, rfl, h5, ?_, dva, dvc, ?_, ?_⟩
          · rw [Nat.add_sub_cancel, List.getElem?_append_right (by omega), hcl, Nat.sub_self, hcc hevn]
            rfl
          · rw [Nat.add_sub_cancel, List.getElem?_append_right (by omega), hcl, Nat.add_sub_cancel_left]
            rfl
          · exact (hbr.grown0 hg4).grown h6 (fun kk hkk hc => by
              obtain ⟨cur, h9⟩ := row_type hrow4 hc
              exact (hbr.grown0 hg4).ne h9 (by decide) hkk)
      clear h5 h6 HR4 HDN; go_wp2; go_roundw
      case rel =>
        obtain ⟨M', ms', cells', h9⟩ := HN.out; exact ⟨k + 1, M', ms', cells', hlt, by go_num, ⟨oa5, c5, rfl⟩, h9⟩
      case measure => simp [intOf]; omega
    · obtain rfl : k = pn := by omega
      have hkI : ¬ (k : Int) < (k : Int) := by omega
      have hRun := HH.out.2.1 k M _ hk HS.out.inv HS.out.fuse HS.out.off; have hN := hRun.n; have hq := hRun.q; have HLF : Hid (Calls _ _ _ _ _) := liveFiles_any d M ms w.heap.size wr HS.out.dk (by omega); have HNQ : Hid (M.N ≤ 1000000 ∧ M.queue.length ≤ 100000) := ⟨by omega, by omega⟩; clear hRun hN hq; go_wp2_with fail; refine HLF.out.mono ?_; rintro e w3 ⟨la, ln, lc, rfl, hl1, hl2⟩
      have HL3 : Hid (FlRes0 w3 ms M.LD Bd.L (.slice la ln lc) ∧ wr.grownBy w3 none) := by
        obtain ⟨ss, F, B', g1, g2, g3, -⟩ := hl1; exact ⟨⟨ss, F, B', g1, g2, g3⟩, hl2⟩
      have HSF : Hid (Calls _ _ _ _ _) := syncedFiles_any d M ms w.heap.size w3 (HS.out.dk.grown0 hl2) HNQ.out.1; clear hl1 hl2 HLF; go_wp2_with fail; refine HSF.out.mono ?_; rintro e w4 ⟨sa, sn, sc, rfl, hl1, hl2⟩
      have HL4 : Hid (FlRes0 w4 ms M.SD Bd.S (.slice sa sn sc) ∧ w3.grownBy w4 none) := by
        obtain ⟨ss, F, B', g1, g2, g3, -⟩ := hl1; exact ⟨⟨ss, F, B', g1, g2, g3⟩, hl2⟩
      have HQF : Hid (Calls _ _ _ _ _) := queued_any d M ms w.heap.size w4 (HS.out.dk.grown0 (grownBy_trans HL3.out.2 hl2)) HNQ.out.2; clear hl1 hl2 HSF; go_wp2_with fail; refine HQF.out.mono ?_; rintro e w5 ⟨rfl, hg5⟩; have HG5 : Hid (wr.grownBy w5 none ∧ w4.grownBy w5 none) := ⟨grownBy_trans (grownBy_trans HL3.out.2 HL4.out.2) hg5, hg5⟩; have hob := grown_blk HG5.out.1 HS.out.out; clear hg5 HQF; have hT : w5.there w.heap.size 0 5 := there_blk hob rfl
      go_wp2_with (refine wpList_store_mid (by rfl) _ _ _ (by rfl) _ _ _ (by rfl) (by rfl) ?sa ?sb ?sc ?sd; exact hT; show _ = some 5; exact Tryz.sizeOut; exact all_oneCell_toArray (List.all_eq_true.1 rfl); simp only [Act.put])
      have hfin := setCells_all (vs := [.int .i64 0, .slice va k vc, .slice la ln lc, .slice sa sn sc, .int .i64 (npsum M.queue : Int)]) hob rfl; refine bodyPost_ret (results_out (g := w.heap.size) rfl rfl hfin rfl) rfl ?_
      have hoth : ∀ j, j ≠ w.heap.size → (w5.setCells w.heap.size 0 [.int .i64 0, .slice va k vc, .slice la ln lc, .slice sa sn sc, .int .i64 (npsum M.queue : Int)]).heap[j]? = w5.heap[j]? := fun j hj => setCells_oth w.heap.size j hj _ _ _
      refine ⟨.slice va k vc, .slice la ln lc, .slice sa sn sc, (npsum M.queue : Int), rfl, M, ms, HS.out.inv, HS.out.dk.bods.one, rfl, ?_, ?_, ?_, ?_⟩
      · exact ((HS.out.last rfl).grown0 HG5.out.1).keepT hoth hob (by decide) (by decide)
      · exact ((HL3.out.1.grown0 HL4.out.2).grown0 HG5.out.2).keepT hoth hob (by decide) (by decide)
      · exact (HL4.out.1.grown0 HG5.out.2).keepT hoth hob (by decide) (by decide)
      · exact grownBy_setCellsN (Nat.le_refl _) _ _ _ (grownBy_trans HS.out.gr HG5.out.1)
abbrev Bnd := ByteArray × Option Nat
def puts (bs : List Bnd) : Nat := (bs.map (fun y => if y.2.isSome then 1 else 0)).sum
theorem puts_append (a b : List Bnd) : puts (a ++ b) = puts a + puts b := by simp [puts]
theorem isKey_kS (s : ByteArray) : WideAt.IsKeyLit (kS s) := by unfold kS; trivial
theorem tidy_bind {D : DataW Unit} (h : Tidy D) (bs : List Bnd) : Tidy (bindD D bs) ∧ size (bindD D bs) ≤ size D + puts bs := by
  induction bs generalizing D with
  | nil => exact ⟨h, Nat.le_refl _⟩
  | cons x bs ih =>
    obtain ⟨s, ob⟩ := x
    have h1 : Tidy (bind1 D (s, ob)) ∧ size (bind1 D (s, ob)) ≤ size D + puts [(s, ob)] := by
      cases ob with
      | none =>
        refine ⟨h.del _, ?_⟩; have := size_del (k := kS s) h
        show size (D.del (kS s)) ≤ size D + 0
        omega
      | some b =>
        refine ⟨h.put (isKey_kS s) _, ?_⟩
        show size (D.put (kS s) _) ≤ size D + 1
        rw [size_put h]
        split <;> omega
    have h2 := ih h1.1
    have e : puts ((s, ob) :: bs) = puts [(s, ob)] + puts bs := by simp [puts]
    exact ⟨h2.1, by rw [e]; have := h2.2; have := h1.2; show size (bindD (bind1 D (s, ob)) bs) ≤ _; omega⟩
theorem bind_other {D : DataW Unit} {kl : Lit} {z : DataW Unit} : ∀ {bs : List Bnd}, (∀ y ∈ bs, kS y.1 ≠ kl) → (bindD D bs).atKey kl z = D.atKey kl z := by
  intro bs
  induction bs generalizing D with
  | nil => intro _; rfl
  | cons x bs ih =>
    intro h; obtain ⟨s, ob⟩ := x
    show (bindD (bind1 D (s, ob)) bs).atKey kl z = _
    rw [ih (fun y hy => h y (List.mem_cons_of_mem _ hy))]
    have hne : kl ≠ kS s := fun hc => h (s, ob) (by simp) hc.symm
    cases ob with
    | none => exact atKey_del_other hne z
    | some b => exact atKey_put_other hne _ z
theorem bind_val {kl : Lit} {b : Nat} : ∀ {bs : List Bnd} {D : DataW Unit}, IsMap D → (bindD D bs).atKey kl .nil = bD (some b) → D.atKey kl .nil = bD (some b) ∨ ∃ y ∈ bs, y.2 = some b ∧ kS y.1 = kl := by
  intro bs
  induction bs with
  | nil => intro D _ h; exact .inl h
  | cons x bs ih =>
    intro D hm h; obtain ⟨s, ob⟩ := x
    have hm1 : IsMap (bind1 D (s, ob)) := by cases ob with
      | none => exact hm.del _
      | some b => exact hm.put _ _
    rcases ih hm1 h with h1 | ⟨y, hy, h1⟩
    · by_cases hk : kl = kS s
      · subst hk
        cases ob with
        | none =>
          have h2 : (D.del (kS s)).atKey (kS s) .nil = bD (some b) := h1; rw [atKey_del_same] at h2
          cases h2
        | some b' =>
          have h2 : (D.put (kS s) (.lit (.int .i64 (b' : Int)))).atKey (kS s) .nil = bD (some b) := h1; rw [atKey_put_same hm (isKey_kS s)] at h2; have h3 : bD (some b') = bD (some b) := h2; exact .inr ⟨(s, some b'), by simp, bD_inj h3, rfl⟩
      · cases ob with
        | none => exact .inl ((atKey_del_other hk .nil).symm.trans h1)
        | some b' => exact .inl ((atKey_put_other hk _ .nil).symm.trans h1)
    · exact .inr ⟨y, List.mem_cons_of_mem _ hy, h1⟩
theorem bind_put {D : DataW Unit} (h : IsMap D) (s : ByteArray) (b : Nat) : (bindD D [(s, some b)]).atKey (kS s) .nil = bD (some b) := atKey_put_same h (isKey_kS s) _ _
def bsOf : List Ch → List Bnd
  | [] => []
  | x :: q => (if x.kind = 3 then x.bs else []) ++ bsOf q
theorem bsOf_append (a b : List Ch) : bsOf (a ++ b) = bsOf a ++ bsOf b := by
  induction a with
  | nil => rfl
  | cons x a ih => simp [bsOf, ih]
theorem mem_bsOf {y : Bnd} : ∀ {q : List Ch}, y ∈ bsOf q → ∃ x ∈ q, x.kind = 3 ∧ y ∈ x.bs
  | x :: q, h => by
    rcases List.mem_append.1 h with h1 | h1
    · split at h1
      · rename_i hk; exact ⟨x, by simp, hk, h1⟩
      · cases h1
    · obtain ⟨x', h2, h3⟩ := mem_bsOf h1; exact ⟨x', List.mem_cons_of_mem _ h2, h3⟩
theorem bindD_append (D : DataW Unit) (a b : List Bnd) : bindD D (a ++ b) = bindD (bindD D a) b := by simp [bindD, List.foldl_append]
theorem syncsD_some (b : Nat) : ∀ (q : List Ch) (D : DataW Unit), syncsD (some b) q D = D
  | [], _ => rfl
  | x :: q, D => by
    show syncsD (some b) q (if mineC (some b) x then syncD x D else D) = D
    rw [syncsD_some b q]
    by_cases hk : x.kind = 3
    · simp [mineC, hk]
    · simp [syncD, hk]
theorem syncsD_none : ∀ (q : List Ch) (D : DataW Unit), syncsD none q D = bindD D (bsOf q)
  | [], _ => rfl
  | x :: q, D => by
    show syncsD none q (if mineC none x then syncD x D else D) = bindD D ((if x.kind = 3 then x.bs else []) ++ bsOf q)
    rw [syncsD_none q, bindD_append]
    congr 1
    by_cases hk : x.kind = 3
    · simp [mineC, syncD, hk]
    · simp [mineC, hk, bindD]
theorem bsOf_rest_none : ∀ (q : List Ch), bsOf (q.filter (fun x => !(mineC none x))) = []
  | [] => rfl
  | x :: q => by
    by_cases hk : x.kind = 3
    · rw [List.filter_cons_of_neg (by simp [mineC, hk])]; exact bsOf_rest_none q
    · rw [List.filter_cons_of_pos (by simp [mineC, hk])]
      show (if x.kind = 3 then x.bs else []) ++ _ = []
      rw [bsOf_rest_none q, if_neg hk]
      rfl
theorem bsOf_rest_some (b : Nat) : ∀ (q : List Ch), bsOf (q.filter (fun x => !(mineC (some b) x))) = bsOf q
  | [] => rfl
  | x :: q => by
    by_cases hm : mineC (some b) x = true
    · rw [List.filter_cons_of_neg (by simp [hm]), bsOf_rest_some b q]
      have hk : x.kind ≠ 3 := by simp [mineC] at hm; exact hm.1
      show _ = (if x.kind = 3 then x.bs else []) ++ bsOf q
      rw [if_neg hk]; rfl
    · rw [List.filter_cons_of_pos (by simp [hm])]
      show (if x.kind = 3 then x.bs else []) ++ _ = (if x.kind = 3 then x.bs else []) ++ bsOf q
      rw [bsOf_rest_some b q]
theorem keptXD_other {C : List Nat} {x : Ch} {pl : Nat} (hk : x.kind ≠ 3) : ∀ (n : Nat) (D : DataW Unit), keptXD C x pl n D = D
  | 0, _ => rfl
  | n + 1, D => by
    unfold keptXD
    rw [keptXD_other hk n D]
    split
    · rfl
    · simp [keptD, hk]
theorem crash_bind (C : List Nat) : ∀ (q : List Ch) (pl : Nat) (D : DataW Unit), ∃ bs, crashD C q pl D = bindD D bs ∧ (∀ y ∈ bs, y ∈ bsOf q) ∧ puts bs ≤ puts (bsOf q)
  | [], _, _ => ⟨[], rfl, by simp, Nat.le_refl _⟩
  | x :: q, pl, D => by
    have h1 : ∃ bs, keptXD C x pl (npcs x) D = bindD D bs ∧ (∀ y ∈ bs, y ∈ (if x.kind = 3 then x.bs else [])) ∧ puts bs ≤ puts (if x.kind = 3 then x.bs else []) := by
      by_cases hk : x.kind = 3
      · have e : npcs x = 1 := by simp [npcs, hk]
        rw [e, if_pos hk]
        unfold keptXD
        split
        · exact ⟨[], rfl, by simp, Nat.zero_le _⟩
        · unfold keptXD keptD
          rw [if_pos hk]
          split
          · exact ⟨x.bs, rfl, fun y hy => hy, Nat.le_refl _⟩
          · exact ⟨[], rfl, by simp, Nat.zero_le _⟩
      · exact ⟨[], keptXD_other hk _ _, by simp, Nat.zero_le _⟩
    obtain ⟨b1, e1, m1, p1⟩ := h1; obtain ⟨b2, e2, m2, p2⟩ := crash_bind C q (pl + npcs x) (bindD D b1); refine ⟨b1 ++ b2, ?_, fun y hy => ?_, ?_⟩
    · show crashD C q (pl + npcs x) (keptXD C x pl (npcs x) D) = _
      rw [e1, e2, bindD_append]
    · rcases List.mem_append.1 hy with h | h
      · exact List.mem_append_left _ (m1 y h)
      · exact List.mem_append_right _ (m2 y h)
    · rw [puts_append]
      show _ ≤ puts ((if x.kind = 3 then x.bs else []) ++ bsOf q)
      rw [puts_append]
      omega
def Pm (m : Nat) (P : Pb) : Prop := ∀ y ∈ P, y.2.1.length ≤ m ∧ y.2.2.length ≤ m
def QOk (m : Nat) (x : Ch) : Prop := (x.kind = 1 → x.at_ + x.D.length ≤ m ∧ 1 ≤ x.D.length) ∧ (x.kind = 3 → x.bs.length ≤ 2) ∧ (x.kind ≠ 3 → x.bs = [])
theorem Pm.mono {m m' : Nat} {P : Pb} (h : Pm m P) (hm : m ≤ m') : Pm m' P := fun y hy => ⟨Nat.le_trans (h y hy).1 hm, Nat.le_trans (h y hy).2 hm⟩
theorem QOk.mono {m m' : Nat} {x : Ch} (h : QOk m x) (hm : m ≤ m') : QOk m' x := ⟨fun hk => ⟨Nat.le_trans (h.1 hk).1 hm, (h.1 hk).2⟩, h.2⟩
theorem Pm.onB {m b : Nat} {f : List Nat → List Nat} {P : Pb} (h : Pm m P) (hf : ∀ S, S.length ≤ m → (f S).length ≤ m) : Pm m (onB b f P) := fun y hy => by
  obtain ⟨z, hz, rfl⟩ := List.mem_map.1 hy; have h1 := h z hz
  by_cases hb : z.1 = b
  · rw [if_pos hb]; exact ⟨h1.1, hf _ h1.2⟩
  · rw [if_neg hb]; exact h1
theorem Pm.onL {m b : Nat} {f : List Nat → List Nat} {P : Pb} (h : Pm m P) (hf : ∀ S, S.length ≤ m → (f S).length ≤ m) : Pm m (onL b f P) := fun y hy => by
  obtain ⟨z, hz, rfl⟩ := List.mem_map.1 hy; have h1 := h z hz
  by_cases hb : z.1 = b
  · rw [if_pos hb]; exact ⟨hf _ h1.1, h1.2⟩
  · rw [if_neg hb]; exact h1
theorem Pm.syncP {m : Nat} {x : Ch} {P : Pb} (h : Pm m P) (hx : QOk m x) : Pm m (syncP x P) := by
  unfold Go.Proofs.YtgehhfncjoogiaaGreatDoor.syncP
  split
  · rename_i hk
    exact h.onB (fun S hS => ov_le hS (hx.1 hk).1)
  · split
    · exact h.onB (fun S hS => by rw [List.length_take]; omega)
    · exact h
theorem Pm.syncs {m : Nat} {o : Option Nat} : ∀ {q : List Ch} {P : Pb}, Pm m P → (∀ x ∈ q, QOk m x) → Pm m (syncsP o q P)
  | [], _, h, _ => h
  | x :: q, P, h, hq => by
    show Pm m (syncsP o q (if mineC o x then Go.Proofs.YtgehhfncjoogiaaGreatDoor.syncP x P else P))
    refine Pm.syncs ?_ (fun y hy => hq y (List.mem_cons_of_mem _ hy))
    split
    · exact h.syncP (hq x (by simp))
    · exact h
theorem wkept_len {m at_ p ch : Nat} {S D : List Nat} (hS : S.length ≤ m) (hD : at_ + D.length ≤ m) (h1 : 1 ≤ D.length) (hp : p < npc at_ D.length) : (wkept S at_ D p ch).length ≤ m := by
  have hft : pcFrom at_ p < pcTo at_ D.length p := by
    unfold npc at hp
    unfold pcFrom pcTo
    omega
  have hle : pcTo at_ D.length p ≤ at_ + D.length := by unfold pcTo; omega
  have hge : at_ ≤ pcFrom at_ p := by unfold pcFrom; omega
  have key : ∀ tt, (if pcFrom at_ p < tt then ov S (pcFrom at_ p) ((D.drop (pcFrom at_ p - at_)).take (tt - pcFrom at_ p)) else S).length ≤ m := fun tt => by
    split
    · refine ov_le hS ?_; rw [List.length_take, List.length_drop]
      omega
    · exact hS
  exact key _
theorem Pm.keptX {m : Nat} {C : List Nat} {x : Ch} {pl : Nat} (hx : QOk m x) : ∀ (n : Nat) {P : Pb}, n ≤ npcs x → Pm m P → Pm m (keptX C x pl n P)
  | 0, _, _, h => h
  | n + 1, P, hn, h => by
    have h1 := Pm.keptX (C := C) (pl := pl) hx n (Nat.le_of_succ_le hn) h
    unfold Go.Proofs.YtgehhfncjoogiaaGreatDoor.keptX
    split
    · exact h1
    · unfold keptP
      split
      · rename_i hk
        refine h1.onB (fun S hS => wkept_len hS (hx.1 hk).1 (hx.1 hk).2 ?_)
        have e : npcs x = npc x.at_ x.D.length := by simp [npcs, hk]
        omega
      · split
        · refine h1.onB (fun S hS => ?_)
          split
          · rw [List.length_take]; omega
          · exact hS
        · exact h1
theorem Pm.crash {m : Nat} {C : List Nat} : ∀ {q : List Ch} {pl : Nat} {P : Pb}, Pm m P → (∀ x ∈ q, QOk m x) → Pm m (crashP C q pl P)
  | [], _, _, h, _ => h
  | x :: q, pl, P, h, hq => by
    show Pm m (crashP C q (pl + npcs x) (Go.Proofs.YtgehhfncjoogiaaGreatDoor.keptX C x pl (npcs x) P))
    exact Pm.crash (Pm.keptX (hq x (by simp)) _ (Nat.le_refl _) h) (fun y hy => hq y (List.mem_cons_of_mem _ hy))
theorem Pm.cl {m : Nat} {v : Nat → Bool} {P : Pb} (h : Pm m P) : Pm m (clP v P) := fun y hy => by
  obtain ⟨z, hz, rfl⟩ := List.mem_map.1 hy; have h1 := h z hz
  split
  · exact ⟨h1.2, h1.2⟩
  · exact h1
theorem mem_onB {b b' : Nat} {L S : List Nat} {f : List Nat → List Nat} {P : Pb} (h : (b, L, S) ∈ P) (hne : b ≠ b') : (b, L, S) ∈ onB b' f P := List.mem_map.2 ⟨(b, L, S), h, if_neg hne⟩
theorem mem_onL {b b' : Nat} {L S : List Nat} {f : List Nat → List Nat} {P : Pb} (h : (b, L, S) ∈ P) (hne : b ≠ b') : (b, L, S) ∈ onL b' f P := List.mem_map.2 ⟨(b, L, S), h, if_neg hne⟩
theorem mem_onL_same {b : Nat} {L S : List Nat} {f : List Nat → List Nat} {P : Pb} (h : (b, L, S) ∈ P) : (b, f L, S) ∈ onL b f P := List.mem_map.2 ⟨(b, L, S), h, if_pos rfl⟩
theorem mem_onB_same {b : Nat} {L S : List Nat} {f : List Nat → List Nat} {P : Pb} (h : (b, L, S) ∈ P) : (b, L, f S) ∈ onB b f P := List.mem_map.2 ⟨(b, L, S), h, if_pos rfl⟩
theorem mem_syncP {b : Nat} {L S : List Nat} {x : Ch} {P : Pb} (h : (b, L, S) ∈ P) (hx : x.kind ≠ 3 → x.b ≠ b) : (b, L, S) ∈ syncP x P := by
  unfold syncP
  split
  · rename_i hk; exact mem_onB h (fun hc => hx (by omega) hc.symm)
  · split
    · rename_i hk; exact mem_onB h (fun hc => hx (by omega) hc.symm)
    · exact h
theorem mem_syncs {b : Nat} {L S : List Nat} {o : Option Nat} : ∀ {q : List Ch} {P : Pb}, (b, L, S) ∈ P → (∀ x ∈ q, mineC o x = true → x.kind ≠ 3 → x.b ≠ b) → (b, L, S) ∈ syncsP o q P
  | [], _, h, _ => h
  | x :: q, P, h, hq => by
    show (b, L, S) ∈ syncsP o q (if mineC o x then syncP x P else P)
    refine mem_syncs ?_ (fun y hy => hq y (List.mem_cons_of_mem _ hy))
    split
    · rename_i hm; exact mem_syncP h (hq x (by simp) hm)
    · exact h
theorem mem_keptX {b : Nat} {L S C : List Nat} {x : Ch} {pl : Nat} (hx : x.kind ≠ 3 → x.b ≠ b) : ∀ (n : Nat) {P : Pb}, (b, L, S) ∈ P → (b, L, S) ∈ keptX C x pl n P
  | 0, _, h => h
  | n + 1, P, h => by
    have h1 := mem_keptX (C := C) (pl := pl) hx n h
    unfold keptX
    split
    · exact h1
    · unfold keptP
      split
      · rename_i hk; exact mem_onB h1 (fun hc => hx (by omega) hc.symm)
      · split
        · rename_i hk; exact mem_onB h1 (fun hc => hx (by omega) hc.symm)
        · exact h1
theorem mem_crash {b : Nat} {L S C : List Nat} : ∀ {q : List Ch} {pl : Nat} {P : Pb}, (b, L, S) ∈ P → (∀ x ∈ q, x.kind ≠ 3 → x.b ≠ b) → (b, L, S) ∈ crashP C q pl P
  | [], _, _, h, _ => h
  | x :: q, pl, P, h, hq => by
    show (b, L, S) ∈ crashP C q (pl + npcs x) (keptX C x pl (npcs x) P)
    exact mem_crash (mem_keptX (hq x (by simp)) _ h) (fun y hy => hq y (List.mem_cons_of_mem _ hy))
theorem mem_cl {b : Nat} {L : List Nat} {v : Nat → Bool} {P : Pb} (h : (b, L, L) ∈ P) : (b, L, L) ∈ clP v P := List.mem_map.2 ⟨(b, L, L), h, by simp⟩
theorem totL_le {m : Nat} : ∀ {P : Pb}, Pm m P → totL P ≤ P.length * m
  | [], _ => Nat.zero_le _
  | y :: P, h => by
    have h1 := totL_le (P := P) (fun z hz => h z (List.mem_cons_of_mem _ hz)); have h2 := (h y (by simp)).1; simp only [totL, List.map_cons, List.sum_cons, List.length_cons] at h1 ⊢; rw [Nat.succ_mul]
    omega
theorem tots_le2 {m : Nat} : ∀ {q : List Ch}, (∀ x ∈ q, QOk m x) → tots q ≤ 2 * q.length ∧ totk q ≤ 2 * q.length
  | [], _ => ⟨Nat.zero_le _, Nat.zero_le _⟩
  | x :: q, h => by
    have h1 := tots_le2 (q := q) (fun z hz => h z (List.mem_cons_of_mem _ hz)); have hx := h x (by simp)
    have hb : x.bs.length ≤ 2 ∧ npcs x * x.bs.length ≤ 2 := by
      by_cases hk : x.kind = 3
      · have := hx.2.1 hk
        have e : npcs x = 1 := by simp [npcs, hk]
        rw [e]
        omega
      · rw [hx.2.2 hk]; simp
    simp only [tots, totk, List.map_cons, List.sum_cons, List.length_cons] at h1 ⊢
    omega
structure Bas (k : Nat) (M : Dk) (P : Pb) : Prop where
  cap : M.cap = 262144
  nP : P.length ≤ 4 + k
  pm : Pm (79 + 100 * k) P
  ql : M.queue.length ≤ k
  qk : ∀ x ∈ M.queue, QOk (79 + 100 * k) x
  nN : M.N ≤ 8 + 300 * k
  tL : Tidy M.LD
  tS : Tidy M.SD
  sL : size M.LD ≤ 4 + k
  sS : size M.SD + puts (bsOf M.queue) ≤ 4 + k
theorem Bas.run {k : Nat} {M : Dk} {P : Pb} (h : Bas k M P) (hk : k ≤ 100) (hf : M.fuse = -1) (ho : M.off = false) : Run M P := by
  have h1 := tots_le2 h.qk; have h2 := h.ql; have h3 := h.nN; refine ⟨hf, ho, by omega, by omega, ?_⟩; have h4 := totL_le h.pm; have h5 : P.length * (79 + 100 * k) ≤ 104 * 10079 := Nat.mul_le_mul (by have := h.nP; omega) (by omega)
  omega
theorem len_of_fst {P P' : Pb} (h : P'.map (·.1) = P.map (·.1)) : P'.length = P.length := by
  have := congrArg List.length h
  simpa using this
theorem snoc_qk {m : Nat} {q : List Ch} {x : Ch} (h : ∀ y ∈ q, QOk m y) (hx : QOk m x) : ∀ y ∈ q ++ [x], QOk m y := fun y hy => by
  rcases List.mem_append.1 hy with h1 | h1
  · exact h y h1
  · obtain rfl : y = x := by simpa using h1
    exact hx
theorem bsOf_snoc3 (q : List Ch) (x : Ch) (hk : x.kind = 3) : bsOf (q ++ [x]) = bsOf q ++ x.bs := by rw [bsOf_append]; simp [bsOf, hk]
theorem bsOf_snocN (q : List Ch) (x : Ch) (hk : x.kind ≠ 3) : bsOf (q ++ [x]) = bsOf q := by rw [bsOf_append]; simp [bsOf, hk]
theorem Bas.step {k : Nat} {M : Dk} {P : Pb} {M' : Dk} {P' : Pb} {kd a : Int} {nm tn : ByteArray} {D : List Nat} (h : Bas k M P) (hk : k ≤ 100) (hD : kd = 2 → D.length ≤ 100) (ht : TrD kd a nm tn D M P M' P') (hc : M'.cap = M.cap) : Bas (k + 1) M' P' := by
  have hcap := hc.trans h.cap
  have hq1 : ∀ x ∈ M.queue, QOk (79 + 100 * (k + 1)) x := fun x hx => (h.qk x hx).mono (by omega)
  have hp1 : Pm (79 + 100 * (k + 1)) P := h.pm.mono (by omega); have b1 := h.nP; have b2 := h.ql; have b3 := h.nN; have b4 := h.sL; have b5 := h.sS; have b6 := tots_le2 h.qk
  rcases ht with ⟨-, e1, e2, e3, e4, v, e5, -⟩ | ⟨-, ⟨e1, e2, e3, e4, e5⟩, -⟩ | ⟨K, rfl, hd⟩
  · obtain ⟨bs, hb1, -, hb3⟩ := crash_bind D M.queue 0 M.SD; have hT := tidy_bind h.tS bs; rw [hb1] at e2 e3; refine ⟨hcap, ?_, ?_, by rw [e4]; exact Nat.zero_le _, by rw [e4]; simp, by omega, e2 ▸ hT.1, e3 ▸ hT.1, by rw [e2]; have := hT.2; omega, ?_⟩
    · rw [e5]; have : (clP v (crashP D M.queue 0 P)).length = P.length := len_of_fst (by rw [clP_fst, crashP_fst])
      omega
    · rw [e5]; exact (hp1.crash hq1).cl
    · rw [e3, e4]; have := hT.2; simp only [bsOf, puts, List.map_nil, List.sum_nil]
      omega
  · exact ⟨hcap, by rw [e5]; omega, e5 ▸ hp1, by rw [e4]; omega, by rw [e4]; exact hq1, by omega, e1 ▸ h.tL, e2 ▸ h.tS, by rw [e1]; omega, by rw [e2, e4]; omega⟩
  · rcases hd with ⟨-, b, x, -, e1, e2, e3, e4, e5, e6, e7⟩ | ⟨h2, b, L, S, at_, -, hm, -, hal, -, e1, e2, e3, e4, e5⟩ | ⟨-, b, L, S, at_, -, hm, -, hal, e1, e2, e3, e4, e5⟩ | ⟨-, ⟨e1, e2, e3, e4, e5⟩ | ⟨b, x, -, e1, e2, e3, e4, e5, e6, e7⟩⟩ | ⟨-, x, e1, e2, e3, e4, e5, e6, e7⟩ | ⟨-, o, -, -, e1, e2, e3, e4, e5⟩
    · have hT := tidy_bind h.tL [(nm, some b)]; refine ⟨hcap, by rw [e4]; simp; omega, ?_, by rw [e5]; simp; omega, ?_, by omega, e1 ▸ hT.1, e2 ▸ h.tS, ?_, ?_⟩
      · intro y hy; rw [e4] at hy
        rcases List.mem_append.1 hy with h9 | h9
        · exact hp1 y h9
        · obtain rfl : y = (b, [], []) := by simpa using h9
          exact ⟨Nat.zero_le _, Nat.zero_le _⟩
      · rw [e5]; exact snoc_qk hq1 ⟨fun h9 => by omega, fun _ => by rw [e7]; simp, fun h9 => absurd e6 h9⟩
      · rw [e1]; have := hT.2; simp [puts] at this; omega
      · rw [e2, e5, bsOf_snoc3 _ _ e6, puts_append, e7]; simp [puts] at b5 ⊢; omega
    · have hLb := (h.pm _ hm).1; have hDl := hD (by omega); have hlb2 : L.length ≤ 79 + 100 * k := hLb
      have hpn : Pm (79 + 100 * (k + 1)) P' := by
        rw [e4]; exact hp1.onL (fun S' hS' => ov_le hS' (by omega))
      have hlen : P'.length = P.length := by rw [e4]; exact len_of_fst (onL_fst _ _ _)
      rcases e5 with ⟨e5, -⟩ | ⟨x, e5, x1, x2, x3, x4, x5, x6⟩
      · exact ⟨hcap, by omega, hpn, by rw [e5]; omega, by rw [e5]; exact hq1, by omega, e1 ▸ h.tL, e2 ▸ h.tS, by rw [e1]; omega, by rw [e2, e5]; omega⟩
      · refine ⟨hcap, by omega, hpn, by rw [e5]; simp; omega, ?_, by omega, e1 ▸ h.tL, e2 ▸ h.tS, by rw [e1]; omega, ?_⟩
        · rw [e5]; refine snoc_qk hq1 ⟨fun _ => ⟨by rw [x3, x4]; omega, ?_⟩, fun h9 => by omega, fun _ => x5⟩; rw [x4]
          rcases D with _ | ⟨d0, D⟩
          · exact absurd rfl x6
          · simp
        · rw [e2, e5, bsOf_snocN _ _ (by omega)]; omega
    · have hpn : Pm (79 + 100 * (k + 1)) P' := by
        rw [e4]; exact hp1.onL (fun S' hS' => by rw [List.length_take]; omega)
      have hlen : P'.length = P.length := by rw [e4]; exact len_of_fst (onL_fst _ _ _)
      rcases e5 with ⟨e5, -⟩ | ⟨x, e5, x1, x2, x3, x4, x5⟩
      · exact ⟨hcap, by omega, hpn, by rw [e5]; omega, by rw [e5]; exact hq1, by omega, e1 ▸ h.tL, e2 ▸ h.tS, by rw [e1]; omega, by rw [e2, e5]; omega⟩
      · refine ⟨hcap, by omega, hpn, by rw [e5]; simp; omega, ?_, by omega, e1 ▸ h.tL, e2 ▸ h.tS, by rw [e1]; omega, ?_⟩
        · rw [e5]; exact snoc_qk hq1 ⟨fun h9 => by omega, fun h9 => by omega, fun _ => x4⟩
        · rw [e2, e5, bsOf_snocN _ _ (by omega)]; omega
    · exact ⟨hcap, by rw [e4]; omega, e4 ▸ hp1, by rw [e5]; omega, by rw [e5]; exact hq1, by omega, e1 ▸ h.tL, e2 ▸ h.tS, by rw [e1]; omega, by rw [e2, e5]; omega⟩
    · have hT := tidy_bind h.tL [(tn, some b), (nm, none)]; refine ⟨hcap, by rw [e4]; omega, e4 ▸ hp1, by rw [e5]; simp; omega, ?_, by omega, e1 ▸ hT.1, e2 ▸ h.tS, ?_, ?_⟩
      · rw [e5]; exact snoc_qk hq1 ⟨fun h9 => by omega, fun _ => by rw [e7]; simp, fun h9 => absurd e6 h9⟩
      · rw [e1]; have := hT.2; simp [puts] at this; omega
      · rw [e2, e5, bsOf_snoc3 _ _ e6, puts_append, e7]; simp [puts] at b5 ⊢; omega
    · have hT := tidy_bind h.tL [(nm, none)]; refine ⟨hcap, by rw [e4]; omega, e4 ▸ hp1, by rw [e5]; simp; omega, ?_, by omega, e1 ▸ hT.1, e2 ▸ h.tS, ?_, ?_⟩
      · rw [e5]; exact snoc_qk hq1 ⟨fun h9 => by omega, fun _ => by rw [e7]; simp, fun h9 => absurd e6 h9⟩
      · rw [e1]; have := hT.2; simp [puts] at this; omega
      · rw [e2, e5, bsOf_snoc3 _ _ e6, puts_append, e7]; simp [puts] at b5 ⊢; omega
    · have hpn : Pm (79 + 100 * (k + 1)) P' := by rw [e4]; exact hp1.syncs hq1
      have hlen : P'.length = P.length := by rw [e4]; exact len_of_fst (syncsP_fst _ _ _)
      have hql : M'.queue.length ≤ M.queue.length := by rw [e5]; exact List.length_filter_le _ _
      have hqq : ∀ x ∈ M'.queue, QOk (79 + 100 * (k + 1)) x := fun x hx => hq1 x (by rw [e5] at hx; exact (List.mem_filter.1 hx).1)
      cases o with
      | none =>
        have hT := tidy_bind h.tS (bsOf M.queue); rw [syncsD_none] at e2; refine ⟨hcap, by omega, hpn, by omega, hqq, by omega, e1 ▸ h.tL, e2 ▸ hT.1, by rw [e1]; omega, ?_⟩; rw [e2, e5, bsOf_rest_none]; have := hT.2; simp only [puts, List.map_nil, List.sum_nil]; simp only [puts] at this b5
        omega
      | some b =>
        rw [syncsD_some] at e2; refine ⟨hcap, by omega, hpn, by omega, hqq, by omega, e1 ▸ h.tL, e2 ▸ h.tS, by rw [e1]; omega, ?_⟩; rw [e2, e5, bsOf_rest_some]
        omega
theorem kS_inj {s t : ByteArray} (h : kS s = kS t) : s = t := by
  unfold kS at h
  injection h with h1
  cases s; cases t
  simpa using h1
def clean (sf : ByteArray) (b : Nat) (x : Ch) : Prop := (x.kind ≠ 3 → x.b ≠ b) ∧ (x.kind = 3 → ∀ y ∈ x.bs, y.1 ≠ sf ∧ y.2 ≠ some b)
structure St0 (sf : ByteArray) (M : Dk) : Prop where
  l : M.LD.atKey (kS sf) .nil = .nil
  s : M.SD.atKey (kS sf) .nil = .nil
  q : ∀ x ∈ M.queue, x.kind = 3 → ∀ y ∈ x.bs, y.1 ≠ sf
structure St1 (sf : ByteArray) (b : Nat) (M : Dk) (P : Pb) (L S : List Nat) (tl : List Ch → Prop) : Prop where
  l : M.LD.atKey (kS sf) .nil = bD (some b)
  p : (b, L, S) ∈ P
  aL : ∀ kl, kl ≠ kS sf → M.LD.atKey kl .nil ≠ bD (some b)
  aS : ∀ kl, kl ≠ kS sf → M.SD.atKey kl .nil ≠ bD (some b)
  q : ∃ q0 q1, M.queue = q0 ++ q1 ∧ (∀ x ∈ q0, clean sf b x) ∧ tl q1
structure StJ (sf : ByteArray) (b : Nat) (data : List Nat) (M : Dk) (P : Pb) : Prop where
  l : M.LD.atKey (kS sf) .nil = bD (some b)
  s : M.SD.atKey (kS sf) .nil = bD (some b)
  p : (b, data, data) ∈ P
  aL : ∀ kl, kl ≠ kS sf → M.LD.atKey kl .nil ≠ bD (some b)
  aS : ∀ kl, kl ≠ kS sf → M.SD.atKey kl .nil ≠ bD (some b)
  q : ∀ x ∈ M.queue, clean sf b x
def Fin (M : Dk) (P : Pb) : Prop := M.queue = [] ∧ M.LD = M.SD ∧ ∀ y ∈ P, (∃ kl, M.LD.atKey kl .nil = bD (some y.1)) → y.2.1 = y.2.2
theorem mem_bs_clean {sf : ByteArray} {b : Nat} {q : List Ch} (h : ∀ x ∈ q, clean sf b x) : ∀ y ∈ bsOf q, y.1 ≠ sf ∧ y.2 ≠ some b := fun y hy => by
  obtain ⟨x, hx, hk, hyx⟩ := mem_bsOf hy; exact (h x hx).2 hk y hyx
theorem St0.step {sf : ByteArray} {M : Dk} {P : Pb} {M' : Dk} {P' : Pb} {kd a : Int} {nm tn : ByteArray} {D : List Nat} (h : St0 sf M) (hn : nm ≠ sf) (htn : tn ≠ sf) (ht : TrD kd a nm tn D M P M' P') : St0 sf M' := by
  have kn : kS nm ≠ kS sf := fun hc => hn (kS_inj hc)
  have kt : kS tn ≠ kS sf := fun hc => htn (kS_inj hc)
  have hsn : ∀ x : Ch, (x.kind = 3 → ∀ y ∈ x.bs, y.1 ≠ sf) → ∀ y ∈ M.queue ++ [x], y.kind = 3 → ∀ z ∈ y.bs, z.1 ≠ sf := fun x hx y hy => by
    rcases List.mem_append.1 hy with h1 | h1
    · exact h.q y h1
    · obtain rfl : y = x := by simpa using h1
      exact hx
  have hbs : ∀ y ∈ bsOf M.queue, kS y.1 ≠ kS sf := fun y hy hc => by
    obtain ⟨x, hx, hk, hyx⟩ := mem_bsOf hy; exact h.q x hx hk y hyx (kS_inj hc)
  rcases ht with ⟨-, e1, e2, e3, e4, v, e5, -⟩ | ⟨-, ⟨e1, e2, e3, e4, e5⟩, -⟩ | ⟨K, rfl, hd⟩
  · obtain ⟨bs, hb1, hb2, -⟩ := crash_bind D M.queue 0 M.SD; have h9 : (bindD M.SD bs).atKey (kS sf) .nil = .nil := (bind_other (fun y hy => hbs y (hb2 y hy))).trans h.s; exact ⟨by rw [e2, hb1]; exact h9, by rw [e3, hb1]; exact h9, by rw [e4]; simp⟩
  · exact ⟨by rw [e1]; exact h.l, by rw [e2]; exact h.s, by rw [e4]; exact h.q⟩
  · rcases hd with ⟨-, b, x, -, e1, e2, e3, e4, e5, e6, e7⟩ | ⟨h2, b, L, S, at_, -, hm, -, hal, -, e1, e2, e3, e4, e5⟩ | ⟨-, b, L, S, at_, -, hm, -, hal, e1, e2, e3, e4, e5⟩ | ⟨-, ⟨e1, e2, e3, e4, e5⟩ | ⟨b, x, -, e1, e2, e3, e4, e5, e6, e7⟩⟩ | ⟨-, x, e1, e2, e3, e4, e5, e6, e7⟩ | ⟨-, o, -, -, e1, e2, e3, e4, e5⟩
    · refine ⟨by rw [e1]; exact (bind_other (by simpa using kn)).trans h.l, by rw [e2]; exact h.s, ?_⟩; rw [e5]; exact hsn x (fun _ => by rw [e7]; simpa using hn)
    · refine ⟨by rw [e1]; exact h.l, by rw [e2]; exact h.s, ?_⟩
      rcases e5 with ⟨e5, -⟩ | ⟨x, e5, x1, -⟩
      · rw [e5]; exact h.q
      · rw [e5]; exact hsn x (fun h9 => by omega)
    · refine ⟨by rw [e1]; exact h.l, by rw [e2]; exact h.s, ?_⟩
      rcases e5 with ⟨e5, -⟩ | ⟨x, e5, x1, -⟩
      · rw [e5]; exact h.q
      · rw [e5]; exact hsn x (fun h9 => by omega)
    · exact ⟨by rw [e1]; exact h.l, by rw [e2]; exact h.s, by rw [e5]; exact h.q⟩
    · refine ⟨by rw [e1]; exact (bind_other (by simp [kn, kt])).trans h.l, by rw [e2]; exact h.s, ?_⟩; rw [e5]; exact hsn x (fun _ => by rw [e7]; simp [hn, htn])
    · refine ⟨by rw [e1]; exact (bind_other (by simpa using kn)).trans h.l, by rw [e2]; exact h.s, ?_⟩; rw [e5]; exact hsn x (fun _ => by rw [e7]; simpa using hn)
    · refine ⟨by rw [e1]; exact h.l, ?_, fun x hx => h.q x (by rw [e5] at hx; exact (List.mem_filter.1 hx).1)⟩; rw [e2]
      cases o with
      | none => rw [syncsD_none]; exact (bind_other hbs).trans h.s
      | some b => rw [syncsD_some]; exact h.s
theorem StJ.step {sf : ByteArray} {b : Nat} {data : List Nat} {M : Dk} {P : Pb} {M' : Dk} {P' : Pb} {kd a : Int} {nm tn : ByteArray} {D : List Nat} (h : StJ sf b data M P) (hS : Tidy M.SD) (hL : Tidy M.LD) (hn : kd = 11 ∨ nm ≠ sf) (htn : kd = 11 ∨ tn ≠ sf) (ht : TrD kd a nm tn D M P M' P') : StJ sf b data M' P' := by
  have hbP : b ∈ P.map (·.1) := List.mem_map.2 ⟨_, h.p, rfl⟩
  have hsn : ∀ x : Ch, clean sf b x → ∀ y ∈ M.queue ++ [x], clean sf b y := fun x hx y hy => by
    rcases List.mem_append.1 hy with h1 | h1
    · exact h.q y h1
    · obtain rfl : y = x := by simpa using h1
      exact hx
  have hbs := mem_bs_clean h.q
  have hbind : ∀ (D : DataW Unit) (bs : List Bnd), Tidy D → (∀ y ∈ bs, y.1 ≠ sf ∧ y.2 ≠ some b) → D.atKey (kS sf) .nil = bD (some b) → (∀ kl, kl ≠ kS sf → D.atKey kl .nil ≠ bD (some b)) → (bindD D bs).atKey (kS sf) .nil = bD (some b) ∧ ∀ kl, kl ≠ kS sf → (bindD D bs).atKey kl .nil ≠ bD (some b) := fun D bs hT hb h1 h2 => by
    refine ⟨(bind_other (fun y hy hc => (hb y hy).1 (kS_inj hc))).trans h1, fun kl hkl hc => ?_⟩
    rcases bind_val hT.isMap hc with h9 | ⟨y, hy, h9, -⟩
    · exact h2 kl hkl h9
    · exact (hb y hy).2 h9
  rcases ht with ⟨-, e1, e2, e3, e4, v, e5, -⟩ | ⟨-, ⟨e1, e2, e3, e4, e5⟩, -⟩ | ⟨K, hK, hd⟩
  · obtain ⟨bs, hb1, hb2, -⟩ := crash_bind D M.queue 0 M.SD; have h9 := hbind M.SD bs hS (fun y hy => hbs y (hb2 y hy)) h.s h.aS; rw [hb1] at e2 e3; refine ⟨by rw [e2]; exact h9.1, by rw [e3]; exact h9.1, ?_, by rw [e2]; exact h9.2, by rw [e3]; exact h9.2, by rw [e4]; simp⟩; rw [e5]; exact mem_cl (mem_crash h.p (fun x hx => (h.q x hx).1))
  · exact ⟨by rw [e1]; exact h.l, by rw [e2]; exact h.s, by rw [e5]; exact h.p, by rw [e1]; exact h.aL, by rw [e2]; exact h.aS, by rw [e4]; exact h.q⟩
  · have hK7 : K ≤ 7 := by rcases hd with h9 | h9 | h9 | h9 | h9 | h9 <;> omega
    have hn' : nm ≠ sf := hn.resolve_left (by omega); have htn' : tn ≠ sf := htn.resolve_left (by omega)
    have kn : kS nm ≠ kS sf := fun hc => hn' (kS_inj hc)
    have hne : ∀ {b' : Nat}, M.LD.atKey (kS nm) .nil = bD (some b') → b' ≠ b := fun h1 hc => h.aL _ kn (hc ▸ h1)
    rcases hd with ⟨-, b', x, hf, e1, e2, e3, e4, e5, e6, e7⟩ | ⟨h2, b', L, S, at_, hat, hm, -, hal, -, e1, e2, e3, e4, e5⟩ | ⟨-, b', L, S, at_, hat, hm, -, hal, e1, e2, e3, e4, e5⟩ | ⟨-, ⟨e1, e2, e3, e4, e5⟩ | ⟨b', x, hat, e1, e2, e3, e4, e5, e6, e7⟩⟩ | ⟨-, x, e1, e2, e3, e4, e5, e6, e7⟩ | ⟨-, o, -, ho, e1, e2, e3, e4, e5⟩
    · have hbb : b' ≠ b := fun hc => hf (hc ▸ hbP)
      have hc1 : ∀ y ∈ [((nm, some b') : Bnd)], y.1 ≠ sf ∧ y.2 ≠ some b := by simpa using ⟨hn', hbb⟩
      have h9 := hbind M.LD [(nm, some b')] hL hc1 h.l h.aL; refine ⟨by rw [e1]; exact h9.1, by rw [e2]; exact h.s, by rw [e4]; exact List.mem_append_left _ h.p, by rw [e1]; exact h9.2, by rw [e2]; exact h.aS, ?_⟩; rw [e5]; exact hsn x ⟨fun h8 => absurd e6 h8, fun _ => by rw [e7]; exact hc1⟩
    · have hbb := hne hat; refine ⟨by rw [e1]; exact h.l, by rw [e2]; exact h.s, by rw [e4]; exact mem_onL h.p hbb.symm, by rw [e1]; exact h.aL, by rw [e2]; exact h.aS, ?_⟩
      rcases e5 with ⟨e5, -⟩ | ⟨x, e5, x1, x2, -⟩
      · rw [e5]; exact h.q
      · rw [e5]; exact hsn x ⟨fun _ => by rw [x2]; exact hbb, fun h8 => by omega⟩
    · have hbb := hne hat; refine ⟨by rw [e1]; exact h.l, by rw [e2]; exact h.s, by rw [e4]; exact mem_onL h.p hbb.symm, by rw [e1]; exact h.aL, by rw [e2]; exact h.aS, ?_⟩
      rcases e5 with ⟨e5, -⟩ | ⟨x, e5, x1, x2, -⟩
      · rw [e5]; exact h.q
      · rw [e5]; exact hsn x ⟨fun _ => by rw [x2]; exact hbb, fun h8 => by omega⟩
    · exact ⟨by rw [e1]; exact h.l, by rw [e2]; exact h.s, by rw [e4]; exact h.p, by rw [e1]; exact h.aL, by rw [e2]; exact h.aS, by rw [e5]; exact h.q⟩
    · have hbb := hne hat
      have hc1 : ∀ y ∈ [((tn, some b') : Bnd), (nm, none)], y.1 ≠ sf ∧ y.2 ≠ some b := by
        intro y hy
        rcases List.mem_cons.1 hy with rfl | hy
        · exact ⟨htn', by simpa using hbb⟩
        · obtain rfl : y = (nm, none) := by simpa using hy
          exact ⟨hn', by simp⟩
      have h9 := hbind M.LD [(tn, some b'), (nm, none)] hL hc1 h.l h.aL; refine ⟨by rw [e1]; exact h9.1, by rw [e2]; exact h.s, by rw [e4]; exact h.p, by rw [e1]; exact h9.2, by rw [e2]; exact h.aS, ?_⟩; rw [e5]; exact hsn x ⟨fun h8 => absurd e6 h8, fun _ => by rw [e7]; exact hc1⟩
    · have hc1 : ∀ y ∈ [((nm, none) : Bnd)], y.1 ≠ sf ∧ y.2 ≠ some b := by simpa using hn'
      have h9 := hbind M.LD [(nm, none)] hL hc1 h.l h.aL; refine ⟨by rw [e1]; exact h9.1, by rw [e2]; exact h.s, by rw [e4]; exact h.p, by rw [e1]; exact h9.2, by rw [e2]; exact h.aS, ?_⟩; rw [e5]; exact hsn x ⟨fun h8 => absurd e6 h8, fun _ => by rw [e7]; exact hc1⟩
    · have hq : ∀ x ∈ M'.queue, clean sf b x := fun x hx => h.q x (by rw [e5] at hx; exact (List.mem_filter.1 hx).1)
      have hp : (b, data, data) ∈ P' := by rw [e4]; exact mem_syncs h.p (fun x hx _ => (h.q x hx).1)
      cases o with
      | none =>
        have h9 := hbind M.SD (bsOf M.queue) hS hbs h.s h.aS; rw [syncsD_none] at e2; exact ⟨by rw [e1]; exact h.l, by rw [e2]; exact h9.1, hp, by rw [e1]; exact h.aL, by rw [e2]; exact h9.2, hq⟩
      | some b' =>
        rw [syncsD_some] at e2; exact ⟨by rw [e1]; exact h.l, by rw [e2]; exact h.s, hp, by rw [e1]; exact h.aL, by rw [e2]; exact h.aS, hq⟩
theorem Fin.crash {M : Dk} {P : Pb} {M' : Dk} {P' : Pb} {a : Int} {nm tn : ByteArray} {D : List Nat} (ht : TrD 11 a nm tn D M P M' P') : Fin M' P' := by
  rcases ht with ⟨-, e1, e2, e3, e4, v, e5, e6⟩ | ⟨h1, -⟩ | ⟨K, hK, hd⟩
  · refine ⟨e4, e2.trans e3.symm, fun y hy hk => ?_⟩; rw [e2, ← e6] at hk; rw [e5] at hy; obtain ⟨z, hz, rfl⟩ := List.mem_map.1 hy
    by_cases hv : v z.1 = true
    · rw [if_pos hv]
    · rw [if_neg hv] at hk; exact absurd hk hv
  · exact absurd rfl h1
  · rcases hd with h9 | h9 | h9 | h9 | h9 | h9 <;> omega
theorem same_of_read {M : Dk} {P : Pb} {M' : Dk} {P' : Pb} {a : Int} {nm tn : ByteArray} {D : List Nat} (ht : TrD 8 a nm tn D M P M' P') : SameD M P M' P' := by
  rcases ht with ⟨h1, -⟩ | ⟨-, h1, -⟩ | ⟨K, hK, hd⟩
  · omega
  · exact h1
  · rcases hd with h9 | h9 | h9 | h9 | h9 | h9 <;> omega
theorem Fin.same {M : Dk} {P : Pb} {M' : Dk} {P' : Pb} (h : Fin M P) (hs : SameD M P M' P') : Fin M' P' := by
  obtain ⟨e1, e2, e3, e4, e5⟩ := hs; exact ⟨e4.trans h.1, by rw [e1, e2]; exact h.2.1, by rw [e1, e5]; exact h.2.2⟩
def isNm (sf : ByteArray) (b : Nat) (x : Ch) : Prop := x.kind = 3 ∧ x.bs = [(sf, some b)]
def T1 (sf : ByteArray) (b : Nat) (q1 : List Ch) : Prop := ∃ x, q1 = [x] ∧ isNm sf b x
def T2 (sf : ByteArray) (b : Nat) (data : List Nat) (q1 : List Ch) : Prop := ∃ x y, q1 = [x, y] ∧ isNm sf b x ∧ y.kind = 1 ∧ y.b = b ∧ y.at_ = 0 ∧ y.D = data
theorem ov_nil (d : List Nat) : ov [] 0 d = d := by simp [ov]
theorem St0.create {sf : ByteArray} {M : Dk} {P : Pb} {M' : Dk} {P' : Pb} {a : Int} {tn : ByteArray} {D : List Nat} (h : St0 sf M) (hR : Rf M P) (hL : Tidy M.LD) (hg : goodN sf = true) (hs : size M.LD < 512) (ht : TrD 1 a sf tn D M P M' P') : ∃ b, St1 sf b M' P' [] [] (T1 sf b) := by
  rcases ht with ⟨h1, -⟩ | ⟨-, -, h1⟩ | ⟨K, hK, hd⟩
  · omega
  · exact absurd (.inl ⟨rfl, hg, h.l, hs⟩) h1
  · rcases hd with ⟨-, b, x, hf, e1, e2, e3, e4, e5, e6, e7⟩ | h9 | h9 | h9 | h9 | h9
    · refine ⟨b, by rw [e1]; exact bind_put hL.isMap sf b, by rw [e4]; simp, fun kl hkl hc => ?_, fun kl _ hc => ?_, M.queue, [x], e5, fun y hy => ⟨fun hk hc => ?_, fun hk z hz => ⟨h.q y hy hk z hz, fun hc => ?_⟩⟩, x, rfl, e6, e7⟩
      · rw [e1] at hc; rw [bind_other (by simpa using fun h8 => hkl h8.symm)] at hc; exact hf (hR.1 kl b hc)
      · rw [e2] at hc; exact hf (hR.2.1 kl b hc)
      · exact hf (hc ▸ (hR.2.2 y hy).1 hk)
      · exact hf ((hR.2.2 y hy).2 hk z hz b hc)
    all_goals omega
theorem St1.write {sf : ByteArray} {b : Nat} {data : List Nat} {M : Dk} {P : Pb} {M' : Dk} {P' : Pb} {tn : ByteArray} (h : St1 sf b M P [] [] (T1 sf b)) (h1 : data ≠ []) (h2 : data.length ≤ 100) (hs : (totL P : Int) + (data.length : Int) ≤ M.cap) (ht : TrD 2 0 sf tn data M P M' P') : St1 sf b M' P' data [] (T2 sf b data) := by
  rcases ht with ⟨h9, -⟩ | ⟨-, -, h9⟩ | ⟨K, hK, hd⟩
  · omega
  · exact absurd (.inr (.inl ⟨rfl, b, [], [], h.l, h.p, by omega, by simp, by omega, hs⟩)) h9
  · rcases hd with h9 | ⟨-, b', L, S, at_, hat, hm, ha, hal, -, e1, e2, e3, e4, e5⟩ | h9 | h9 | h9 | h9
    · omega
    · obtain rfl : b' = b := Option.some.inj (bD_inj (hat.symm.trans h.l))
      obtain rfl : at_ = 0 := by omega
      rcases e5 with ⟨-, h9⟩ | ⟨y, e5, y1, y2, y3, y4, -, -⟩
      · exact absurd h9 h1
      · obtain ⟨q0, q1, g1, g2, x, rfl, g3⟩ := h.q; refine ⟨by rw [e1]; exact h.l, ?_, by rw [e1]; exact h.aL, by rw [e2]; exact h.aS, q0, [x, y], by rw [e5, g1]; simp, g2, x, y, rfl, g3, y1, y2, y3, y4⟩; rw [e4]; have h9 := mem_onL_same (f := fun L => ov L 0 data) h.p; rw [ov_nil] at h9; exact h9
    all_goals omega
theorem clean_not_mine {sf : ByteArray} {b : Nat} {x : Ch} (h : clean sf b x) : mineC (some b) x = false := by
  unfold mineC
  by_cases hk : x.kind = 3
  · simp [hk]
  · simp [hk, h.1 hk]
theorem syncsP_clean {sf : ByteArray} {b : Nat} : ∀ {q : List Ch} {P : Pb}, (∀ x ∈ q, clean sf b x) → syncsP (some b) q P = P
  | [], _, _ => rfl
  | x :: q, P, h => by
    show syncsP (some b) q (if mineC (some b) x then syncP x P else P) = P
    rw [clean_not_mine (h x (by simp))]; exact syncsP_clean (fun y hy => h y (List.mem_cons_of_mem _ hy))
theorem St1.sync {sf : ByteArray} {b : Nat} {data : List Nat} {M : Dk} {P : Pb} {M' : Dk} {P' : Pb} {a : Int} {tn : ByteArray} {D : List Nat} (h : St1 sf b M P data [] (T2 sf b data)) (ht : TrD 6 a sf tn D M P M' P') : St1 sf b M' P' data data (T1 sf b) := by
  rcases ht with ⟨h9, -⟩ | ⟨-, -, h9⟩ | ⟨K, hK, hd⟩
  · omega
  · exact absurd (.inr (.inr (.inl ⟨rfl, b, h.l⟩))) h9
  · rcases hd with h9 | h9 | h9 | h9 | h9 | ⟨-, o, -, ho, e1, e2, e3, e4, e5⟩
    · omega
    · omega
    · omega
    · omega
    · omega
    · obtain ⟨b', rfl, hat⟩ := ho (by omega); obtain rfl : b' = b := Option.some.inj (bD_inj (hat.symm.trans h.l)); obtain ⟨q0, q1, g1, g2, x, y, rfl, g3, y1, y2, y3, y4⟩ := h.q
      have mx : mineC (some b') x = false := by simp [mineC, g3.1]
      have my : mineC (some b') y = true := by simp [mineC, y1, y2]
      rw [syncsD_some] at e2; refine ⟨by rw [e1]; exact h.l, ?_, by rw [e1]; exact h.aL, by rw [e2]; exact h.aS, q0, [x], ?_, g2, x, rfl, g3⟩
      · rw [e4, g1, show q0 ++ [x, y] = (q0 ++ [x]) ++ [y] by simp, syncsP_snoc, my, syncsP_snoc, mx, syncsP_clean g2]; have h9 := mem_onB_same (f := fun S => ov S 0 data) h.p; rw [ov_nil] at h9; simp only [if_true, Bool.false_eq_true, if_false]
        unfold syncP
        rw [if_pos y1, y2, y3, y4]; exact h9
      · rw [e5, g1, List.filter_append]; have hf : q0.filter (fun x => !(mineC (some b') x)) = q0 := List.filter_eq_self.2 (fun z hz => by simp [clean_not_mine (g2 z hz)]); rw [hf]
        simp [List.filter, mx, my]
theorem St1.syncDir {sf : ByteArray} {b : Nat} {data : List Nat} {M : Dk} {P : Pb} {M' : Dk} {P' : Pb} {a : Int} {nm tn : ByteArray} {D : List Nat} (h : St1 sf b M P data data (T1 sf b)) (hS : Tidy M.SD) (ht : TrD 7 a nm tn D M P M' P') : StJ sf b data M' P' := by
  rcases ht with ⟨h9, -⟩ | ⟨-, -, h9⟩ | ⟨K, hK, hd⟩
  · omega
  · exact absurd (.inr (.inr (.inr rfl))) h9
  · rcases hd with h9 | h9 | h9 | h9 | h9 | ⟨-, o, ho, -, e1, e2, e3, e4, e5⟩
    · omega
    · omega
    · omega
    · omega
    · omega
    · obtain rfl := ho (by omega); obtain ⟨q0, q1, g1, g2, x, rfl, g3⟩ := h.q
      have hbq : bsOf M.queue = bsOf q0 ++ [(sf, some b)] := by rw [g1, bsOf_snoc3 _ _ g3.1, g3.2]
      have hb0 := mem_bs_clean g2; have hT0 := (tidy_bind hS (bsOf q0)).1; rw [syncsD_none, hbq, bindD_append] at e2; refine ⟨by rw [e1]; exact h.l, by rw [e2]; exact bind_put hT0.isMap sf b, ?_, by rw [e1]; exact h.aL, fun kl hkl hc => ?_, fun y hy => ?_⟩
      · rw [e4]; refine mem_syncs h.p (fun z hz hm hk => ?_)
        simp [mineC] at hm
        exact absurd hm hk
      · rw [e2, bind_other (by simpa using fun h8 => hkl h8.symm)] at hc
        rcases bind_val hS.isMap hc with h8 | ⟨y, hy, h8, -⟩
        · exact h.aS kl hkl h8
        · exact (hb0 y hy).2 h8
      · rw [e5, g1] at hy; obtain ⟨hy1, hy2⟩ := List.mem_filter.1 hy
        rcases List.mem_append.1 hy1 with h8 | h8
        · exact g2 y h8
        · obtain rfl : y = x := by simpa using h8
          simp [mineC, g3.1] at hy2
def SyInv (sf : ByteArray) (data : List Nat) (na nb : Nat) (i : Nat) (M : Dk) (P : Pb) : Prop :=
  Bas i M P ∧ (i ≤ na → St0 sf M) ∧ (i = na + 1 → ∃ b, St1 sf b M P [] [] (T1 sf b)) ∧ (i = na + 2 → ∃ b, St1 sf b M P data [] (T2 sf b data)) ∧ (i = na + 3 → ∃ b, St1 sf b M P data data (T1 sf b)) ∧ (na + 4 ≤ i → ∃ b, StJ sf b data M P) ∧ (na + 4 + nb < i → Fin M P)
def opFine (sf : ByteArray) (o : Op) : Prop := o.nm ≠ sf ∧ o.tn ≠ sf ∧ (o.kd = 2 → o.D.length ≤ 100)
structure SyOps (sf : ByteArray) (data : List Nat) (na nb : Nat) (ops : List Op) : Prop where
  len : ops.length = na + nb + 6
  A : ∀ (i : Nat) (o : Op), i < na → ops[i]? = some o → opFine sf o
  c1 : ∀ o : Op, ops[na]? = some o → o.kd = 1 ∧ o.nm = sf
  c2 : ∀ o : Op, ops[na + 1]? = some o → o.kd = 2 ∧ o.a = 0 ∧ o.nm = sf ∧ o.D = data
  c3 : ∀ o : Op, ops[na + 2]? = some o → o.kd = 6 ∧ o.nm = sf
  c4 : ∀ o : Op, ops[na + 3]? = some o → o.kd = 7
  B : ∀ (i : Nat) (o : Op), na + 4 ≤ i → i < na + 4 + nb → ops[i]? = some o → opFine sf o
  cr : ∀ o : Op, ops[na + 4 + nb]? = some o → o.kd = 11
  rd : ∀ o : Op, ops[na + 4 + nb + 1]? = some o → o.kd = 8 ∧ o.nm = sf
theorem SyInv.start {sf : ByteArray} {data : List Nat} {na nb : Nat} {F : List (ByteArray × List Nat)} {M : Dk} {P : Pb} {bs : List Nat} (h : NewD F 262144 M P bs) (hF : F.length ≤ 4) (hf : ∀ x ∈ F, x.1 ≠ sf ∧ x.2.length ≤ 79) : SyInv sf data na nb 0 M P := by
  obtain ⟨h1, h2, h3, h4, h5, h6, h7, h8, h9⟩ := h; have hT := tidy_bind tidy_empty ((bs.zip F).map (fun x => (x.2.1, some x.1)))
  have hzl : (bs.zip F).length = F.length := by simp [List.length_zip, h6]
  have hp : puts ((bs.zip F).map (fun x => (x.2.1, some x.1))) ≤ F.length := by
    rw [← hzl]; generalize bs.zip F = Z
    induction Z with
    | nil => exact Nat.zero_le _
    | cons z Z ih => simp only [puts, List.map_cons, List.sum_cons, List.length_cons, Option.isSome_some, if_true] at ih ⊢; omega
  have hz : size (.map [] : DataW Unit) = 0 := rfl
  have hno : (bindD (.map []) ((bs.zip F).map (fun x => (x.2.1, some x.1)))).atKey (kS sf) .nil = .nil := by
    rw [bind_other]
    · rfl
    · intro y hy hc; obtain ⟨z, hz, rfl⟩ := List.mem_map.1 hy; exact (hf z.2 (List.of_mem_zip hz).2).1 (kS_inj hc)
  refine ⟨⟨by rw [h2]; decide, ?_, ?_, by rw [h1]; exact Nat.zero_le _, by rw [h1]; simp, by omega, h8 ▸ hT.1, h9 ▸ hT.1, ?_, ?_⟩, fun _ => ⟨by rw [h8]; exact hno, by rw [h9]; exact hno, by rw [h1]; simp⟩, fun h => by omega, fun h => by omega, fun h => by omega, fun h => by omega, fun h => by omega⟩
  · rw [h7]; simp only [List.length_map]; omega
  · intro y hy; rw [h7] at hy; obtain ⟨z, hz, rfl⟩ := List.mem_map.1 hy; have := (hf z.2 (List.of_mem_zip hz).2).2; exact ⟨by show z.2.2.length ≤ _; omega, by show z.2.2.length ≤ _; omega⟩
  · rw [h8]; have := hT.2; omega
  · rw [h9, h1]; have := hT.2; simp only [bsOf]; show _ + 0 ≤ _; omega
theorem SyInv.step {sf : ByteArray} {data : List Nat} {na nb : Nat} {ops : List Op} (hO : SyOps sf data na nb ops) (hna : na ≤ 40) (hnb : nb ≤ 20) (hg : goodN sf = true) (hd1 : data ≠ []) (hd2 : data.length ≤ 100) {i : Nat} {o : Op} {M : Dk} {P : Pb} {M' : Dk} {P' : Pb} (hi : ops[i]? = some o) (h : SyInv sf data na nb i M P) (hR : Rf M P) (ht : TrD o.kd o.a o.nm o.tn o.D M P M' P') (hc : M'.cap = M.cap) : SyInv sf data na nb (i + 1) M' P' := by
  obtain ⟨hb, h0, h1, h2, h3, h4, h5⟩ := h
  have hil : i < na + nb + 6 := by rw [← hO.len]; exact (List.getElem?_eq_some_iff.1 hi).1
  have hD : o.kd = 2 → o.D.length ≤ 100 := fun hk => by
    rcases (by omega : i < na ∨ i = na ∨ i = na + 1 ∨ i = na + 2 ∨ i = na + 3 ∨ (na + 4 ≤ i ∧ i < na + 4 + nb) ∨ i = na + 4 + nb ∨ i = na + 4 + nb + 1) with h9 | rfl | rfl | rfl | rfl | h9 | rfl | rfl
    · exact (hO.A i o h9 hi).2.2 hk
    · have := hO.c1 o hi; omega
    · rw [(hO.c2 o hi).2.2.2]; exact hd2
    · have := hO.c3 o hi; omega
    · have := hO.c4 o hi; omega
    · exact (hO.B i o h9.1 h9.2 hi).2.2 hk
    · have := hO.cr o hi; omega
    · have := hO.rd o hi; omega
  have hb' := hb.step (by omega) hD ht hc; obtain ⟨kd, a, nm, tn, D⟩ := o; simp only at ht
  rcases (by omega : i < na ∨ i = na ∨ i = na + 1 ∨ i = na + 2 ∨ i = na + 3 ∨ (na + 4 ≤ i ∧ i < na + 4 + nb) ∨ i = na + 4 + nb ∨ i = na + 4 + nb + 1) with h9 | rfl | rfl | rfl | rfl | h9 | rfl | rfl
  · have hf := hO.A i _ h9 hi; exact ⟨hb', fun _ => (h0 (by omega)).step hf.1 hf.2.1 ht, fun h => by omega, fun h => by omega, fun h => by omega, fun h => by omega, fun h => by omega⟩
  · obtain ⟨rfl, rfl⟩ := hO.c1 _ hi; have := hb.sL; exact ⟨hb', fun h => by omega, fun _ => (h0 (by omega)).create hR hb.tL hg (by omega) ht, fun h => by omega, fun h => by omega, fun h => by omega, fun h => by omega⟩
  · obtain ⟨rfl, rfl, rfl, rfl⟩ := hO.c2 _ hi; obtain ⟨b, hs⟩ := h1 rfl; refine ⟨hb', fun h => by omega, fun h => by omega, fun _ => ⟨b, hs.write hd1 hd2 ?_ ht⟩, fun h => by omega, fun h => by omega, fun h => by omega⟩; have e1 := totL_le hb.pm; have e2 : P.length * (79 + 100 * (na + 1)) ≤ 45 * 4179 := Nat.mul_le_mul (by have := hb.nP; omega) (by omega); rw [hb.cap]; have e3 : D.length ≤ 100 := hd2
    show (totL P : Int) + (D.length : Int) ≤ 262144
    omega
  · obtain ⟨rfl, rfl⟩ := hO.c3 _ hi; obtain ⟨b, hs⟩ := h2 rfl; exact ⟨hb', fun h => by omega, fun h => by omega, fun h => by omega, fun _ => ⟨b, hs.sync ht⟩, fun h => by omega, fun h => by omega⟩
  · obtain rfl := hO.c4 _ hi; obtain ⟨b, hs⟩ := h3 rfl; exact ⟨hb', fun h => by omega, fun h => by omega, fun h => by omega, fun h => by omega, fun _ => ⟨b, hs.syncDir hb.tS ht⟩, fun h => by omega⟩
  · have hf := hO.B i _ h9.1 h9.2 hi; obtain ⟨b, hs⟩ := h4 h9.1; exact ⟨hb', fun h => by omega, fun h => by omega, fun h => by omega, fun h => by omega, fun _ => ⟨b, hs.step hb.tS hb.tL (.inr hf.1) (.inr hf.2.1) ht⟩, fun h => by omega⟩
  · obtain rfl := hO.cr _ hi; obtain ⟨b, hs⟩ := h4 (by omega); exact ⟨hb', fun h => by omega, fun h => by omega, fun h => by omega, fun h => by omega, fun _ => ⟨b, hs.step hb.tS hb.tL (.inl rfl) (.inl rfl) ht⟩, fun _ => Fin.crash ht⟩
  · obtain ⟨rfl, rfl⟩ := hO.rd _ hi; obtain ⟨b, hs⟩ := h4 (by omega); have hsm := same_of_read ht; obtain ⟨e1, e2, e3, e4, e5⟩ := hsm; exact ⟨hb', fun h => by omega, fun h => by omega, fun h => by omega, fun h => by omega, fun _ => ⟨b, ⟨by rw [e1]; exact hs.l, by rw [e2]; exact hs.s, by rw [e5]; exact hs.p, by rw [e1]; exact hs.aL, by rw [e2]; exact hs.aS, by rw [e4]; exact hs.q⟩⟩, fun _ => (h5 (by omega)).same ⟨e1, e2, e3, e4, e5⟩⟩
theorem SyInv.last {sf : ByteArray} {data : List Nat} {na nb : Nat} {ops : List Op} (hO : SyOps sf data na nb ops) {n : Nat} (hn : n = na + nb + 6) {o : Op} {M : Dk} {P : Pb} (hi : ops[n - 1]? = some o) (h : SyInv sf data na nb (n - 1) M P) : o.kd = 8 ∧ ∃ b S, M.LD.atKey (kS o.nm) .nil = bD (some b) ∧ (b, data, S) ∈ P := by
  obtain ⟨b, hs⟩ := h.2.2.2.2.2.1 (by omega); rw [show n - 1 = na + 4 + nb + 1 by omega] at hi; obtain ⟨h1, h2⟩ := hO.rd o hi; exact ⟨h1, b, data, by rw [h2]; exact hs.l, hs.p⟩
theorem SyInv.same {sf : ByteArray} {data : List Nat} {na nb n : Nat} (hn : n = na + nb + 6) {M : Dk} {ms : List Bd} (h : SyInv sf data na nb n M (ms.map Bd.tell)) (h1 : (ms.map Bd.b).Nodup) {ss ss' : List (List UInt8)} {F F' : List (List UInt8 × List Nat)} (hs : NamesOf M.LD ss) (hs' : NamesOf M.SD ss') (hf : FlOf ms M.LD Bd.L ss F) (hf' : FlOf ms M.SD Bd.S ss' F') : F = F' ∧ npsum M.queue = 0 := by
  obtain ⟨q0, e0, hfin⟩ := h.2.2.2.2.2.2 (by omega); rw [← e0] at hs' hf'; obtain rfl := hs.unique hs'; refine ⟨List.ext_getElem? (fun i => ?_), by rw [q0]; rfl⟩
  by_cases hi : i < ss.length
  · obtain ⟨s, hsi⟩ : ∃ s, ss[i]? = some s := ⟨_, List.getElem?_eq_getElem hi⟩; obtain ⟨m, hm, a1, a2⟩ := hf.2 i s hsi; obtain ⟨m', hm', b1, b2⟩ := hf'.2 i s hsi; have hmb : m'.b = m.b := Option.some.inj (bD_inj (b1.symm.trans a1))
    have hmt : (m.b, m'.L, m'.S) ∈ ms.map Bd.tell := by rw [← hmb]; exact List.mem_map_of_mem (f := Bd.tell) hm'
    obtain ⟨-, hSS⟩ := tell_uniq h1 hm hmt; have hLS : m.L = m.S := hfin m.tell (List.mem_map_of_mem (f := Bd.tell) hm) ⟨_, a1⟩; rw [a2, b2, hSS, hLS]
  · rw [List.getElem?_eq_none (by rw [hf.1]; omega), List.getElem?_eq_none (by rw [hf'.1]; omega)]
theorem wpList_appM {P : Program} {w0 : World} {ops : Array Oper} {rest : List Oper} {o : Oper} {a : Act} {Q : Exit → Act → World → Prop} (hgd : o.guard = none) (s x : Operand) (t : TypeId)
    (ho : o.op = .call { callee := .builtin .append, args := #[s, x], argTypes := #[t, t] })
    (base : Nat) (e : TypeId) {z : Value} {size bytes : Nat} (ht : P.underlying t = some (.slice e)) (hi : (P.info? e).map (fun i => (i.zero, i.size, i.bytes)) = some (some z, size, bytes)) (hzs : z.cells.size = size) (hsz : 0 < size)
    (v : Value) (n : Nat) (xs : List Value) (hs : a.eval s = v) (hown : w0.ownsRow base e size v n xs)
    (m : Nat) (news : Array Value) (g : Nat) (hg : w0.heap.size = g) (hx : a.eval x = .slice (some ⟨g, 0, none⟩) m m) (hl : news.size = m * size) (h1 : news.toList.all (·.oneCell') = true)
    (hn : n + m ≤ 10000000) (hb : bytes ≤ 1000) (hbase : base ≤ w0.heap.size)
    (h : ∀ oa c w', w'.ownsRow base e size (.slice oa (n + m) c) (n + m) (xs ++ news.toList) → w0.grownBy w' v.ownBlock → (∀ k, (Value.slice oa (n + m) c).ownBlock = some k → v.ownBlock = some k ∨ w0.heap.size ≤ k) → wpList P ops Q rest (a.put o.dst (.slice oa (n + m) c)) w') : wpList P ops Q (o :: rest) a (w0.alloc (.cells news e)) := by
  refine wpList_plain hgd fun K hK' => ?_
  obtain ⟨i, hi, hz⟩ := Option.map_eq_some_iff.1 hi; simp only [Prod.mk.injEq] at hz; have hnew := heap_alloc_new w0 (.cells news e)
  have hcell : ∀ j u, news.toList[j]? = some u → (w0.alloc (.cells news e)).cell? ((⟨g, 0, none⟩ : Addr).add j) = some u := fun j u hj => by
    subst hg; have e9 : Addr.add ⟨w0.heap.size, 0, none⟩ j = ⟨w0.heap.size, 0 + j, none⟩ := Addr.add_mid _ _ _; rw [e9, Nat.zero_add, zCr hnew]
    simpa using hj
  have hby : (n + m) * bytes ≤ 140737488355328 := by
    have h9 : (n + m) * bytes ≤ 10000000 * 1000 := Nat.mul_le_mul hn hb
    omega
  have hmx : n + m ≤ maxLen := by unfold maxLen; omega
  have hown' := own1_grown hown (World.grownBy_alloc w0 (.cells news e) none); obtain ⟨v', w', hrun, h2, h3, -⟩ := run_append_own (P := P) (w0.alloc (.cells news e)) base t o.type e i z size bytes ht hi hz.1 hz.2.1 hz.2.2 hzs hsz v n xs hown' ⟨g, 0, none⟩ m m news.toList (by simpa using hl) hcell (fun u hu => List.all_eq_true.1 h1 u hu) hmx hby (Nat.le_trans hbase (World.grownBy_alloc w0 (.cells news e) none).size); have hblk := app_blk (P := P) (w0.alloc (.cells news e)) base t o.type e i z size bytes ht hi hz.1 hz.2.1 hz.2.2 hzs hsz v n xs hown' ⟨g, 0, none⟩ m m news.toList (by simpa using hl) hcell (fun u hu => List.all_eq_true.1 h1 u hu) hmx hby hrun; obtain ⟨oa, c, rfl⟩ := own1_is h2
  unfold Oper.wp
  simp [execOp, ho, resolve, invoke, builtin, hs, hx, hrun, Result.andThen]
  refine hK' _ _ (h oa c w' h2 (grownBy_to (World.grownBy_alloc w0 _ none) h3) (fun k hk => ?_))
  rcases hblk k hk with h9 | h9
  · exact .inl h9
  · exact .inr (Nat.le_trans (World.grownBy_alloc w0 (.cells news e) none).size h9)
theorem BRow.mv {w w' : World} {B : Nat} {v : Value} {L : List Nat} {ts : List TypeId} (h : BRow w B v L) (hM : Moves [] ts w w') (ht : 5 ∉ ts) : BRow w' B v L := by
  obtain ⟨hz, h | ⟨g, cap, hv, hc, ho⟩⟩ := h
  · exact ⟨hz, .inl h⟩
  · exact ⟨hz, .inr ⟨g, cap, hv, hc, own_mv ho hM ht⟩⟩
theorem FlAt.mv {w w' : World} {B : Nat} {v : Value} {F : List (List UInt8 × List Nat)} {ts : List TypeId} (h : FlAt w B v F) (hM : Moves [] ts w w') (h1 : 55 ∉ ts) (h2 : 5 ∉ ts) : FlAt w' B v F := by
  obtain ⟨oa, c, cells, h3, h4, h5, h6⟩ := h; refine ⟨oa, c, cells, h3, own_mv h4 hM h1, h5, fun i s d hi => ?_⟩; obtain ⟨g1, a1, c1, g2, g3⟩ := h6 i s d hi; exact ⟨g1, a1, c1, g2, g3.mv hM h2⟩
theorem Src.noU8 {w : World} {g k : Nat} {zs : List Nat} {x : Int} (h : Src w g zs) : w.cell? ⟨g, k, none⟩ ≠ some (.int .u8 x) := by
  obtain ⟨oa, len, cap, i, x', hb, -⟩ := h; intro hc; rw [zCr hb] at hc
  rcases (by omega : k = 0 ∨ k = 1 ∨ k = 2 ∨ 3 ≤ k) with rfl | rfl | rfl | h9
  · simp at hc
  · simp at hc
  · simp at hc
  · rw [Array.getElem?_eq_none (by simpa using h9)] at hc
    cases hc
theorem Src.other {w w' : World} {g r : Nat} {zs ys : List Nat} (h : Src w g zs) (hr : Src w r ys) (hne : g ≠ r) (hg : w.grownBy w' (some r)) : Src w' g zs := by
  have hlt := h.lt; obtain ⟨oa, len, cap, i, x, hb, hs, hn, h1, h2, h3⟩ := h; refine ⟨oa, len, cap, i, x, (hg.block g hlt (by simpa using hne)).trans hb, hs.grownZ hg (fun hz b o e e2 => ?_), hn, h1, h2, h3⟩; obtain ⟨b', o', e', hc⟩ := hs.2.2 hz; rw [e] at e'
  obtain ⟨rfl, rfl⟩ : b = b' ∧ o = o' := by simpa using e'
  obtain rfl : b = r := by simpa using e2
  exact hr.noU8 (hc 0 (by omega))
theorem OpsR.kept {w w' : World} {B : Nat} {v u : Value} {os us : List Opv} {B' : Nat} (h : OpsR w B v os) (hu : OpsR w B' u us) (hg : w.grownBy w' u.ownBlock) (hne : ∀ k, u.ownBlock = some k → v.ownBlock ≠ some k) : OpsR w' B v os :=
  ⟨own1_kept h.row hg (fun k hk hc => hne k hc hk), fun o ho => OpG.mv (h.g o ho) (Moves.of_row hu.row hg) (by decide)⟩
theorem OpsR.pushes {w w' : World} {B : Nat} {v v' : Value} {os ns : List Opv} (h : OpsR w B v os) (hg : w.grownBy w' v.ownBlock) (ho : w'.ownsRow B 33 5 v' (os.length + ns.length) (os.flatMap Opv.cells ++ ns.flatMap Opv.cells)) (hG : ∀ o ∈ ns, o.G w) : OpsR w' B v' (os ++ ns) := by
  have hM : Moves [] [33] w w' := Moves.of_row h.row hg; refine ⟨?_, fun x hx => ?_⟩
  · rw [List.length_append, List.flatMap_append]; exact ho
  · rcases List.mem_append.1 hx with h9 | h9
    · exact OpG.mv (h.g x h9) hM (by decide)
    · exact OpG.mv (hG x h9) hM (by decide)
structure LS (w X : World) (n0 nB s q d : Nat) (zs ys : List Nat) (iv : Value) (F : List (List UInt8 × List Nat)) (bl : List (Value × List Nat)) (k : Nat) (ov : Value) (os : List Opv) (M : Mk) : Prop where
  dk : MkAt X ⟨n0, fun j => X.heap[j]?⟩ d M (Nb k) (4 + k) 65536 (Qb k)
  ops : OpsR X nB ov os
  ss : Src X s zs
  sq : Src X q ys
  img : ∃ B0, FlAt X B0 iv F
  bv : ∀ x ∈ bl, BV X x.1 x.2
  gr : w.grownBy X none
  lo : s < nB ∧ q < nB ∧ s ≠ q ∧ w.heap.size ≤ s ∧ w.heap.size ≤ q ∧ nB ≤ n0
section
variable {w X Y : World} {n0 nB s q d : Nat} {zs ys : List Nat} {iv : Value} {F : List (List UInt8 × List Nat)} {bl : List (Value × List Nat)} {k : Nat} {ov v' rv : Value} {os ns rs : List Opv} {M : Mk}
theorem LS.drawS (h : LS w X n0 nB s q d zs ys iv F bl k ov os M) (hs : Src Y s zs) (hg : X.grownBy Y (some s)) : LS w Y n0 nB s q d zs ys iv F bl k ov os M := by
  obtain ⟨l1, l2, l3, l4, l5, l6⟩ := h.lo; have hM := h.ss.mv hg; obtain ⟨B0, hi⟩ := h.img; exact ⟨h.dk.src h.ss hg, h.ops.mv hM (by decide) (by decide), hs, h.sq.other h.ss (by omega) hg, ⟨B0, hi.mv hM (by decide) (by decide)⟩, fun x hx => (h.bv x hx).moves hM (by decide), grownBy_row h.gr hg (fun r hr => by obtain rfl : s = r := (by simpa using hr); exact l4), h.lo⟩
theorem LS.drawQ (h : LS w X n0 nB s q d zs ys iv F bl k ov os M) (hs : Src Y q ys) (hg : X.grownBy Y (some q)) : LS w Y n0 nB s q d zs ys iv F bl k ov os M := by
  obtain ⟨l1, l2, l3, l4, l5, l6⟩ := h.lo; have hM := h.sq.mv hg; obtain ⟨B0, hi⟩ := h.img; exact ⟨h.dk.src h.sq hg, h.ops.mv hM (by decide) (by decide), h.ss.other h.sq l3 hg, hs, ⟨B0, hi.mv hM (by decide) (by decide)⟩, fun x hx => (h.bv x hx).moves hM (by decide), grownBy_row h.gr hg (fun r hr => by obtain rfl : q = r := (by simpa using hr); exact l5), h.lo⟩
theorem LS.grown0 (h : LS w X n0 nB s q d zs ys iv F bl k ov os M) (hg : X.grownBy Y none) : LS w Y n0 nB s q d zs ys iv F bl k ov os M := h.drawS (h.ss.grown0 hg) (grownBy_weak hg)
theorem LS.did (h : LS w X n0 nB s q d zs ys iv F bl k ov os M) (hd : DoOutM X Y ⟨n0, fun j => X.heap[j]?⟩ d (Nb (k + 1)) (4 + (k + 1)) 65536 (Qb (k + 1))) : ∃ M', LS w Y n0 nB s q d zs ys iv F bl (k + 1) ov os M' := by
  obtain ⟨⟨M', hM⟩, hm⟩ := hd; obtain ⟨l1, l2, l3, l4, l5, l6⟩ := h.lo; have hfr : ∀ j, j < n0 → Y.heap[j]? = X.heap[j]? := hM.fr; obtain ⟨B0, hi⟩ := h.img; refine ⟨M', hM.mv (Moves.refl [] [] _) (by simp) (by simp) (by simp), h.ops.mv hm (by decide) (by decide), h.ss.low hfr (by omega), h.sq.low hfr (by omega), ⟨B0, hi.mv hm (by decide) (by decide)⟩, fun x hx => (h.bv x hx).moves hm (by decide), ?_, h.lo⟩; exact ⟨hm.os.trans h.gr.os, hm.tape.trans h.gr.tape, hm.output.trans h.gr.output, Nat.le_trans h.gr.size hm.size, fun j hj hne => (hfr j (by omega)).trans (h.gr.block j hj hne)⟩
theorem LS.push (h : LS w X n0 nB s q d zs ys iv F bl k ov os M) (hg : X.grownBy Y ov.ownBlock) (ho : Y.ownsRow nB 33 5 v' (os.length + ns.length) (os.flatMap Opv.cells ++ ns.flatMap Opv.cells)) (hG : ∀ o ∈ ns, o.G X) : LS w Y n0 nB s q d zs ys iv F bl k v' (os ++ ns) M := by
  obtain ⟨l1, l2, l3, l4, l5, l6⟩ := h.lo; have hM : Moves [] [33] X Y := Moves.of_row h.ops.row hg
  have hb : ∀ r, ov.ownBlock = some r → nB ≤ r := fun r hr => own1_base h.ops.row hr
  obtain ⟨B0, hi⟩ := h.img; exact ⟨h.dk.mv hM tyOp (by decide) (by decide), h.ops.pushes hg ho hG, h.ss.grown hg (fun r hr => by have := hb r hr; omega), h.sq.grown hg (fun r hr => by have := hb r hr; omega), ⟨B0, hi.mv hM (by decide) (by decide)⟩, fun x hx => (h.bv x hx).moves hM (by decide), grownBy_row h.gr hg (fun r hr => by have := hb r hr; omega), h.lo⟩
theorem LS.see (h : LS w X n0 nB s q d zs ys iv F bl k ov os M) (v : Value) (D : List Nat) (hv : BV X v D) : LS w X n0 nB s q d zs ys iv F ((v, D) :: bl) k ov os M :=
  ⟨h.dk, h.ops, h.ss, h.sq, h.img, fun x hx => by
    rcases List.mem_cons.1 hx with rfl | h9
    · exact hv
    · exact h.bv x h9, h.gr, h.lo⟩
structure RR (X : World) (ov rv : Value) (rs : List Opv) : Prop where
  row : ∃ B, OpsR X B rv rs
  ap : ∀ k, ov.ownBlock = some k → rv.ownBlock ≠ some k
theorem RR.mv {ts : List TypeId} (h : RR X ov rv rs) (hM : Moves [] ts X Y) (h1 : 33 ∉ ts) (h2 : 5 ∉ ts) : RR Y ov rv rs := by
  obtain ⟨⟨B, hr⟩, ha⟩ := h; exact ⟨⟨B, hr.mv hM h1 h2⟩, ha⟩
theorem RR.grown0 (h : RR X ov rv rs) (hg : X.grownBy Y none) : RR Y ov rv rs := h.mv (ts := []) (Moves.of_grown0 hg) (by simp) (by simp)
theorem RR.push {B : Nat} (h : RR X ov rv rs) (ho : OpsR X B ov os) (hg : X.grownBy Y ov.ownBlock) (hn : ∀ k, v'.ownBlock = some k → ov.ownBlock = some k ∨ X.heap.size ≤ k) : RR Y v' rv rs := by
  obtain ⟨⟨B', hr⟩, ha⟩ := h; refine ⟨⟨B', hr.kept ho hg ha⟩, fun k hk hc => ?_⟩
  rcases hn k hk with h9 | h9
  · exact ha k h9 hc
  · obtain ⟨cur, h8⟩ := row_type hr.row hc; have := (Array.getElem?_eq_some_iff.1 h8).1
    omega
end
def OkA (o : Opv) : Prop := o.kd ≠ 9 ∧ o.kd ≠ 10 ∧ o.nm ≠ safeB ∧ o.tn ≠ safeB ∧ (o.kd = 2 → o.D.length ≤ 100)
def Opv.op (o : Opv) : Op := ⟨o.kd, o.a, o.nm, o.tn, o.D⟩
theorem Opv.G.len {w : World} {o : Opv} (h : o.G w) : o.D.length = o.dn := by
  obtain ⟨_, _, hv, -⟩ := OpG.bv h |>.2
  simp only [Value.slice.injEq] at hv; exact hv.2.1.symm
def oCre : Opv := ⟨1, 0, safeB, ⟨#[]⟩, none, 0, 0, []⟩
def oWri (da : Option Addr) (dn dc : Nat) (D : List Nat) : Opv := ⟨2, 0, safeB, ⟨#[]⟩, da, dn, dc, D⟩
def oSyn : Opv := ⟨6, 0, safeB, ⟨#[]⟩, none, 0, 0, []⟩
def oDir : Opv := ⟨7, 0, ⟨#[]⟩, ⟨#[]⟩, none, 0, 0, []⟩
def oCra (da : Option Addr) (dn dc : Nat) (D : List Nat) : Opv := ⟨11, 0, ⟨#[]⟩, ⟨#[]⟩, da, dn, dc, D⟩
def oRea : Opv := ⟨8, 0, safeB, ⟨#[]⟩, none, 0, 0, []⟩
theorem sy_ops {A Bl : List Opv} {da ca : Option Addr} {dn dc cn cc : Nat} {D C : List Nat} (hA : ∀ o ∈ A, OkA o) (hB : ∀ o ∈ Bl, OkA o) : SyOps safeB D A.length Bl.length ((A ++ [oCre, oWri da dn dc D, oSyn, oDir] ++ Bl ++ [oCra ca cn cc C, oRea]).map Opv.op) := by
  have e : (A ++ [oCre, oWri da dn dc D, oSyn, oDir] ++ Bl ++ [oCra ca cn cc C, oRea]).map Opv.op = A.map Opv.op ++ ([oCre.op, (oWri da dn dc D).op, oSyn.op, oDir.op] ++ (Bl.map Opv.op ++ [(oCra ca cn cc C).op, oRea.op])) := by simp
  rw [e]
  have hf : ∀ o : Opv, OkA o → opFine safeB o.op := fun o ho => ⟨ho.2.2.1, ho.2.2.2.1, ho.2.2.2.2⟩
  have hin : ∀ (L : List Opv) (i : Nat) (o : Op), (∀ x ∈ L, OkA x) → (L.map Opv.op)[i]? = some o → opFine safeB o := fun L i o hL h => by
    rw [List.getElem?_map] at h; obtain ⟨x, hx, rfl⟩ := Option.map_eq_some_iff.1 h; exact hf x (hL x (List.mem_of_getElem? hx))
  have hr : ∀ (j : Nat), (A.map Opv.op ++ ([oCre.op, (oWri da dn dc D).op, oSyn.op, oDir.op] ++ (Bl.map Opv.op ++ [(oCra ca cn cc C).op, oRea.op])))[A.length + j]? = ([oCre.op, (oWri da dn dc D).op, oSyn.op, oDir.op] ++ (Bl.map Opv.op ++ [(oCra ca cn cc C).op, oRea.op]))[j]? := fun j => by
    rw [List.getElem?_append_right (by simp)]
    simp
  have hr4 : ∀ (j : Nat), ([oCre.op, (oWri da dn dc D).op, oSyn.op, oDir.op] ++ (Bl.map Opv.op ++ [(oCra ca cn cc C).op, oRea.op]))[4 + j]? = (Bl.map Opv.op ++ [(oCra ca cn cc C).op, oRea.op])[j]? := fun j => by
    rw [List.getElem?_append_right (by simp)]
    simp
  refine ⟨by simp; omega, fun i o hi h => ?_, fun o h => ?_, fun o h => ?_, fun o h => ?_, fun o h => ?_, fun i o h1 h2 h => ?_, fun o h => ?_, fun o h => ?_⟩
  · rw [List.getElem?_append_left (by simpa using hi)] at h; exact hin A i o hA h
  · have h9 := hr 0; rw [Nat.add_zero] at h9; rw [h9] at h
    obtain rfl : oCre.op = o := by simpa using h
    exact ⟨rfl, rfl⟩
  · rw [hr 1] at h
    obtain rfl : (oWri da dn dc D).op = o := by simpa using h
    exact ⟨rfl, rfl, rfl, rfl⟩
  · rw [hr 2] at h
    obtain rfl : oSyn.op = o := by simpa using h
    exact ⟨rfl, rfl⟩
  · rw [hr 3] at h
    obtain rfl : oDir.op = o := by simpa using h
    rfl
  · obtain ⟨j, rfl⟩ : ∃ j, i = A.length + (4 + j) := ⟨i - A.length - 4, by omega⟩; rw [hr, hr4, List.getElem?_append_left (by simp; omega)] at h; exact hin Bl j o hB h
  · have h9 := (hr (4 + Bl.length)).trans (hr4 Bl.length); rw [show A.length + 4 + Bl.length = A.length + (4 + Bl.length) by omega, h9, List.getElem?_append_right (by simp)] at h
    obtain rfl : (oCra ca cn cc C).op = o := by simpa using h
    rfl
  · have h9 := (hr (4 + (Bl.length + 1))).trans (hr4 (Bl.length + 1)); rw [show A.length + 4 + Bl.length + 1 = A.length + (4 + (Bl.length + 1)) by omega, h9, List.getElem?_append_right (by simp)] at h
    obtain rfl : oRea.op = o := by simpa using h
    exact ⟨rfl, rfl⟩
theorem OpsR.opsAt {w : World} {B n c : Nat} {oa : Option Addr} {os : List Opv} (h : OpsR w B (.slice oa n c) os) (hn : os.length = n) (hk : ∀ o ∈ os, o.kd ≠ 9 ∧ o.kd ≠ 10) (hlo : ∀ o ∈ os, ∀ b off, o.da = some ⟨b, off, none⟩ → b < w.heap.size) : OpsAt w w.heap.size oa (os.map Opv.op) := fun i x hi => by
  rw [List.getElem?_map] at hi; obtain ⟨o, ho, rfl⟩ := Option.map_eq_some_iff.1 hi; obtain ⟨g, h0, k0, k1, k2, k3, k4⟩ := h.cell hn ho; have hm := List.mem_of_getElem? ho; have hG := h.g o hm; have hl := Opv.G.len hG; obtain ⟨oa2, c2, hv, hs, hc⟩ := (OpG.bv hG).sl; simp only [Value.slice.injEq] at hv; obtain ⟨h1, -, h2⟩ := hv; rw [hl] at hs hc; have hz := OpG.dz hG; refine ⟨g, 0, o.da, o.dn, o.dc, h0, by rw [Nat.zero_add]; exact k0, by rw [Nat.zero_add]; exact k1, by rw [Nat.zero_add]; exact k2, by rw [Nat.zero_add]; exact k3, by rw [Nat.zero_add]; exact k4, ⟨Nat.le_trans (OpG.sn hG) (by omega), Nat.le_trans (OpG.st hG) (by omega), by rw [h1]; exact hs, by rw [h2]; exact hc, hlo o hm, by omega, OpG.ia hG, (hk o hm).1, (hk o hm).2⟩⟩
def fileTr (F : List (List UInt8 × List Nat)) (cells : List Value) (i : Nat) : List Tr :=
  match F[i]?, cells[i * 2 + 1]? with
  | some (s, d), some (.slice a _ c) => [.str ⟨s.toArray⟩, .byt d a c]
  | _, _ => [.str ⟨#[]⟩, .byt [] none 0]
def fB (F : List (List UInt8 × List Nat)) : List (ByteArray × List Nat) := F.map (fun x => (⟨x.1.toArray⟩, x.2))
theorem good4 : ∀ x ∈ N4, goodN ⟨x.toArray⟩ = true ∧ x.length ≤ 4 ∧ (⟨x.toArray⟩ : ByteArray) ≠ safeB := by
  intro x hx; simp only [N4, List.mem_cons, List.not_mem_nil, or_false] at hx
  rcases hx with rfl | rfl | rfl | rfl <;> exact ⟨by decide, by decide, by unfold safeB; decide⟩
theorem up4 : N4.Pairwise (fun a b => Op.bytesLess a b = true) := by unfold N4; decide
theorem ImF.mem {F : List (List UInt8 × List Nat)} (h : ImF F 4) {i : Nat} {s : List UInt8} {d : List Nat} (hi : F[i]? = some (s, d)) : s ∈ N4 ∧ d.length ≤ 79 := by
  refine ⟨List.mem_of_mem_take (h.1.subset ?_), h.2 _ (List.mem_of_getElem? hi)⟩; exact List.mem_map_of_mem (f := Prod.fst) (List.mem_of_getElem? hi)
theorem fB_get {F : List (List UInt8 × List Nat)} {i : Nat} {x : ByteArray × List Nat} (h : (fB F)[i]? = some x) : ∃ s d, F[i]? = some (s, d) ∧ x = (⟨s.toArray⟩, d) := by
  unfold fB at h
  rw [List.getElem?_map] at h; obtain ⟨⟨s, d⟩, h1, h2⟩ := Option.map_eq_some_iff.1 h; exact ⟨s, d, h1, h2.symm⟩
theorem ImF.ok {F : List (List UInt8 × List Nat)} (h : ImF F 4) : okImg (fB F) = true := by
  have hl : (fB F).length = F.length := by simp [fB]
  have h4 := h.len; have hp : (F.map (·.1)).Pairwise (fun a b => Op.bytesLess a b = true) := List.Pairwise.sublist (h.1.trans (List.take_sublist _ _)) up4
  have hs : ∀ k, sumTo (fB F) k ≤ 79 * k := by
    intro k
    induction k with
    | zero => exact Nat.le_refl _
    | succ k ih =>
      show sumTo (fB F) k + _ ≤ _
      have : (((fB F)[k]?).map (fun x => x.2.length)).getD 0 ≤ 79 := by
        cases hc : (fB F)[k]? with
        | none => simp
        | some x =>
          obtain ⟨s, d, h1, rfl⟩ := fB_get hc; have := (h.mem h1).2
          simpa using this
      omega
  unfold okImg
  simp only [Bool.and_eq_true, decide_eq_true_eq]; refine ⟨⟨by omega, fun i hi => ?_⟩, by have := hs (fB F).length; omega⟩; obtain ⟨x, hx⟩ : ∃ x, (fB F)[i]? = some x := ⟨_, List.getElem?_eq_getElem hi⟩; obtain ⟨s, d, h1, rfl⟩ := fB_get hx; obtain ⟨hm, hd⟩ := h.mem h1; rw [badAt_eq hx, (good4 s hm).1]
  have hd2 : decide (65536 < d.length) = false := by simp; omega
  rw [hd2]
  by_cases h0 : 0 < i
  · obtain ⟨y, hy⟩ : ∃ y, (fB F)[i - 1]? = some y := ⟨_, List.getElem?_eq_getElem (by omega)⟩; obtain ⟨s', d', h2, rfl⟩ := fB_get hy
    have hlt : Op.bytesLess s' s = true := by
      have e1 : (F.map (·.1))[i - 1]? = some s' := by rw [List.getElem?_map, h2]; rfl
      have e2 : (F.map (·.1))[i]? = some s := by rw [List.getElem?_map, h1]; rfl
      obtain ⟨g1, e1⟩ := List.getElem?_eq_some_iff.1 e1; obtain ⟨g2, e2⟩ := List.getElem?_eq_some_iff.1 e2; have := List.pairwise_iff_getElem.1 hp (i - 1) i g1 g2 (by omega); rw [e1, e2] at this; exact this
    have hn : nmAt (fB F) (i - 1) = ⟨s'.toArray⟩ := by simp [nmAt, hy]
    rw [hn]
    have t1 : (⟨s'.toArray⟩ : ByteArray).toList = s' := by simp
    have t2 : (⟨s.toArray⟩ : ByteArray).toList = s := by simp
    rw [t1, t2, hlt]
    simp
  · have : decide (0 < i) = false := by simpa using h0
    rw [this]
    rfl
theorem FlAt.rows {w : World} {B n c : Nat} {oa : Option Addr} {F : List (List UInt8 × List Nat)} (h : FlAt w B (.slice oa n c) F) (hF : ImF F 4) : ∃ L, RowOk w kFile oa L ∧ totR L ≤ 1048576 ∧ filesOf L = fB F ∧ L.length = F.length := by
  obtain ⟨oa', c', cells, h1, h2, h3⟩ := h; simp only [Value.slice.injEq] at h1; obtain ⟨rfl, rfl, rfl⟩ := h1; have h4 := hF.len
  have hat : ∀ i s d, F[i]? = some (s, d) → ∃ a1 c1, fileTr F cells i = [.str ⟨s.toArray⟩, .byt d a1 c1] ∧ SlB w a1 d.length d ∧ ∃ g, oa = some ⟨g, 0, none⟩ ∧ w.cell? ⟨g, i * 2, none⟩ = some (.string ⟨s.toArray⟩) ∧ w.cell? ⟨g, i * 2 + 1, none⟩ = some (.slice a1 d.length c1) := fun i s d hi => by
    obtain ⟨g1, a1, c1, g2, g3⟩ := h3.2 i s d hi; obtain ⟨g, e1, q1⟩ := own_cell h2 g1; obtain ⟨g', e2, q2⟩ := own_cell h2 g2; rw [e1] at e2; simp only [Option.some.injEq, Addr.mk.injEq, and_true] at e2; subst e2; obtain ⟨oa2, c2, hv, hs⟩ := g3.sl; simp only [Value.slice.injEq] at hv; obtain ⟨rfl, -, rfl⟩ := hv; exact ⟨a1, c1, by simp [fileTr, hi, g2], hs, g, e1, q1, q2⟩
  have hget : ∀ i, i < F.length → ((List.range F.length).map (fileTr F cells))[i]? = some (fileTr F cells i) := fun i hi => by simp [hi]
  have hL : ∀ i e, ((List.range F.length).map (fileTr F cells))[i]? = some e → ∃ s d a1 c1, F[i]? = some (s, d) ∧ e = [.str ⟨s.toArray⟩, .byt d a1 c1] ∧ SlB w a1 d.length d ∧ ∃ g, oa = some ⟨g, 0, none⟩ ∧ w.cell? ⟨g, i * 2, none⟩ = some (.string ⟨s.toArray⟩) ∧ w.cell? ⟨g, i * 2 + 1, none⟩ = some (.slice a1 d.length c1) := fun i e he => by
    have hi : i < F.length := by have := (List.getElem?_eq_some_iff.1 he).1; simpa using this
    rw [hget i hi] at he; obtain ⟨⟨s, d⟩, hsd⟩ : ∃ x, F[i]? = some x := ⟨_, List.getElem?_eq_getElem hi⟩; obtain ⟨a1, c1, g1, g2⟩ := hat i s d hsd; exact ⟨s, d, a1, c1, hsd, by rw [← g1]; exact (Option.some.inj he).symm, g2⟩
  have hsz : ∀ s : List UInt8, (⟨s.toArray⟩ : ByteArray).size = s.length := fun s => by simp [ByteArray.size]
  refine ⟨(List.range F.length).map (fileTr F cells), fun i e he => ?_, ?_, ?_, by simp⟩
  · obtain ⟨s, d, a1, c1, hsd, rfl, hs, g, e1, q1, q2⟩ := hL i e he; obtain ⟨hm, hd⟩ := hF.mem hsd; refine ⟨⟨rfl, fun j y k hy hk => ?_⟩, fun y hy => ?_, g, 0, e1, fun j y hj => ?_⟩
    · match j, hy, hk with
      | 0, hy, hk =>
        obtain rfl : Tr.str ⟨s.toArray⟩ = y := by simpa using hy
        obtain rfl : Ki.str = k := by simpa [kFile] using hk
        exact .str _
      | 1, hy, hk =>
        obtain rfl : Tr.byt d a1 c1 = y := by simpa using hy
        obtain rfl : Ki.byt = k := by simpa [kFile] using hk
        exact .byt _ _ _
      | j + 2, hy, _ => simp at hy
    · simp only [List.mem_cons, List.not_mem_nil, or_false] at hy
      rcases hy with rfl | rfl
      · exact .str (by rw [hsz]; have := (good4 s hm).2.1; unfold maxLen; omega)
      · exact .byt (by unfold maxLen; omega) hs
    · match j, hj with
      | 0, hj =>
        obtain rfl : Tr.str ⟨s.toArray⟩ = y := by simpa using hj
        show w.cell? ⟨g, 0 + i * 2 + 0, none⟩ = _
        rw [Nat.zero_add, Nat.add_zero]; exact q1
      | 1, hj =>
        obtain rfl : Tr.byt d a1 c1 = y := by simpa using hj
        show w.cell? ⟨g, 0 + i * 2 + 1, none⟩ = _
        rw [Nat.zero_add]; exact q2
      | j + 2, hj => simp at hj
  · have hb : ∀ k, k ≤ F.length → totTo ((List.range F.length).map (fileTr F cells)) k ≤ F.length + 100 * k := by
      intro k
      induction k with
      | zero => intro _; rw [totTo_zero]; simp
      | succ k ih =>
        intro hk; have he := hget k (by omega); obtain ⟨s, d, a1, c1, hsd, e2, -⟩ := hL k _ he; obtain ⟨hm, hd⟩ := hF.mem hsd; rw [totTo_succ he, e2]; have h9 := ih (by omega)
        have h8 : tdEl ([Tr.str ⟨s.toArray⟩, Tr.byt d a1 c1].map Tr.tell) = s.length + d.length := by
          simp [tdEl, hsz]
        rw [h8]; have := (good4 s hm).2.1
        omega
    have h9 := hb F.length (Nat.le_refl _); have h8 := totTo_all ((List.range F.length).map (fileTr F cells)); rw [show ((List.range F.length).map (fileTr F cells)).length = F.length by simp] at h8
    omega
  · refine List.ext_getElem? (fun i => ?_)
    by_cases hi : i < F.length
    · have he := hget i hi; obtain ⟨s, d, a1, c1, hsd, e2, -⟩ := hL i _ he; rw [e2] at he; rw [filesOf_get he]
      simp [fB, hsd]
    · rw [List.getElem?_eq_none (by rw [filesOf_len]; simp; omega), List.getElem?_eq_none (by simp [fB]; omega)]
theorem goodSafe : goodN safeB = true := by unfold safeB; decide
theorem ErrsAt.up {w : World} {B B' : Nat} {ad : Nat → Addr} (h : ErrsAt w B ad) (hB : B ≤ B') : ErrsAt w B' ad := ⟨h.cell, h.blk, h.far, h.typ, fun k hk => Nat.lt_of_lt_of_le (h.low k hk) hB, Nat.le_trans h.lowG hB⟩
def allOps (A Bl : List Opv) (da ca : Option Addr) (dn dc cn cc : Nat) (D C : List Nat) : List Opv := A ++ [oCre, oWri da dn dc D, oSyn, oDir] ++ Bl ++ [oCra ca cn cc C, oRea]
theorem allOps_len (A Bl : List Opv) (da ca : Option Addr) (dn dc cn cc : Nat) (D C : List Nat) : (allOps A Bl da ca dn dc cn cc D C).length = A.length + Bl.length + 6 := by simp [allOps]; omega
theorem allOps_k {A Bl : List Opv} {da ca : Option Addr} {dn dc cn cc : Nat} {D C : List Nat} (hA : ∀ o ∈ A, OkA o) (hB : ∀ o ∈ Bl, OkA o) : ∀ o ∈ allOps A Bl da ca dn dc cn cc D C, o.kd ≠ 9 ∧ o.kd ≠ 10 := by
  intro o ho; simp only [allOps, List.mem_append, List.mem_cons, List.not_mem_nil, or_false] at ho
  rcases ho with ((h | rfl | rfl | rfl | rfl) | h) | rfl | rfl
  · exact ⟨(hA o h).1, (hA o h).2.1⟩
  · exact ⟨by decide, by decide⟩
  · exact ⟨by show (2 : Int) ≠ 9; decide, by show (2 : Int) ≠ 10; decide⟩
  · exact ⟨by decide, by decide⟩
  · exact ⟨by decide, by decide⟩
  · exact ⟨(hB o h).1, (hB o h).2.1⟩
  · exact ⟨by show (11 : Int) ≠ 9; decide, by show (11 : Int) ≠ 10; decide⟩
  · exact ⟨by decide, by decide⟩
theorem diskRun_law (ia : Option Addr) (n ic B1 : Nat) (F : List (List UInt8 × List Nat)) (pa : Option Addr) (pn pc Bc : Nat) (cps A Bl : List Opv) (da ca : Option Addr) (dn dc cn cc : Nat) (D C : List Nat) (ad : Nat → Addr) (X : World)
    (hI : FlAt X B1 (.slice ia n ic) F) (hF : ImF F 4) (hO : OpsR X Bc (.slice pa pn pc) cps) (hcn : cps.length = pn) (hc : cps.map Opv.op = (allOps A Bl da ca dn dc cn cc D C).map Opv.op)
    (hA : ∀ o ∈ A, OkA o) (hB : ∀ o ∈ Bl, OkA o) (hna : A.length ≤ 40) (hnb : Bl.length ≤ 20) (hD : 1 ≤ D.length ∧ D.length ≤ 100) (hlo : ∀ o ∈ cps, ∀ b off, o.da = some ⟨b, off, none⟩ → b < X.heap.size) (hE : ErrsAt X X.heap.size ad) :
    Calls Tryz.prog 16 #[.slice ia n ic, .int .i64 262144, .slice pa pn pc] X fun e X' => ∃ av lv sv, e = .returned (.agg #[.int .i64 0, av, lv, sv, .int .i64 0]) ∧ LastA X' X.heap.size pn D av ∧ (∃ F1 b1 b2, FlAt X' b1 lv F1 ∧ FlAt X' b2 sv F1) ∧ X.grownBy X' none := by
  obtain ⟨L, hR, hT, hfl, hLl⟩ := hI.rows hF
  have hnF : F.length = n := by
    obtain ⟨_, _, _, h1, -⟩ := hI; simp only [Value.slice.injEq] at h1; exact h1.2.1.symm
  have h4 := hF.len
  have hlen : pn = A.length + Bl.length + 6 := by
    have h9 := congrArg List.length hc; rw [List.length_map, List.length_map, allOps_len] at h9
    omega
  have hSO : SyOps safeB D A.length Bl.length (cps.map Opv.op) := by rw [hc]; exact sy_ops hA hB
  have hk : ∀ o ∈ cps, o.kd ≠ 9 ∧ o.kd ≠ 10 := fun o ho => by
    have h9 : o.op ∈ cps.map Opv.op := List.mem_map_of_mem ho; rw [hc] at h9; obtain ⟨x, hx, hxe⟩ := List.mem_map.1 h9; have h8 := allOps_k hA hB x hx; have h7 : x.kd = o.kd := congrArg Op.kd hxe; rw [← h7]; exact h8
  have hDn : D ≠ [] := fun h => by rw [h] at hD; simp at hD
  refine (DiskRun_any ia n ic 262144 pa pn pc L (cps.map Opv.op) ad (SyInv safeB D A.length Bl.length) D X hR hT (by rw [hfl]; exact hF.ok) (by rw [hLl]; exact hnF) (by omega) (hO.opsAt hcn hk hlo) (by rw [List.length_map]; exact hcn) (by omega) (by omega) hE ?_ ?_ ?_ ?_).mono ?_
  · intro M P bs h; rw [hfl] at h; refine SyInv.start h (by simp [fB]; omega) (fun x hx => ?_); obtain ⟨i, hi⟩ := List.mem_iff_getElem?.1 hx; obtain ⟨s, d, h1, rfl⟩ := fB_get hi; obtain ⟨hm, hd⟩ := hF.mem h1; exact ⟨(good4 s hm).2.2, hd⟩
  · intro i M P hi h hf ho; exact h.1.run (by omega) hf ho
  · intro i o M P M' P' hi h hnd hRf ht hcap; exact SyInv.step hSO hna hnb goodSafe hDn hD.2 hi h hRf ht hcap
  · intro o M P hi h; exact SyInv.last hSO hlen hi h
  · rintro e X' ⟨av, lv, sv, q, rfl, M, ms, hinv, hnd, hq, hla, ⟨ss, F1, b1, hs, hf, hfa⟩, ⟨ss', F2, b2, hs', hf', hfa'⟩, hg⟩; obtain ⟨rfl, h0⟩ := SyInv.same hlen hinv hnd hs hs' hf hf'; rw [h0] at hq; subst hq; exact ⟨av, lv, sv, rfl, hla, ⟨F1, b1, b2, hfa, hfa'⟩, hg⟩
structure CS (w X : World) (nC : Nat) (iv : Value) (F : List (List UInt8 × List Nat)) (bl : List (Value × List Nat)) (ov : Value) (os : List Opv) (cv : Value) (cps : List Opv) : Prop where
  img : ∃ B0, FlAt X B0 iv F
  bv : ∀ x ∈ bl, BV X x.1 x.2
  gr : w.grownBy X none
  cp : OpsR X nC cv cps
  rr : RR X cv ov os
  nw : w.heap.size ≤ nC
  lo : ∀ o ∈ cps, ∀ b off, o.da = some ⟨b, off, none⟩ → b < X.heap.size
  eq : cps.map Opv.op = (os.take cps.length).map Opv.op
  sz : nC ≤ X.heap.size
section
variable {w X Y : World} {nC : Nat} {iv : Value} {F : List (List UInt8 × List Nat)} {bl : List (Value × List Nat)} {ov cv v' : Value} {os cps : List Opv}
theorem CS.grown0 (h : CS w X nC iv F bl ov os cv cps) (hg : X.grownBy Y none) : CS w Y nC iv F bl ov os cv cps := by
  obtain ⟨B0, hi⟩ := h.img; exact ⟨⟨B0, hi.grown0 hg⟩, fun x hx => (h.bv x hx).grown0 hg, grownBy_trans h.gr hg, h.cp.grown0 hg, h.rr.grown0 hg, h.nw, fun o ho b off e => Nat.lt_of_lt_of_le (h.lo o ho b off e) hg.size, h.eq, Nat.le_trans h.sz hg.size⟩
theorem CS.box {b i : Nat} {u : Value} {cur : Array Value} (h : CS w X nC iv F bl ov os cv cps) (hb : X.heap[b]? = some (.cells cur 33 (0, 0))) (hw : w.heap.size ≤ b) (h1 : ∀ k, ov.ownBlock = some k → k ≠ b) (h2 : ∀ k, cv.ownBlock = some k → k ≠ b) : CS w (X.setCell ⟨b, i, none⟩ u) nC iv F bl ov os cv cps := by
  have hM : Moves [] [33] X (X.setCell ⟨b, i, none⟩ u) := set_type hb; have hG : X.grownBy (X.setCell ⟨b, i, none⟩ u) (some b) := grownBy_setCell (grownBy_refl _ _); obtain ⟨B0, hi⟩ := h.img; obtain ⟨⟨B', hr⟩, ha⟩ := h.rr; refine ⟨⟨B0, hi.mv hM (by decide) (by decide)⟩, fun x hx => (h.bv x hx).moves hM (by decide), grownBy_setNew h.gr hw, ⟨own1_kept h.cp.row hG (fun k hk hc => h2 k hk (by simpa using hc.symm)), fun o ho => OpG.mv (h.cp.g o ho) hM (by decide)⟩, ⟨⟨B', own1_kept hr.row hG (fun k hk hc => h1 k hk (by simpa using hc.symm)), fun o ho => OpG.mv (hr.g o ho) hM (by decide)⟩, ha⟩, h.nw, fun o ho b off e => Nat.lt_of_lt_of_le (h.lo o ho b off e) hG.size, h.eq, Nat.le_trans h.sz hG.size⟩
theorem CS.push {o : Opv} (h : CS w X nC iv F bl ov os cv cps) (hg : X.grownBy Y cv.ownBlock) (ho : Y.ownsRow nC 33 5 v' (cps.length + 1) (cps.flatMap Opv.cells ++ o.cells)) (hG : o.G X) (hlo : ∀ b off, o.da = some ⟨b, off, none⟩ → b < X.heap.size) (hn : ∀ k, v'.ownBlock = some k → cv.ownBlock = some k ∨ X.heap.size ≤ k) (he : (os[cps.length]?).map Opv.op = some o.op) : CS w Y nC iv F bl ov os v' (cps ++ [o]) := by
  have hM : Moves [] [33] X Y := Moves.of_row h.cp.row hg; obtain ⟨B0, hi⟩ := h.img; refine ⟨⟨B0, hi.mv hM (by decide) (by decide)⟩, fun x hx => (h.bv x hx).moves hM (by decide), grownBy_row h.gr hg (fun r hr => Nat.le_trans h.nw (own1_base h.cp.row hr)), h.cp.push hg ho hG, h.rr.push h.cp hg hn, h.nw, fun x hx b off e => ?_, ?_, Nat.le_trans h.sz hg.size⟩
  · rcases List.mem_append.1 hx with h9 | h9
    · exact Nat.lt_of_lt_of_le (h.lo x h9 b off e) hg.size
    · obtain rfl : x = o := by simpa using h9
      exact Nat.lt_of_lt_of_le (hlo b off e) hg.size
  · rw [List.map_append, h.eq, List.length_append]
    show _ = (os.take (cps.length + 1)).map Opv.op
    rw [List.take_add_one, List.map_append]
    congr 1
    obtain ⟨x, hx, hxe⟩ := Option.map_eq_some_iff.1 he; rw [hx]
    simp [hxe]
end
end Go.Proofs.YtgehhfncjoogiaaGreatDoor
