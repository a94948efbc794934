/-
  Md13, Md14, Md15, Md16, Md17, Md18, Md19
-/
import Derived.Test.YtgehhfncjoogiaaGreatDoorSyn7
namespace Go.Proofs.YtgehhfncjoogiaaGreatDoor
open Go.RowKit Go.Maps

structure FiSt (w wr : World) (m : Dm) (box : Obj) (ov lv : Value) (n : Nat) (cells : List Value) (ls : List ByteArray) : Prop where
  bx : wr.heap[w.heap.size]? = some box
  out : wr.ownsRow w.heap.size 55 2 ov n cells
  oc : ∀ i, i < n → ∃ s da dn dc, cells[i * 2]? = some (.string s) ∧ cells[i * 2 + 1]? = some (.slice da dn dc) ∧ s.size ≤ 1000 ∧ dn ≤ 900000
  left : wr.ownsRow w.heap.size 9 1 lv ls.length (ls.map Value.string)
  sub : ∀ s ∈ ls, s ∈ m.ss
  gr : w.grownBy wr none
theorem FiSt.grown0 {w wr w' : World} {m : Dm} {box : Obj} {ov lv : Value} {n : Nat} {cells : List Value} {ls : List ByteArray} (h : FiSt w wr m box ov lv n cells ls) (hg : wr.grownBy w' none) : FiSt w w' m box ov lv n cells ls := ⟨grown_blk hg h.bx, own1_grown h.out hg, h.oc, own1_grown h.left hg, h.sub, grownBy_trans h.gr hg⟩
theorem FiSt.fs {w wr : World} {m : Dm} {box : Obj} {ov lv : Value} {n : Nat} {cells : List Value} {ls : List ByteArray} (h : FiSt w wr m box ov lv n cells ls) : FsM wr ov n := by
  obtain ⟨oa, c, rfl⟩ := own1_is h.out; refine ⟨oa, c, rfl, fun i hi => ?_⟩; obtain ⟨s, da, dn, dc, k1, k2, k3⟩ := h.oc i hi; obtain ⟨g, h1, h2⟩ := own_cell h.out k1; obtain ⟨g', h1', h2'⟩ := own_cell h.out k2; rw [h1] at h1'; simp only [Option.some.injEq, Addr.mk.injEq, and_true] at h1'; subst h1'; exact ⟨g, 0, s, da, dn, dc, h1, by rw [Nat.zero_add]; exact h2, by rw [Nat.zero_add]; exact h2', k3⟩
theorem ri_at {w : World} {b off n c : Nat} {zs : List Int} (h : RI w (.slice (some ⟨b, off, none⟩) n c) zs) {j : Nat} {z : Int} (hz : zs[j]? = some z) : w.cell? ⟨b, off + j, none⟩ = some (.int .i64 z) := by
  obtain ⟨oa', c', h1, h2, -⟩ := h; simp only [Value.slice.injEq] at h1; obtain ⟨rfl, -, -⟩ := h1; obtain ⟨b', off', e1, e2, -⟩ := h2 j (.int .i64 z) (by rw [List.getElem?_map, hz]; rfl); simp only [Option.some.injEq, Addr.mk.injEq, and_true] at e1; obtain ⟨rfl, rfl⟩ := e1; exact e2
theorem own_takeK {w : World} {B g n cap : Nat} {e : TypeId} {xs : List Value} (h : w.ownsRow B e 1 (.slice (some ⟨g, 0, none⟩) n cap) n xs) (k : Nat) (hk : k ≤ n) : w.drew.ownsRow B e 1 (.slice (some ⟨g, 0, none⟩) k cap) k (xs.take k) := by
  obtain ⟨hl, ⟨h1, -⟩ | ⟨g', cap', cur, h1, hb, hg, hc, hm, hs, ht⟩⟩ := h
  · cases h1
  · simp only [Value.slice.injEq, Option.some.injEq, Addr.mk.injEq, and_true, true_and] at h1; obtain ⟨rfl, rfl⟩ := h1; refine ⟨by rw [List.length_take]; omega, .inr ⟨g, cap, cur, rfl, hb, hg, by omega, hm, hs, ?_⟩⟩; rw [← ht, List.take_take, Nat.mul_one, Nat.mul_one, Nat.min_eq_left hk]
theorem own_dropK {w : World} {B g n cap : Nat} {e : TypeId} {xs : List Value} (h : w.ownsRow B e 1 (.slice (some ⟨g, 0, none⟩) n cap) n xs) (k : Nat) (hn : n ≤ cap) : CellsT w.drew e (if cap = k + 1 then some ⟨g, 0, none⟩ else some ⟨g, k + 1, none⟩) (xs.drop (k + 1)) := by
  have hl := h.1; intro i v hi; rw [List.getElem?_drop] at hi; have hlt := (List.getElem?_eq_some_iff.1 hi).1; rw [if_neg (by omega)]; obtain ⟨cur, hgb⟩ := row_type h (g := g) rfl; obtain ⟨g', h1, h2⟩ := own_cell h hi; simp only [Option.some.injEq, Addr.mk.injEq, and_true] at h1; subst h1; exact ⟨g, k + 1, rfl, h2, cur, _, hgb⟩
theorem FiSt.push {w wr w2 : World} {m : Dm} {cur : Array Value} {ov ov2 lv : Value} {n : Nat} {cells : List Value} {ls : List ByteArray} (h : FiSt w wr m (.cells cur 60 (0, 0)) ov lv n cells ls) (s : ByteArray) (da : Option Addr) (dn dc : Nat) (hz : s.size ≤ 1000 ∧ dn ≤ 900000) (h2 : w2.ownsRow w.heap.size 55 2 ov2 (n + 1) (cells ++ [.string s, .slice da dn dc])) (h3 : wr.grownBy w2 ov.ownBlock) : FiSt w w2 m (.cells cur 60 (0, 0)) ov2 lv (n + 1) (cells ++ [.string s, .slice da dn dc]) ls := by
  have hM : Moves [] [55] wr w2 := Moves.of_row h.out h3; refine ⟨hM.cells h.bx (by decide) (by simp), h2, fun i hi => ?_, own1_kept h.left h3 (fun k hk hc => own_types h.out h.left (by decide) hc hk), h.sub, grownBy_row h.gr h3 (fun _ hg' => own1_base h.out hg')⟩; have hl : cells.length = n * 2 := h.out.1
  rcases Nat.lt_or_ge i n with h9 | h9
  · obtain ⟨s', da', dn', dc', k1, k2, k3⟩ := h.oc i h9; exact ⟨s', da', dn', dc', by rw [List.getElem?_append_left (by omega)]; exact k1, by rw [List.getElem?_append_left (by omega)]; exact k2, k3⟩
  · obtain rfl : i = n := by omega
    exact ⟨s, da, dn, dc, by rw [List.getElem?_append_right (by omega), hl, Nat.sub_self]; rfl, by rw [List.getElem?_append_right (by omega), hl, show i * 2 + 1 - i * 2 = 1 by omega]; rfl, hz⟩
theorem FiSt.turnL {w wr w2 : World} {m : Dm} {cur : Array Value} {ov lv lv2 lv3 : Value} {n q : Nat} {cells xs : List Value} {ls ls2 : List ByteArray} (h : FiSt w wr m (.cells cur 60 (0, 0)) ov lv n cells ls) (h1 : wr.ownsRow w.heap.size 9 1 lv3 q xs) (h2 : w2.ownsRow w.heap.size 9 1 lv2 ls2.length (ls2.map Value.string)) (h3 : wr.grownBy w2 lv3.ownBlock) (hsub : ∀ s ∈ ls2, s ∈ ls) : FiSt w w2 m (.cells cur 60 (0, 0)) ov lv2 n cells ls2 := by
  have hM : Moves [] [9] wr w2 := Moves.of_row h1 h3; exact ⟨hM.cells h.bx (by decide) (by simp), own1_kept h.out h3 (fun k hk hc => own_types h1 h.out (by decide) hc hk), h.oc, h2, fun s hs => h.sub s (hsub s hs), grownBy_row h.gr h3 (fun _ hg' => own1_base h1 hg')⟩
set_option maxRecDepth 20000 in
set_option maxHeartbeats 8000000 in
theorem files_any (v0 v1 v2 : Value) (m : Dm) (N Z L : Nat) (w : World) (h : DirAt w v0 v1 v2 m) (hs : m.Sm N Z L) (hN : N ≤ 900000) (hL : L ≤ 900000) :
    Calls Tryz.prog 40 #[.agg #[v0, v1, v2]] w fun e w' => (∃ (v : Value) (n : Nat), e = .returned v ∧ n ≤ N ∧ FsM w' v n) ∧ w.grownBy w' none := by
  obtain ⟨a0, n0, c0, a1, n1, c1, a2, n2, c2, rfl, rfl, rfl, hn0, hn1, hn2, -⟩ := h.vals; obtain rfl : n0 = n1 := (hn0.symm.trans (hs.eq.trans hn1)); have HD : Hid (DirAt w (.slice a0 n0 c0) (.slice a1 n0 c1) (.slice a2 n2 c2) m ∧ m.Sm N Z L ∧ m.ss.length = n0 ∧ m.zs.length = n0 ∧ m.ds.length = n2) := ⟨h, hs, hn0, hn1, hn2⟩
  have h0N : n0 ≤ N := by rw [← hn0]; exact hs.ns
  have h2Z : n2 ≤ Z + 1 := by rw [← hn2]; exact hs.nd
  obtain ⟨X1, hX1⟩ : ∃ y, (((w.alloc (.cells #[.slice a0 n0 c0, .slice a1 n0 c1, .slice a2 n2 c2] 60)).alloc (.cells #[] 55)).alloc (.cells #[] 9)) = y := ⟨_, rfl⟩
  have e1 : (w.alloc (.cells #[.slice a0 n0 c0, .slice a1 n0 c1, .slice a2 n2 c2] 60)).heap.size = w.heap.size + 1 := by simp
  have e2 : ((w.alloc (.cells #[.slice a0 n0 c0, .slice a1 n0 c1, .slice a2 n2 c2] 60)).alloc (.cells #[] 55)).heap.size = w.heap.size + 1 + 1 := by simp
  have HX : Hid (w.grownBy X1 none ∧ X1.heap[w.heap.size]? = some (.cells #[.slice a0 n0 c0, .slice a1 n0 c1, .slice a2 n2 c2] 60 (0, 0)) ∧ X1.ownsRow w.heap.size 55 2 (.slice (some ⟨w.heap.size + 1, 0, none⟩) 0 0) 0 [] ∧ X1.ownsRow w.heap.size 9 1 (.slice (some ⟨w.heap.size + 1 + 1, 0, none⟩) 0 0) 0 []) := by
    rw [← hX1]; refine ⟨grownBy_alloc (grownBy_alloc (grownBy_alloc (grownBy_refl _ _) _) _) _, grown_blk (World.grownBy_alloc _ _ none) (grown_blk (World.grownBy_alloc _ _ none) (heap_alloc_new w _)), own1_grown ⟨rfl, .inr ⟨w.heap.size + 1, 0, _, rfl, by omega, by rw [← e1]; exact heap_alloc_new _ _, Nat.le_refl _, Nat.zero_le _, rfl, rfl⟩⟩ (World.grownBy_alloc _ _ none), ⟨rfl, .inr ⟨w.heap.size + 1 + 1, 0, _, rfl, by omega, by rw [← e2]; exact heap_alloc_new _ _, Nat.le_refl _, Nat.zero_le _, rfl, rfl⟩⟩⟩
  have k0 : X1.cell? ⟨w.heap.size, 0, none⟩ = some (.slice a0 n0 c0) := (zCr HX.out.2.1).trans rfl
  have HSRC : Hid (CellsT X1 9 a0 (m.ss.map Value.string)) := by
    obtain ⟨oa9, c9, h8, h9, -⟩ := h.s.grown0 HX.out.1; simp only [Value.slice.injEq] at h8; rw [h8.1]; exact h9
  clear h hs hn0 hn1 hn2 e1 e2
  go_enter Tryz.func40, Tryz.ntmps40
  have hXs : w.heap.size ≤ X1.heap.size := HX.out.1.size
  go_upto_region 3 with (at_builtin; (try rw [hX1]); refine wpList_appS rfl _ _ 52 rfl w.heap.size 9 Tryz.underlying52 Tryz.infoStr rfl _ 0 [] rfl ?ha a0 n0 c0 (m.ss.map Value.string) rfl ?hb ?hc ?hd ?he ?hf ?hg ?_)
  case ha => try rw [hX1]
             exact HX.out.2.2.2
  case hb => rw [List.length_map]; exact HD.out.2.2.1
  case hc => try rw [hX1]
             exact HSRC.out
  case hd => simp [Value.oneCell']
  case he => omega
  case hf => decide
  case hg => try rw [hX1]
             exact hXs
  intro la lc w2 h2 h3
  try rw [hX1] at h3
  try rw [Nat.zero_add] at h2 ⊢
  try rw [List.nil_append] at h2
  have HS0 : Hid (FiSt w w2 m (.cells #[.slice a0 n0 c0, .slice a1 n0 c1, .slice a2 n2 c2] 60 (0, 0)) (.slice (some ⟨w.heap.size + 1, 0, none⟩) 0 0) (.slice la n0 lc) 0 [] m.ss) := by
    have hM : Moves [] [9] X1 w2 := Moves.of_row HX.out.2.2.2 h3; exact ⟨hM.cells HX.out.2.1 (by decide) (by simp), own1_kept HX.out.2.2.1 h3 (fun k hk hc => own_types HX.out.2.2.2 HX.out.2.2.1 (by decide) hc hk), fun i hi => by omega, by rw [HD.out.2.2.1]; exact h2, fun s hs => hs, grownBy_row HX.out.1 h3 (fun _ hg' => own1_base HX.out.2.2.2 hg')⟩
  clear h2 h3 HX HSRC k0 hX1 hXs; go_wp2
  try go_frame
  go_loopw [3, 4] (fun ov lv wr => ∃ (n : Nat) (cells : List Value) (ls : List ByteArray), (∃ oa c, ov = .slice oa n c) ∧ (∃ oa c, lv = .slice oa ls.length c) ∧ n + ls.length = n0 ∧ FiSt w wr m (.cells #[.slice a0 n0 c0, .slice a1 n0 c1, .slice a2 n2 c2] 60 (0, 0)) ov lv n cells ls) (fun _ lv _ => lenV lv)
  case atStart => exact ⟨0, [], m.ss, ⟨_, _, rfl⟩, ⟨la, lc, by rw [HD.out.2.2.1]⟩, by rw [Nat.zero_add]; exact HD.out.2.2.1, HS0.out⟩
  case round =>
    obtain ⟨n, cells, ls, ⟨oa, oc, rfl⟩, ⟨la, lc, rfl⟩, hnl, hst⟩ := hrel; clear HS0; obtain ⟨ln, hln⟩ : ∃ y, ls.length = y := ⟨_, rfl⟩; rw [hln] at hst hnl ⊢; have HS : Hid (FiSt w wr m (.cells #[.slice a0 n0 c0, .slice a1 n0 c1, .slice a2 n2 c2] 60 (0, 0)) (.slice oa n oc) (.slice la ln lc) n cells ls ∧ ls.length = ln) := ⟨hst, hln⟩; clear hst hln
    by_cases h0 : ln = 0
    · subst h0; have HF : Hid (FsM wr (.slice oa n oc) n ∧ w.grownBy wr none) := ⟨HS.out.1.fs, HS.out.1.gr⟩; go_wp2; go_ret; exact ⟨⟨_, n, rfl, by omega, HF.out.1⟩, HF.out.2⟩
    · have hl0 : (0 : Int) < (ln : Int) := by omega
      obtain ⟨g, rfl⟩ : ∃ g, la = some ⟨g, 0, none⟩ := by
        have h9 := HS.out.1.left; rw [HS.out.2] at h9
        rcases h9.2 with ⟨h1, h2⟩ | ⟨g, cap', cur, h1, -⟩
        · omega
        · simp only [Value.slice.injEq] at h1; exact ⟨g, h1.1⟩
      go_upto_region 6 with fail
      try go_frame
      obtain ⟨X, hXw⟩ : ∃ y, y = wr := ⟨_, rfl⟩; subst hXw
      go_loopw [5, 19] (fun kv iv wr => ∃ k i : Nat, k < ln ∧ i ≤ ln ∧ kv = .int .i64 (k : Int) ∧ iv = .int .i64 (i : Int) ∧ X.grownBy wr none) (fun _ iv _ => ln - (intOf iv).toNat)
      case atStart => exact ⟨0, 0, by omega, Nat.zero_le _, rfl, rfl, grownBy_refl _ _⟩
      case round =>
        obtain ⟨k, i, hk, hi, rfl, rfl, hgx⟩ := hrel; have HST : Hid (FiSt w wr m (.cells #[.slice a0 n0 c0, .slice a1 n0 c1, .slice a2 n2 c2] 60 (0, 0)) (.slice oa n oc) (.slice (some ⟨g, 0, none⟩) ln lc) n cells ls ∧ ls.length = ln ∧ X.grownBy wr none) := ⟨HS.out.1.grown0 hgx, HS.out.2, hgx⟩; clear hgx; obtain ⟨sk, hsk⟩ : ∃ s, ls[k]? = some s := ⟨_, List.getElem?_eq_getElem (by rw [HS.out.2]; exact hk)⟩
        have hkk : wr.cell? ⟨g, k, none⟩ = some (.string sk) := by
          have h9 := HST.out.1.left; rw [HST.out.2.1] at h9; obtain ⟨g', h1, h2⟩ := own_cell h9 (i := k) (v := .string sk) (by rw [List.getElem?_map, hsk]; rfl); simp only [Option.some.injEq, Addr.mk.injEq, and_true] at h1; rw [h1]; exact h2
        have HSK : Hid (ls[k]? = some sk) := hsk; clear hsk
        have hkI : (k : Int) < (ln : Int) := by omega
        by_cases hlt : i < ln
        · have hltI : (i : Int) < (ln : Int) := by omega
          have v1 : IntKind.i64.wrap ((i : Int) + 1) = (i : Int) + 1 := IntWalk.i64_in _ (by omega); obtain ⟨si, hsi⟩ : ∃ s, ls[i]? = some s := ⟨_, List.getElem?_eq_getElem (by rw [HS.out.2]; exact hlt)⟩
          have hki : wr.cell? ⟨g, i, none⟩ = some (.string si) := by
            have h9 := HST.out.1.left; rw [HST.out.2.1] at h9; obtain ⟨g', h1, h2⟩ := own_cell h9 (i := i) (v := .string si) (by rw [List.getElem?_map, hsi]; rfl); simp only [Option.some.injEq, Addr.mk.injEq, and_true] at h1; rw [h1]; exact h2
          clear hsi
          go_upto_region 8 with fail
          go_cut [30] from 22 to 30 (fun v wx => (∃ bb : Bool, v = .bool bb) ∧ wr.grownBy wx none)
          case first =>
            go_quiet (fail); go_wp2; go_meet
            case rel => exact ⟨⟨_, rfl⟩, ⟨rfl, rfl, rfl, Nat.le_refl _, fun _ _ _ => rfl⟩⟩
          case rest =>
            obtain ⟨⟨bb, rfl⟩, hgc⟩ := hcut; have HGC : Hid (X.grownBy wc none) := grownBy_trans HST.out.2.2 hgc; clear hgc hkk hki
            cases bb
            · go_wp2; go_roundw
              case rel => exact ⟨k, i + 1, hk, by omega, rfl, by simp, HGC.out⟩
              case measure => simp [intOf]; omega
            · go_wp2; go_roundw
              case rel => exact ⟨i, i + 1, hlt, by omega, rfl, by simp, HGC.out⟩
              case measure => simp [intOf]; omega
        · have hltI : ¬ (i : Int) < (ln : Int) := by omega
          have HINS : Hid (InS sk m.ss ∧ sk ∈ m.ss) := by
            have h9 := HST.out.1.sub sk (List.mem_of_getElem? HSK.out); exact ⟨⟨sk, h9, by simp⟩, h9⟩
          go_upto_region 11 with fail
          refine wp_region_Z (fun Y => Y.heap[w.heap.size]? = some (.cells #[.slice a0 n0 c0, .slice a1 n0 c1, .slice a2 n2 c2] 60 (0, 0)) ∧ Y.cell? ⟨g, k, none⟩ = some (.string sk) ∧ RI Y (.slice a1 n0 c1) (m.zs.map (fun z : Nat => (z : Int)))) (fun _ => false) (by kernel_rfl) ?_; have hS : wr.drew.heap[w.heap.size]? = some (.cells #[.slice a0 n0 c0, .slice a1 n0 c1, .slice a2 n2 c2] 60 (0, 0)) ∧ wr.drew.cell? ⟨g, k, none⟩ = some (.string sk) ∧ RI wr.drew (.slice a1 n0 c1) (m.zs.map (fun z : Nat => (z : Int))) := ⟨HST.out.1.bx, hkk, (HD.out.1.grown0 (grownBy_drew HST.out.1.gr)).z⟩; refine zTk 0 ?_; simp only [Act.put, zq1, zq2, zq3]; refine zLs 1 rfl hS (by intro W hW; have z0 : W.cell? ⟨w.heap.size, 1, none⟩ = some (.slice a1 n0 c1) := (zCr hW.1).trans rfl; go_simp; first | done | with_reducible rfl) ?_; simp only [Act.put, zq1, zq2, zq3]; refine zLs 2 rfl hS (by intro W hW; have z0 : W.cell? ⟨w.heap.size, 0, none⟩ = some (.slice a0 n0 c0) := (zCr hW.1).trans rfl; have z1 : W.cell? ⟨w.heap.size, 1, none⟩ = some (.slice a1 n0 c1) := (zCr hW.1).trans rfl; have z2 : W.cell? ⟨w.heap.size, 2, none⟩ = some (.slice a2 n2 c2) := (zCr hW.1).trans rfl; go_simp; first | done | with_reducible rfl) ?_; simp only [Act.put, zq1, zq2, zq3]; refine zTk 3 ?_; simp only [Act.put, zq1, zq2, zq3]; refine zTk 4 ?_; simp only [Act.put, zq1, zq2, zq3]; refine zTk 5 ?_; simp only [Act.put, zq1, zq2, zq3]; refine zLs 6 rfl hS (by intro W hW; have z0 := hW.2.1; go_simp; first | done | with_reducible rfl) ?_; simp only [Act.put, zq1, zq2, zq3]; refine wpAnyZ_one' (i := 7) (by kernel_rfl) rfl (fun K hK => ?_); go_simp; go_at_call 25; refine (dirAt_in (.slice a0 n0 c0) (.slice a1 n0 c1) (.slice a2 n2 c2) m sk wr.drew (HD.out.1.grown0 (grownBy_drew HST.out.1.gr)) (by have := HD.out.2.2.1; omega)).mono ?_; rintro e w5 ⟨ix, rfl, ⟨-, hix, hin⟩, hg5⟩; have hg5 : wr.grownBy w5 none := ⟨hg5.os, hg5.tape, hg5.output, hg5.size, hg5.block⟩; obtain ⟨jx, rfl⟩ := int_nat (hin.2 HINS.out.1)
          have hjx : jx < n0 := by have := HD.out.2.2.1; omega
          have hS5 : w5.heap[w.heap.size]? = some (.cells #[.slice a0 n0 c0, .slice a1 n0 c1, .slice a2 n2 c2] 60 (0, 0)) ∧ w5.cell? ⟨g, k, none⟩ = some (.string sk) ∧ RI w5 (.slice a1 n0 c1) (m.zs.map (fun z : Nat => (z : Int))) := ⟨grown_blk hg5 HST.out.1.bx, ((bcell hg5).1 _ _ (cell_block_lt hkk)).trans hkk, (HD.out.1.grown0 (grownBy_trans HST.out.1.gr hg5)).z⟩; refine hK.out _ _ (fun _ _ => hS5) ?_; clear hK K hS; have hS := hS5; clear hS5; (try simp only [Act.put, zq1, zq2, zq3])
          have hjI : (jx : Int) < (n0 : Int) := by omega
          obtain ⟨zb, zoff, z, hza, hzz, hzc⟩ := hS.2.2.at jx hjx
          obtain ⟨bx, hbx, rfl⟩ : ∃ x : Nat, m.zs[jx]? = some x ∧ z = (x : Int) := by
            rw [List.getElem?_map] at hzz; obtain ⟨x, hx, h9⟩ := Option.map_eq_some_iff.1 hzz; exact ⟨x, hx, h9.symm⟩
          have HS5 : Hid (FiSt w w5 m (.cells #[.slice a0 n0 c0, .slice a1 n0 c1, .slice a2 n2 c2] 60 (0, 0)) (.slice oa n oc) (.slice (some ⟨g, 0, none⟩) ln lc) n cells ls ∧ ls.length = ln) := ⟨HST.out.1.grown0 hg5, HST.out.2.1⟩; have HBX : Hid (m.zs[jx]? = some bx ∧ (m.zs.map (fun z : Nat => (z : Int)))[jx]? = some (bx : Int)) := ⟨hbx, hzz⟩; subst hza; clear hg5 hin hix hzz hbx; refine zTk 8 ?_; simp only [Act.put, zq1, zq2, zq3]; refine zLs 9 rfl hS (by intro W hW; have z0 : W.cell? ⟨zb, zoff + jx, none⟩ = some (.int .i64 (bx : Int)) := ri_at hW.2.2 HBX.out.2; go_simp; first | done | with_reducible rfl) ?_; simp only [Act.put, zq1, zq2, zq3]; refine zTk 10 ?_; simp only [Act.put, zq1, zq2, zq3]; refine wpAnyZ_done (by kernel_rfl) ?_ _; have kk5 : w5.cell? ⟨g, k, none⟩ = some (.string sk) := hS.2.1; have kd5 : w5.cell? ⟨w.heap.size, 2, none⟩ = some (.slice a2 n2 c2) := (zCr hS.1).trans rfl; clear hS hzc hkk; have HG6 : Hid (w5.grownBy (w5.alloc (.cells #[.string sk, .slice none 0 0] 55)) none ∧ (w5.alloc (.cells #[.string sk, .slice none 0 0] 55)).heap[w5.heap.size]? = some (.cells #[.string sk, .slice none 0 0] 55 (0, 0))) := ⟨World.grownBy_alloc _ _ none, heap_alloc_new w5 _⟩
          go_upto_region 13 with fail
          generalize w5.alloc (.cells #[.string sk, .slice none 0 0] 55) = W6 at HG6 ⊢; have kd6 : W6.cell? ⟨w.heap.size, 2, none⟩ = some (.slice a2 n2 c2) := ((bcell HG6.out.1).1 _ _ (cell_block_lt kd5)).trans kd5; have kf6 : W6.cell? ⟨w5.heap.size, 1, none⟩ = some (.slice none 0 0) := (zCr HG6.out.2).trans rfl
          have kg6 : W6.frozen? ⟨w5.heap.size, 1, none⟩ = false := by simp [World.frozen?, HG6.out.2]
          have hw6 : w5.heap.size < W6.heap.size := (Array.getElem?_eq_some_iff.1 HG6.out.2).1; clear kk5 kd5
          go_upto_if 52 with fail
          go_cut [] from 48 to 60 (fun wx => ∃ da dn dc, dn ≤ 900000 ∧ w5.grownBy wx none ∧ wx.heap[w5.heap.size]? = some (.cells #[.string sk, .slice da dn dc] 55 (0, 0)))
          case first =>
            by_cases hb2 : bx < n2
            · have hb2I : (bx : Int) < (n2 : Int) := by omega
              obtain ⟨db, doff, u, dd, hda, hdd, kq, hbv⟩ := (HD.out.1.d.grown0 (grownBy_trans HS5.out.1.gr HG6.out.1)).at bx hb2; subst hda; obtain ⟨ua, uc, hue, hus, -⟩ := hbv.sl; obtain ⟨yn, hyn⟩ : ∃ y, dd.length = y := ⟨_, rfl⟩; rw [hyn] at hue hus; subst hue
              have hyL : yn ≤ L := by rw [← hyn]; exact HD.out.2.1.d dd (List.mem_of_getElem? hdd)
              have HUS : Hid (SlB (W6.alloc (.cells #[] 5)) ua yn dd) := hus.grown0 (World.grownBy_alloc _ _ none); have hwl : w.heap.size < W6.heap.size := cell_block_lt kd6; have hdl : db < W6.heap.size := cell_block_lt kq; have HYN : Hid ((([] : List Nat) ++ dd).length ≤ 900000) := Nat.le_trans (Nat.le_of_eq (by rw [List.nil_append, hyn])) (Nat.le_trans hyL hL); clear hbv hdd hyn hus
              go_wp2_with (at_builtin; refine wpList_app_row (B := W6.heap.size) (v := .slice (some ⟨W6.heap.size, 0, none⟩) 0 0) (L := []) (D := dd) rfl _ _ rfl rfl ⟨by simp, .inl ⟨rfl, _, rfl⟩⟩ rfl HUS.out (by simp; omega) (by simp) ?_)
              intro yv w7 hr1 hr2 hr3; obtain ⟨ya, yc, hye, hycn⟩ := hr1.is; have hg7 : W6.grownBy w7 none := grown_step (World.grownBy_alloc W6 _ none) hr2 (by simp [rowBlk]); have hb7 := grown_blk hg7 HG6.out.2; have kf7 : w7.cell? ⟨w5.heap.size, 1, none⟩ = some (.slice none 0 0) := (zCr hb7).trans rfl
              have kg7 : w7.frozen? ⟨w5.heap.size, 1, none⟩ = false := by simp [World.frozen?, hb7]
              subst hye; have HR7 : Hid (w5.grownBy (w7.setCell ⟨w5.heap.size, 1, none⟩ (.slice ya (([] : List Nat) ++ dd).length yc)) none ∧ (w7.setCell ⟨w5.heap.size, 1, none⟩ (.slice ya (([] : List Nat) ++ dd).length yc)).heap[w5.heap.size]? = some (.cells #[.string sk, .slice ya (([] : List Nat) ++ dd).length yc] 55 (0, 0))) := ⟨grownBy_setNew (grownBy_trans HG6.out.1 hg7) (Nat.le_refl _), (heap_setCell_same w7 _ 1 _ _ _ hb7).trans rfl⟩; clear hr1 hr2 hr3 hg7 hb7 HUS kf6 kg6 kq kd6 hycn; go_wp2; go_meet
              case rel => exact ⟨_, _, _, HYN.out, HR7.out.1, HR7.out.2⟩
            · have hb2I : ¬ (bx : Int) < (n2 : Int) := by omega
              go_wp2; go_meet
              case rel => exact ⟨none, 0, 0, by omega, HG6.out.1, HG6.out.2⟩
          case rest =>
            obtain ⟨W7, hW7⟩ : ∃ y, wc = y := ⟨_, rfl⟩; rw [hW7] at hcut ⊢; obtain ⟨da, dn, dc, hdn9, hg7, hb7⟩ := hcut; have HS7 : Hid (FiSt w W7 m (.cells #[.slice a0 n0 c0, .slice (some ⟨zb, zoff, none⟩) n0 c1, .slice a2 n2 c2] 60 (0, 0)) (.slice oa n oc) (.slice (some ⟨g, 0, none⟩) ln lc) n cells ls ∧ ls.length = ln) := ⟨HS5.out.1.grown0 hg7, HS5.out.2⟩; have y0 : W7.cell? ⟨w5.heap.size, 0, none⟩ = some (.string sk) := (zCr hb7).trans rfl; have y1 : W7.cell? ⟨w5.heap.size, 1, none⟩ = some (.slice da dn dc) := (zCr hb7).trans rfl; have hB7 : w.heap.size ≤ W7.heap.size := HS7.out.1.gr.size; clear hW7 hg7 hb7 HG6 kd6 kf6 kg6 hw6
            go_upto_region 16 with (at_builtin; refine wpList_app2 rfl _ _ 25 rfl w.heap.size 55 Tryz.underlying25 Tryz.infoFile rfl (by decide) (.slice oa n oc) n cells rfl HS7.out.1.out #[.string sk, .slice da dn dc] W7.heap.size rfl rfl rfl rfl (by omega) (by decide) hB7 ?_)
            intro oa2 oc2 w8 h2 h3; have HS8 : Hid (FiSt w w8 m (.cells #[.slice a0 n0 c0, .slice (some ⟨zb, zoff, none⟩) n0 c1, .slice a2 n2 c2] 60 (0, 0)) (.slice oa2 (n + 1) oc2) (.slice (some ⟨g, 0, none⟩) ln lc) (n + 1) (cells ++ [.string sk, .slice da dn dc]) ls ∧ ls.length = ln) := ⟨HS7.out.1.push sk da dn dc ⟨HD.out.2.1.s sk HINS.out.2, hdn9⟩ h2 h3, HS7.out.2⟩; clear h2 h3 y0 y1 HS7
            go_upto_region 16 with fail
            have hlc : ln ≤ lc := by have h9 := HS8.out.1.left; rw [HS8.out.2] at h9; exact own_le h9
            have v9 : IntKind.i64.wrap ((k : Int) + 1) = (k : Int) + 1 := IntWalk.i64_in _ (by omega)
            have t1 : (k : Int) ≤ (lc : Int) := by omega
            have t2 : (k : Int) + 1 ≤ (ln : Int) := by omega
            have t3 : (0 : Int) ≤ (k : Int) + 1 := by omega
            have t4 : ((k : Int) + 1).toNat = k + 1 := by omega
            refine wp_region_Z (fun _ => True) (fun _ => false) (by kernel_rfl) ?_; refine zTk 0 ?_; simp only [Act.put, zq1, zq2, zq3]; refine zTk 1 ?_; simp only [Act.put, zq1, zq2, zq3]; refine zTk 2 ?_; simp only [Act.put, zq1, zq2, zq3]; refine zTk 3 ?_; simp only [Act.put, zq1, zq2, zq3]; refine zTk 4 ?_; simp only [Act.put, zq1, zq2, zq3]; refine zTk 5 ?_; simp only [Act.put, zq1, zq2, zq3]; refine zTk 6 ?_; simp only [Act.put, zq1, zq2, zq3]
            have HRW : Hid (w8.ownsRow w.heap.size 9 1 (.slice (some ⟨g, 0, none⟩) ln lc) ln (ls.map Value.string)) := by
              have h9 := HS8.out.1.left; rw [HS8.out.2] at h9; exact h9
            have hown : w8.drew.ownsRow w.heap.size 9 1 (.slice (some ⟨g, 0, none⟩) k lc) k ((ls.map Value.string).take k) := own_takeK HRW.out k (by omega); obtain ⟨la2, lc2, w9, hrun, h2, h3⟩ := run_appS (P := Tryz.prog) (w := w8.drew) 52 52 w.heap.size 9 Tryz.underlying52 Tryz.infoStr rfl (.slice (some ⟨g, 0, none⟩) k lc) k _ hown (if lc = k + 1 then some ⟨g, 0, none⟩ else some ⟨g, k + 1, none⟩) (ln - (k + 1)) (lc - (k + 1)) ((ls.map Value.string).drop (k + 1)) (by rw [List.length_drop, List.length_map, HS8.out.2]) (own_dropK HRW.out k hlc) (by intro u hu; obtain ⟨s, -, rfl⟩ := List.mem_map.1 (List.mem_of_mem_drop hu); rfl) (by omega) (by decide) HS8.out.1.gr.size; have h3' : w8.grownBy w9 (Value.slice (some ⟨g, 0, none⟩) k lc).ownBlock := ⟨h3.os, h3.tape, h3.output, h3.size, h3.block⟩
            have HS9 : Hid (FiSt w w9 m (.cells #[.slice a0 n0 c0, .slice (some ⟨zb, zoff, none⟩) n0 c1, .slice a2 n2 c2] 60 (0, 0)) (.slice oa2 (n + 1) oc2) (.slice la2 (k + (ln - (k + 1))) lc2) (n + 1) (cells ++ [.string sk, .slice da dn dc]) (ls.take k ++ ls.drop (k + 1)) ∧ (ls.take k ++ ls.drop (k + 1)).length = k + (ln - (k + 1))) := by
              have hl9 : (ls.take k ++ ls.drop (k + 1)).length = k + (ln - (k + 1)) := by rw [List.length_append, List.length_take, List.length_drop, HS8.out.2]; omega
              refine ⟨HS8.out.1.turnL (lv3 := .slice (some ⟨g, 0, none⟩) k lc) (xs := (ls.map Value.string).take k) (q := k) hown ?_ h3' (fun s hs => ?_), hl9⟩
              · rw [hl9, List.map_append, List.map_take, List.map_drop]; exact h2
              · rcases List.mem_append.1 hs with h9 | h9
                · exact List.mem_of_mem_take h9
                · exact List.mem_of_mem_drop h9
            refine wpAnyZ_one' (i := 7) (by kernel_rfl) rfl (fun K hK => ?_); refine step_run (by rfl) (.tmp 67) (.tmp 71) 52 (by rfl) _ _ (by rfl) (by rfl) hrun ?_; refine hK.out _ _ (fun _ _ => trivial) ?_; clear hK K hrun h2 h3 h3' hown HRW; (try simp only [Act.put, zq1, zq2, zq3]); refine zTk 8 ?_; simp only [Act.put, zq1, zq2, zq3]; refine wpAnyZ_done (by kernel_rfl) ?_ _; go_wp2; go_roundw
            case rel => exact ⟨n + 1, _, _, ⟨_, _, rfl⟩, ⟨la2, lc2, by rw [HS9.out.2]⟩, by rw [HS9.out.2]; omega, HS9.out.1⟩
            case measure => simp [lenV]; omega
theorem MkAt.nowCells {w : World} {B : Bs} {d : Nat} {M : Mk} {N Z L Q : Nat} (h : MkAt w B d M N Z L Q) : ∃ a3 b3 c3 a4 b4 c4 a5 b5 c5, w.cell? ⟨d, 3, none⟩ = some (.slice a3 b3 c3) ∧ w.cell? ⟨d, 4, none⟩ = some (.slice a4 b4 c4) ∧ w.cell? ⟨d, 5, none⟩ = some (.slice a5 b5 c5) ∧ DirAt w (.slice a3 b3 c3) (.slice a4 b4 c4) (.slice a5 b5 c5) M.mn := by
  obtain ⟨a3, b3, c3, a4, b4, c4, a5, b5, c5, e3, e4, e5, -⟩ := h.now.vals; have hb := h.box; rw [Mk.box, e3, e4, e5] at hb; have hn := h.now; rw [e3, e4, e5] at hn; exact ⟨a3, b3, c3, a4, b4, c4, a5, b5, c5, (zCr hb).trans rfl, (zCr hb).trans rfl, (zCr hb).trans rfl, hn⟩
theorem Live_any (d : Nat) (B : Bs) (N Z L Q : Nat) (M : Mk) (w : World) (h : MkAt w B d M N Z L Q) (hN : N ≤ 900000) (hL : L ≤ 900000) :
    Calls Tryz.prog 28 #[.pointer (some ⟨d, 0, none⟩)] w fun e w' => (∃ (v : Value) (n : Nat), e = .returned v ∧ n ≤ N ∧ FsM w' v n) ∧ w.grownBy w' none := by
  obtain ⟨a3, b3, c3, a4, b4, c4, a5, b5, c5, k3, k4, k5, hn⟩ := h.nowCells; have HC : Hid (Calls _ _ _ _ _) := files_any (.slice a3 b3 c3) (.slice a4 b4 c4) (.slice a5 b5 c5) M.mn N Z L w hn h.smn hN hL; clear h hn
  go_enter Tryz.func28, Tryz.ntmps28
  go_wp2_with fail; refine HC.out.mono ?_; rintro e w1 ⟨⟨v, n, rfl, h1, h2⟩, hg⟩; obtain ⟨oa, c, rfl, -⟩ := id h2; have HF : Hid (FsM w1 (.slice oa n c) n ∧ w.grownBy w1 none) := ⟨h2, hg⟩; clear h2 hg; go_wp2; go_ret; exact ⟨⟨_, n, rfl, h1, HF.out.1⟩, HF.out.2⟩
def FOk (kd a : Int) (nm : ByteArray) (dn L : Nat) (m : Dm) : Prop := (kd ≠ 1 → kd ≠ 7 → InS nm m.ss) ∧ (kd = 2 → 0 ≤ a ∧ a + (dn : Int) ≤ 65536) ∧ (kd = 3 → 0 ≤ a ∧ a ≤ (L : Int))
theorem drewN_gr0 (w : World) (n : Nat) : w.grownBy (w.drewN n) none := ⟨rfl, rfl, rfl, Nat.le_refl _, fun _ _ _ => rfl⟩
set_option maxRecDepth 20000 in
set_option maxHeartbeats 8000000 in
theorem fault7_any (d : Nat) (B : Bs) (N Z L Q : Nat) (M : Mk) (a : Int) (nm tn : ByteArray) (da : Option Addr) (dn dc : Nat) (w : World) (h : MkAt w B d M N Z L Q) (hbd : N ≤ 900000 ∧ L ≤ 900000 ∧ Z < 900000 ∧ nm.size ≤ 1000 ∧ tn.size ≤ 1000 ∧ dn ≤ 900000) :
    Calls Tryz.prog 24 #[.pointer (some ⟨d, 0, none⟩), .agg #[.int .i64 7, .int .i64 a, .string nm, .string tn, .slice da dn dc]] w fun e w' => (∃ code : Int, e = .returned (.int .i64 code) ∧ (code = 0 → FOk 7 a nm dn L M.mn)) ∧ w.grownBy w' none := by
  obtain ⟨hN, hL, hZ, hsn, hst, hdn⟩ := hbd; obtain ⟨a3, b3, c3, a4, b4, c4, a5, b5, c5, k3, k4, k5, hn⟩ := h.nowCells; have hdl : d < w.heap.size := cell_block_lt k3; have kcap := h.cap8.1; have hss : M.mn.ss.length ≤ N := h.smn.ns
  have hb34 : M.mn.ss.length = b3 ∧ M.mn.zs.length = b4 ∧ M.mn.ds.length = b5 := by
    obtain ⟨_, _, _, _, _, _, _, _, _, e1, e2, e3, f1, f2, f3, -⟩ := hn.vals; simp only [Value.slice.injEq] at e1 e2 e3; exact ⟨by omega, by omega, by omega⟩
  obtain rfl : b3 = b4 := by have := h.smn.eq; omega
  have HSM : Hid (M.mn.Sm N Z L ∧ M.mn.ss.length = b3 ∧ M.mn.zs.length = b3 ∧ M.mn.ds.length = b5) := ⟨h.smn, hb34⟩
  have h5Z : b5 ≤ Z + 1 := by have := h.smn.nd; omega
  have e1 : (w.alloc (.cells #[.int .i64 7, .int .i64 a, .string nm, .string tn, .slice da dn dc] 33)).heap.size = w.heap.size + 1 := by simp
  have hg2 : w.grownBy ((w.alloc (.cells #[.int .i64 7, .int .i64 a, .string nm, .string tn, .slice da dn dc] 33)).alloc (.cells #[.slice a3 b3 c3, .slice a4 b3 c4, .slice a5 b5 c5] 60)) none := grownBy_alloc (grownBy_alloc (grownBy_refl _ _) _) _
  have HB2 : Hid (((w.alloc (.cells #[.int .i64 7, .int .i64 a, .string nm, .string tn, .slice da dn dc] 33)).alloc (.cells #[.slice a3 b3 c3, .slice a4 b3 c4, .slice a5 b5 c5] 60)).heap[w.heap.size]? = some (.cells #[.int .i64 7, .int .i64 a, .string nm, .string tn, .slice da dn dc] 33 (0, 0)) ∧ ((w.alloc (.cells #[.int .i64 7, .int .i64 a, .string nm, .string tn, .slice da dn dc] 33)).alloc (.cells #[.slice a3 b3 c3, .slice a4 b3 c4, .slice a5 b5 c5] 60)).heap[w.heap.size + 1]? = some (.cells #[.slice a3 b3 c3, .slice a4 b3 c4, .slice a5 b5 c5] 60 (0, 0))) := by
    refine ⟨grown_blk (World.grownBy_alloc _ _ none) (heap_alloc_new w _), ?_⟩; rw [← e1]; exact heap_alloc_new _ _
  have HD : Hid (DirAt w (.slice a3 b3 c3) (.slice a4 b3 c4) (.slice a5 b5 c5) M.mn) := hn; have HC : Hid (Calls _ _ _ _ _) := dirAt_in (.slice a3 b3 c3) (.slice a4 b3 c4) (.slice a5 b5 c5) M.mn nm ((w.alloc (.cells #[.int .i64 7, .int .i64 a, .string nm, .string tn, .slice da dn dc] 33)).alloc (.cells #[.slice a3 b3 c3, .slice a4 b3 c4, .slice a5 b5 c5] 60)) (hn.grown0 hg2) (by omega); have HG2 : Hid (w.grownBy ((w.alloc (.cells #[.int .i64 7, .int .i64 a, .string nm, .string tn, .slice da dn dc] 33)).alloc (.cells #[.slice a3 b3 c3, .slice a4 b3 c4, .slice a5 b5 c5] 60)) none) := hg2; clear h hn hg2 e1 hb34
  go_enter Tryz.func24, Tryz.ntmps24
  go_wp2_with fail; refine HC.out.mono ?_; rintro e w1 ⟨ix, rfl, ⟨hi1, hi2, hin⟩, hg1⟩; have HB1 : Hid ((w1.heap[w.heap.size]? = some (.cells #[.int .i64 7, .int .i64 a, .string nm, .string tn, .slice da dn dc] 33 (0, 0)) ∧ w1.heap[w.heap.size + 1]? = some (.cells #[.slice a3 b3 c3, .slice a4 b3 c4, .slice a5 b5 c5] 60 (0, 0))) ∧ w.grownBy w1 none) := ⟨⟨grown_blk hg1 HB2.out.1, grown_blk hg1 HB2.out.2⟩, grownBy_trans HG2.out hg1⟩; have HIN : Hid (0 ≤ ix ↔ InS nm M.mn.ss) := hin; have kc1 : w1.cell? ⟨d, 7, none⟩ = some (.int .i64 M.cap) := ((bcell HB1.out.2).1 _ _ (cell_block_lt kcap)).trans kcap; have po0 : w1.cell? ⟨w.heap.size, 0, none⟩ = some (.int .i64 7) := (zCr HB1.out.1.1).trans rfl; have po1 : w1.cell? ⟨w.heap.size, 1, none⟩ = some (.int .i64 a) := (zCr HB1.out.1.1).trans rfl; have po2 : w1.cell? ⟨w.heap.size, 2, none⟩ = some (.string nm) := (zCr HB1.out.1.1).trans rfl; have po3 : w1.cell? ⟨w.heap.size, 3, none⟩ = some (.string tn) := (zCr HB1.out.1.1).trans rfl; have po4 : w1.cell? ⟨w.heap.size, 4, none⟩ = some (.slice da dn dc) := (zCr HB1.out.1.1).trans rfl; have pl0 : w1.cell? ⟨w.heap.size + 1, 0, none⟩ = some (.slice a3 b3 c3) := (zCr HB1.out.1.2).trans rfl; have pl1 : w1.cell? ⟨w.heap.size + 1, 1, none⟩ = some (.slice a4 b3 c4) := (zCr HB1.out.1.2).trans rfl; have pl2 : w1.cell? ⟨w.heap.size + 1, 2, none⟩ = some (.slice a5 b5 c5) := (zCr HB1.out.1.2).trans rfl; clear HC HB2 HG2 hg1 k3 k4 k5 hin kcap; go_wp2; go_ret; exact ⟨⟨0, rfl, fun _ => ⟨fun _ h9 => absurd rfl h9, fun h9 => by omega, fun h9 => by omega⟩⟩, HB1.out.2⟩
set_option maxRecDepth 20000 in
set_option maxHeartbeats 8000000 in
theorem fault1_any (d : Nat) (B : Bs) (N Z L Q : Nat) (M : Mk) (a : Int) (nm tn : ByteArray) (da : Option Addr) (dn dc : Nat) (w : World) (h : MkAt w B d M N Z L Q) (hbd : N ≤ 900000 ∧ L ≤ 900000 ∧ Z < 900000 ∧ nm.size ≤ 1000 ∧ tn.size ≤ 1000 ∧ dn ≤ 900000) :
    Calls Tryz.prog 24 #[.pointer (some ⟨d, 0, none⟩), .agg #[.int .i64 1, .int .i64 a, .string nm, .string tn, .slice da dn dc]] w fun e w' => (∃ code : Int, e = .returned (.int .i64 code) ∧ (code = 0 → FOk 1 a nm dn L M.mn)) ∧ w.grownBy w' none := by
  obtain ⟨hN, hL, hZ, hsn, hst, hdn⟩ := hbd; obtain ⟨a3, b3, c3, a4, b4, c4, a5, b5, c5, k3, k4, k5, hn⟩ := h.nowCells; have hdl : d < w.heap.size := cell_block_lt k3; have kcap := h.cap8.1; have hss : M.mn.ss.length ≤ N := h.smn.ns
  have hb34 : M.mn.ss.length = b3 ∧ M.mn.zs.length = b4 ∧ M.mn.ds.length = b5 := by
    obtain ⟨_, _, _, _, _, _, _, _, _, e1, e2, e3, f1, f2, f3, -⟩ := hn.vals; simp only [Value.slice.injEq] at e1 e2 e3; exact ⟨by omega, by omega, by omega⟩
  obtain rfl : b3 = b4 := by have := h.smn.eq; omega
  have HSM : Hid (M.mn.Sm N Z L ∧ M.mn.ss.length = b3 ∧ M.mn.zs.length = b3 ∧ M.mn.ds.length = b5) := ⟨h.smn, hb34⟩
  have h5Z : b5 ≤ Z + 1 := by have := h.smn.nd; omega
  have e1 : (w.alloc (.cells #[.int .i64 1, .int .i64 a, .string nm, .string tn, .slice da dn dc] 33)).heap.size = w.heap.size + 1 := by simp
  have hg2 : w.grownBy ((w.alloc (.cells #[.int .i64 1, .int .i64 a, .string nm, .string tn, .slice da dn dc] 33)).alloc (.cells #[.slice a3 b3 c3, .slice a4 b3 c4, .slice a5 b5 c5] 60)) none := grownBy_alloc (grownBy_alloc (grownBy_refl _ _) _) _
  have HB2 : Hid (((w.alloc (.cells #[.int .i64 1, .int .i64 a, .string nm, .string tn, .slice da dn dc] 33)).alloc (.cells #[.slice a3 b3 c3, .slice a4 b3 c4, .slice a5 b5 c5] 60)).heap[w.heap.size]? = some (.cells #[.int .i64 1, .int .i64 a, .string nm, .string tn, .slice da dn dc] 33 (0, 0)) ∧ ((w.alloc (.cells #[.int .i64 1, .int .i64 a, .string nm, .string tn, .slice da dn dc] 33)).alloc (.cells #[.slice a3 b3 c3, .slice a4 b3 c4, .slice a5 b5 c5] 60)).heap[w.heap.size + 1]? = some (.cells #[.slice a3 b3 c3, .slice a4 b3 c4, .slice a5 b5 c5] 60 (0, 0))) := by
    refine ⟨grown_blk (World.grownBy_alloc _ _ none) (heap_alloc_new w _), ?_⟩; rw [← e1]; exact heap_alloc_new _ _
  have HD : Hid (DirAt w (.slice a3 b3 c3) (.slice a4 b3 c4) (.slice a5 b5 c5) M.mn) := hn; have HC : Hid (Calls _ _ _ _ _) := dirAt_in (.slice a3 b3 c3) (.slice a4 b3 c4) (.slice a5 b5 c5) M.mn nm ((w.alloc (.cells #[.int .i64 1, .int .i64 a, .string nm, .string tn, .slice da dn dc] 33)).alloc (.cells #[.slice a3 b3 c3, .slice a4 b3 c4, .slice a5 b5 c5] 60)) (hn.grown0 hg2) (by omega); have HG2 : Hid (w.grownBy ((w.alloc (.cells #[.int .i64 1, .int .i64 a, .string nm, .string tn, .slice da dn dc] 33)).alloc (.cells #[.slice a3 b3 c3, .slice a4 b3 c4, .slice a5 b5 c5] 60)) none) := hg2; clear h hn hg2 e1 hb34
  go_enter Tryz.func24, Tryz.ntmps24
  go_wp2_with fail; refine HC.out.mono ?_; rintro e w1 ⟨ix, rfl, ⟨hi1, hi2, hin⟩, hg1⟩; have HB1 : Hid ((w1.heap[w.heap.size]? = some (.cells #[.int .i64 1, .int .i64 a, .string nm, .string tn, .slice da dn dc] 33 (0, 0)) ∧ w1.heap[w.heap.size + 1]? = some (.cells #[.slice a3 b3 c3, .slice a4 b3 c4, .slice a5 b5 c5] 60 (0, 0))) ∧ w.grownBy w1 none) := ⟨⟨grown_blk hg1 HB2.out.1, grown_blk hg1 HB2.out.2⟩, grownBy_trans HG2.out hg1⟩; have HIN : Hid (0 ≤ ix ↔ InS nm M.mn.ss) := hin; have kc1 : w1.cell? ⟨d, 7, none⟩ = some (.int .i64 M.cap) := ((bcell HB1.out.2).1 _ _ (cell_block_lt kcap)).trans kcap; have po0 : w1.cell? ⟨w.heap.size, 0, none⟩ = some (.int .i64 1) := (zCr HB1.out.1.1).trans rfl; have po1 : w1.cell? ⟨w.heap.size, 1, none⟩ = some (.int .i64 a) := (zCr HB1.out.1.1).trans rfl; have po2 : w1.cell? ⟨w.heap.size, 2, none⟩ = some (.string nm) := (zCr HB1.out.1.1).trans rfl; have po3 : w1.cell? ⟨w.heap.size, 3, none⟩ = some (.string tn) := (zCr HB1.out.1.1).trans rfl; have po4 : w1.cell? ⟨w.heap.size, 4, none⟩ = some (.slice da dn dc) := (zCr HB1.out.1.1).trans rfl; have pl0 : w1.cell? ⟨w.heap.size + 1, 0, none⟩ = some (.slice a3 b3 c3) := (zCr HB1.out.1.2).trans rfl; have pl1 : w1.cell? ⟨w.heap.size + 1, 1, none⟩ = some (.slice a4 b3 c4) := (zCr HB1.out.1.2).trans rfl; have pl2 : w1.cell? ⟨w.heap.size + 1, 2, none⟩ = some (.slice a5 b5 c5) := (zCr HB1.out.1.2).trans rfl; clear HC HB2 HG2 hg1 k3 k4 k5 hin kcap; have HGD : Hid (Calls _ _ _ _ _) := L1Good_any nm w1 (by omega); go_wp2_with fail; refine HGD.out.mono ?_; rintro e w2 ⟨rfl, rfl⟩; clear HGD; have HF : Hid (FOk 1 a nm dn L M.mn) := ⟨fun h9 => absurd rfl h9, fun h9 => by omega, fun h9 => by omega⟩
  rcases hgd : goodN nm with _ | _
  · go_wp2; go_ret; exact ⟨⟨_, rfl, fun h9 => by omega⟩, HB1.out.2⟩
  · by_cases h0 : 0 ≤ ix
    · go_wp2; go_ret; exact ⟨⟨_, rfl, fun h9 => by omega⟩, HB1.out.2⟩
    · by_cases h5 : (512 : Int) ≤ (b3 : Int)
      · go_wp2; go_ret; exact ⟨⟨_, rfl, fun h9 => by omega⟩, HB1.out.2⟩
      · go_wp2; go_ret; exact ⟨⟨_, rfl, fun _ => HF.out⟩, HB1.out.2⟩
set_option maxRecDepth 20000 in
set_option maxHeartbeats 8000000 in
theorem fault3_any (d : Nat) (B : Bs) (N Z L Q : Nat) (M : Mk) (a : Int) (nm tn : ByteArray) (da : Option Addr) (dn dc : Nat) (w : World) (h : MkAt w B d M N Z L Q) (hbd : N ≤ 900000 ∧ L ≤ 900000 ∧ Z < 900000 ∧ nm.size ≤ 1000 ∧ tn.size ≤ 1000 ∧ dn ≤ 900000) :
    Calls Tryz.prog 24 #[.pointer (some ⟨d, 0, none⟩), .agg #[.int .i64 3, .int .i64 a, .string nm, .string tn, .slice da dn dc]] w fun e w' => (∃ code : Int, e = .returned (.int .i64 code) ∧ (code = 0 → FOk 3 a nm dn L M.mn)) ∧ w.grownBy w' none := by
  obtain ⟨hN, hL, hZ, hsn, hst, hdn⟩ := hbd; obtain ⟨a3, b3, c3, a4, b4, c4, a5, b5, c5, k3, k4, k5, hn⟩ := h.nowCells; have hdl : d < w.heap.size := cell_block_lt k3; have kcap := h.cap8.1; have hss : M.mn.ss.length ≤ N := h.smn.ns
  have hb34 : M.mn.ss.length = b3 ∧ M.mn.zs.length = b4 ∧ M.mn.ds.length = b5 := by
    obtain ⟨_, _, _, _, _, _, _, _, _, e1, e2, e3, f1, f2, f3, -⟩ := hn.vals; simp only [Value.slice.injEq] at e1 e2 e3; exact ⟨by omega, by omega, by omega⟩
  obtain rfl : b3 = b4 := by have := h.smn.eq; omega
  have HSM : Hid (M.mn.Sm N Z L ∧ M.mn.ss.length = b3 ∧ M.mn.zs.length = b3 ∧ M.mn.ds.length = b5) := ⟨h.smn, hb34⟩
  have h5Z : b5 ≤ Z + 1 := by have := h.smn.nd; omega
  have e1 : (w.alloc (.cells #[.int .i64 3, .int .i64 a, .string nm, .string tn, .slice da dn dc] 33)).heap.size = w.heap.size + 1 := by simp
  have hg2 : w.grownBy ((w.alloc (.cells #[.int .i64 3, .int .i64 a, .string nm, .string tn, .slice da dn dc] 33)).alloc (.cells #[.slice a3 b3 c3, .slice a4 b3 c4, .slice a5 b5 c5] 60)) none := grownBy_alloc (grownBy_alloc (grownBy_refl _ _) _) _
  have HB2 : Hid (((w.alloc (.cells #[.int .i64 3, .int .i64 a, .string nm, .string tn, .slice da dn dc] 33)).alloc (.cells #[.slice a3 b3 c3, .slice a4 b3 c4, .slice a5 b5 c5] 60)).heap[w.heap.size]? = some (.cells #[.int .i64 3, .int .i64 a, .string nm, .string tn, .slice da dn dc] 33 (0, 0)) ∧ ((w.alloc (.cells #[.int .i64 3, .int .i64 a, .string nm, .string tn, .slice da dn dc] 33)).alloc (.cells #[.slice a3 b3 c3, .slice a4 b3 c4, .slice a5 b5 c5] 60)).heap[w.heap.size + 1]? = some (.cells #[.slice a3 b3 c3, .slice a4 b3 c4, .slice a5 b5 c5] 60 (0, 0))) := by
    refine ⟨grown_blk (World.grownBy_alloc _ _ none) (heap_alloc_new w _), ?_⟩; rw [← e1]; exact heap_alloc_new _ _
  have HD : Hid (DirAt w (.slice a3 b3 c3) (.slice a4 b3 c4) (.slice a5 b5 c5) M.mn) := hn; have HC : Hid (Calls _ _ _ _ _) := dirAt_in (.slice a3 b3 c3) (.slice a4 b3 c4) (.slice a5 b5 c5) M.mn nm ((w.alloc (.cells #[.int .i64 3, .int .i64 a, .string nm, .string tn, .slice da dn dc] 33)).alloc (.cells #[.slice a3 b3 c3, .slice a4 b3 c4, .slice a5 b5 c5] 60)) (hn.grown0 hg2) (by omega); have HG2 : Hid (w.grownBy ((w.alloc (.cells #[.int .i64 3, .int .i64 a, .string nm, .string tn, .slice da dn dc] 33)).alloc (.cells #[.slice a3 b3 c3, .slice a4 b3 c4, .slice a5 b5 c5] 60)) none) := hg2; clear h hn hg2 e1 hb34
  go_enter Tryz.func24, Tryz.ntmps24
  go_wp2_with fail; refine HC.out.mono ?_; rintro e w1 ⟨ix, rfl, ⟨hi1, hi2, hin⟩, hg1⟩; have HB1 : Hid ((w1.heap[w.heap.size]? = some (.cells #[.int .i64 3, .int .i64 a, .string nm, .string tn, .slice da dn dc] 33 (0, 0)) ∧ w1.heap[w.heap.size + 1]? = some (.cells #[.slice a3 b3 c3, .slice a4 b3 c4, .slice a5 b5 c5] 60 (0, 0))) ∧ w.grownBy w1 none) := ⟨⟨grown_blk hg1 HB2.out.1, grown_blk hg1 HB2.out.2⟩, grownBy_trans HG2.out hg1⟩; have HIN : Hid (0 ≤ ix ↔ InS nm M.mn.ss) := hin; have kc1 : w1.cell? ⟨d, 7, none⟩ = some (.int .i64 M.cap) := ((bcell HB1.out.2).1 _ _ (cell_block_lt kcap)).trans kcap; have po0 : w1.cell? ⟨w.heap.size, 0, none⟩ = some (.int .i64 3) := (zCr HB1.out.1.1).trans rfl; have po1 : w1.cell? ⟨w.heap.size, 1, none⟩ = some (.int .i64 a) := (zCr HB1.out.1.1).trans rfl; have po2 : w1.cell? ⟨w.heap.size, 2, none⟩ = some (.string nm) := (zCr HB1.out.1.1).trans rfl; have po3 : w1.cell? ⟨w.heap.size, 3, none⟩ = some (.string tn) := (zCr HB1.out.1.1).trans rfl; have po4 : w1.cell? ⟨w.heap.size, 4, none⟩ = some (.slice da dn dc) := (zCr HB1.out.1.1).trans rfl; have pl0 : w1.cell? ⟨w.heap.size + 1, 0, none⟩ = some (.slice a3 b3 c3) := (zCr HB1.out.1.2).trans rfl; have pl1 : w1.cell? ⟨w.heap.size + 1, 1, none⟩ = some (.slice a4 b3 c4) := (zCr HB1.out.1.2).trans rfl; have pl2 : w1.cell? ⟨w.heap.size + 1, 2, none⟩ = some (.slice a5 b5 c5) := (zCr HB1.out.1.2).trans rfl; clear HC HB2 HG2 hg1 k3 k4 k5 hin kcap
  by_cases h0 : ix < 0
  · go_wp2; go_ret; exact ⟨⟨_, rfl, fun h9 => by omega⟩, HB1.out.2⟩
  · have HINS : Hid (InS nm M.mn.ss) := HIN.out.1 (by omega); obtain ⟨jx, rfl⟩ := int_nat (show 0 ≤ ix by omega)
    have hj4 : jx < b3 := by have := HSM.out.2.1; omega
    have hj4I : (jx : Int) < (b3 : Int) := by omega
    obtain ⟨zb, zoff, z, hza, hzz, hzc⟩ := (HD.out.grown0 HB1.out.2).z.at jx hj4
    obtain ⟨bx, hbx, rfl⟩ : ∃ x : Nat, M.mn.zs[jx]? = some x ∧ z = (x : Int) := by
      rw [List.getElem?_map] at hzz; obtain ⟨x, hx, h9⟩ := Option.map_eq_some_iff.1 hzz; exact ⟨x, hx, h9.symm⟩
    subst hza; clear hzz hbx
    go_upto_region 16 with fail
    go_cut [43] from 35 to 43 (fun v wx => (∃ bb : Bool, v = .bool bb ∧ (bb = true → bx < b5)) ∧ w1.grownBy wx none)
    case first =>
      by_cases hb5 : bx < b5
      · have hb5I : (bx : Int) < (b5 : Int) := by omega
        go_quiet (fail); go_wp2; go_meet
        case rel => exact ⟨⟨_, rfl, fun _ => hb5⟩, drewN_gr0 _ _⟩
      · have hb5I : ¬ (bx : Int) < (b5 : Int) := by omega
        go_quiet (fail); go_wp2; go_meet
        case rel => exact ⟨⟨false, rfl, fun h9 => by cases h9⟩, drewN_gr0 _ _⟩
    case rest =>
      obtain ⟨⟨bb, rfl, hbb⟩, hgc⟩ := hcut; obtain ⟨W3, hW3⟩ : ∃ y, wc = y := ⟨_, rfl⟩; rw [hW3] at hgc ⊢; clear hW3; have HB3 : Hid ((W3.heap[w.heap.size]? = some (.cells #[.int .i64 3, .int .i64 a, .string nm, .string tn, .slice da dn dc] 33 (0, 0)) ∧ W3.heap[w.heap.size + 1]? = some (.cells #[.slice a3 b3 c3, .slice (some ⟨zb, zoff, none⟩) b3 c4, .slice a5 b5 c5] 60 (0, 0))) ∧ w.grownBy W3 none) := ⟨⟨grown_blk hgc HB1.out.1.1, grown_blk hgc HB1.out.1.2⟩, grownBy_trans HB1.out.2 hgc⟩; have kc3 : W3.cell? ⟨d, 7, none⟩ = some (.int .i64 M.cap) := ((bcell hgc).1 _ _ (cell_block_lt kc1)).trans kc1; have hz3 : W3.cell? ⟨zb, zoff + jx, none⟩ = some (.int .i64 (bx : Int)) := ((bcell hgc).1 _ _ (cell_block_lt hzc)).trans hzc; clear hgc hzc po0 po1 po2 po3 po4 pl0 pl1 pl2 kc1 HB1; have qo0 : W3.cell? ⟨w.heap.size, 0, none⟩ = some (.int .i64 3) := (zCr HB3.out.1.1).trans rfl; have qo1 : W3.cell? ⟨w.heap.size, 1, none⟩ = some (.int .i64 a) := (zCr HB3.out.1.1).trans rfl; have qo2 : W3.cell? ⟨w.heap.size, 2, none⟩ = some (.string nm) := (zCr HB3.out.1.1).trans rfl; have qo3 : W3.cell? ⟨w.heap.size, 3, none⟩ = some (.string tn) := (zCr HB3.out.1.1).trans rfl; have qo4 : W3.cell? ⟨w.heap.size, 4, none⟩ = some (.slice da dn dc) := (zCr HB3.out.1.1).trans rfl; have ql0 : W3.cell? ⟨w.heap.size + 1, 0, none⟩ = some (.slice a3 b3 c3) := (zCr HB3.out.1.2).trans rfl; have ql1 : W3.cell? ⟨w.heap.size + 1, 1, none⟩ = some (.slice (some ⟨zb, zoff, none⟩) b3 c4) := (zCr HB3.out.1.2).trans rfl; have ql2 : W3.cell? ⟨w.heap.size + 1, 2, none⟩ = some (.slice a5 b5 c5) := (zCr HB3.out.1.2).trans rfl
      go_upto_if 43 with fail
      go_cut [7] from 35 to 53 (fun v wx => (∃ sz : Nat, sz ≤ L ∧ v = .int .i64 (sz : Int)) ∧ W3.grownBy wx none)
      case first =>
        cases bb
        · go_wp2; go_meet
          case rel => exact ⟨⟨0, Nat.zero_le _, rfl⟩, grownBy_refl _ _⟩
        · have hb5 : bx < b5 := hbb rfl
          have hb5I : (bx : Int) < (b5 : Int) := by omega
          obtain ⟨db, doff, u, dd, hda, hdd, kq, hbv⟩ := (HD.out.d.grown0 HB3.out.2).at bx hb5; subst hda; obtain ⟨ua, uc, hue, -⟩ := hbv.sl; obtain ⟨yn, hyn⟩ : ∃ y, dd.length = y := ⟨_, rfl⟩; rw [hyn] at hue; subst hue
          have hyL : yn ≤ L := by rw [← hyn]; exact HSM.out.1.d dd (List.mem_of_getElem? hdd)
          clear hbv hdd hyn hbb
          go_upto_region 17 with fail
          go_quiet (fail); go_wp2; go_meet
          case rel => exact ⟨⟨yn, hyL, rfl⟩, drewN_gr0 _ _⟩
      case rest =>
        obtain ⟨⟨sz, hsz, rfl⟩, hgc⟩ := hcut; obtain ⟨W5, hW5⟩ : ∃ y, wc = y := ⟨_, rfl⟩; rw [hW5] at hgc ⊢; clear hW5; have HB5 : Hid ((W5.heap[w.heap.size]? = some (.cells #[.int .i64 3, .int .i64 a, .string nm, .string tn, .slice da dn dc] 33 (0, 0)) ∧ W5.heap[w.heap.size + 1]? = some (.cells #[.slice a3 b3 c3, .slice (some ⟨zb, zoff, none⟩) b3 c4, .slice a5 b5 c5] 60 (0, 0))) ∧ w.grownBy W5 none) := ⟨⟨grown_blk hgc HB3.out.1.1, grown_blk hgc HB3.out.1.2⟩, grownBy_trans HB3.out.2 hgc⟩; have kc5 : W5.cell? ⟨d, 7, none⟩ = some (.int .i64 M.cap) := ((bcell hgc).1 _ _ (cell_block_lt kc3)).trans kc3; clear hgc hz3 qo0 qo1 qo2 qo3 qo4 ql0 ql1 ql2 kc3 HB3 hbb; have ro0 : W5.cell? ⟨w.heap.size, 0, none⟩ = some (.int .i64 3) := (zCr HB5.out.1.1).trans rfl; have ro1 : W5.cell? ⟨w.heap.size, 1, none⟩ = some (.int .i64 a) := (zCr HB5.out.1.1).trans rfl; have ro2 : W5.cell? ⟨w.heap.size, 2, none⟩ = some (.string nm) := (zCr HB5.out.1.1).trans rfl; have ro3 : W5.cell? ⟨w.heap.size, 3, none⟩ = some (.string tn) := (zCr HB5.out.1.1).trans rfl; have ro4 : W5.cell? ⟨w.heap.size, 4, none⟩ = some (.slice da dn dc) := (zCr HB5.out.1.1).trans rfl; have rl0 : W5.cell? ⟨w.heap.size + 1, 0, none⟩ = some (.slice a3 b3 c3) := (zCr HB5.out.1.2).trans rfl; have rl1 : W5.cell? ⟨w.heap.size + 1, 1, none⟩ = some (.slice (some ⟨zb, zoff, none⟩) b3 c4) := (zCr HB5.out.1.2).trans rfl; have rl2 : W5.cell? ⟨w.heap.size + 1, 2, none⟩ = some (.slice a5 b5 c5) := (zCr HB5.out.1.2).trans rfl
        by_cases hn0 : a < 0
        · go_wp2; go_ret; exact ⟨⟨_, rfl, fun h9 => by omega⟩, HB5.out.2⟩
        · by_cases hn1 : (sz : Int) < a
          · go_wp2; go_ret; exact ⟨⟨_, rfl, fun h9 => by omega⟩, HB5.out.2⟩
          · have HF : Hid (FOk 3 a nm dn L M.mn) := ⟨fun _ _ => HINS.out, fun h9 => by omega, fun _ => ⟨by omega, by omega⟩⟩; go_wp2; go_ret; exact ⟨⟨_, rfl, fun _ => HF.out⟩, HB5.out.2⟩
set_option maxRecDepth 20000 in
set_option maxHeartbeats 8000000 in
theorem fault4_any (d : Nat) (B : Bs) (N Z L Q : Nat) (M : Mk) (a : Int) (nm tn : ByteArray) (da : Option Addr) (dn dc : Nat) (w : World) (h : MkAt w B d M N Z L Q) (hbd : N ≤ 900000 ∧ L ≤ 900000 ∧ Z < 900000 ∧ nm.size ≤ 1000 ∧ tn.size ≤ 1000 ∧ dn ≤ 900000) :
    Calls Tryz.prog 24 #[.pointer (some ⟨d, 0, none⟩), .agg #[.int .i64 4, .int .i64 a, .string nm, .string tn, .slice da dn dc]] w fun e w' => (∃ code : Int, e = .returned (.int .i64 code) ∧ (code = 0 → FOk 4 a nm dn L M.mn)) ∧ w.grownBy w' none := by
  obtain ⟨hN, hL, hZ, hsn, hst, hdn⟩ := hbd; obtain ⟨a3, b3, c3, a4, b4, c4, a5, b5, c5, k3, k4, k5, hn⟩ := h.nowCells; have hdl : d < w.heap.size := cell_block_lt k3; have kcap := h.cap8.1; have hss : M.mn.ss.length ≤ N := h.smn.ns
  have hb34 : M.mn.ss.length = b3 ∧ M.mn.zs.length = b4 ∧ M.mn.ds.length = b5 := by
    obtain ⟨_, _, _, _, _, _, _, _, _, e1, e2, e3, f1, f2, f3, -⟩ := hn.vals; simp only [Value.slice.injEq] at e1 e2 e3; exact ⟨by omega, by omega, by omega⟩
  obtain rfl : b3 = b4 := by have := h.smn.eq; omega
  have HSM : Hid (M.mn.Sm N Z L ∧ M.mn.ss.length = b3 ∧ M.mn.zs.length = b3 ∧ M.mn.ds.length = b5) := ⟨h.smn, hb34⟩
  have h5Z : b5 ≤ Z + 1 := by have := h.smn.nd; omega
  have e1 : (w.alloc (.cells #[.int .i64 4, .int .i64 a, .string nm, .string tn, .slice da dn dc] 33)).heap.size = w.heap.size + 1 := by simp
  have hg2 : w.grownBy ((w.alloc (.cells #[.int .i64 4, .int .i64 a, .string nm, .string tn, .slice da dn dc] 33)).alloc (.cells #[.slice a3 b3 c3, .slice a4 b3 c4, .slice a5 b5 c5] 60)) none := grownBy_alloc (grownBy_alloc (grownBy_refl _ _) _) _
  have HB2 : Hid (((w.alloc (.cells #[.int .i64 4, .int .i64 a, .string nm, .string tn, .slice da dn dc] 33)).alloc (.cells #[.slice a3 b3 c3, .slice a4 b3 c4, .slice a5 b5 c5] 60)).heap[w.heap.size]? = some (.cells #[.int .i64 4, .int .i64 a, .string nm, .string tn, .slice da dn dc] 33 (0, 0)) ∧ ((w.alloc (.cells #[.int .i64 4, .int .i64 a, .string nm, .string tn, .slice da dn dc] 33)).alloc (.cells #[.slice a3 b3 c3, .slice a4 b3 c4, .slice a5 b5 c5] 60)).heap[w.heap.size + 1]? = some (.cells #[.slice a3 b3 c3, .slice a4 b3 c4, .slice a5 b5 c5] 60 (0, 0))) := by
    refine ⟨grown_blk (World.grownBy_alloc _ _ none) (heap_alloc_new w _), ?_⟩; rw [← e1]; exact heap_alloc_new _ _
  have HD : Hid (DirAt w (.slice a3 b3 c3) (.slice a4 b3 c4) (.slice a5 b5 c5) M.mn) := hn; have HC : Hid (Calls _ _ _ _ _) := dirAt_in (.slice a3 b3 c3) (.slice a4 b3 c4) (.slice a5 b5 c5) M.mn nm ((w.alloc (.cells #[.int .i64 4, .int .i64 a, .string nm, .string tn, .slice da dn dc] 33)).alloc (.cells #[.slice a3 b3 c3, .slice a4 b3 c4, .slice a5 b5 c5] 60)) (hn.grown0 hg2) (by omega); have HG2 : Hid (w.grownBy ((w.alloc (.cells #[.int .i64 4, .int .i64 a, .string nm, .string tn, .slice da dn dc] 33)).alloc (.cells #[.slice a3 b3 c3, .slice a4 b3 c4, .slice a5 b5 c5] 60)) none) := hg2; clear h hn hg2 e1 hb34
  go_enter Tryz.func24, Tryz.ntmps24
  go_wp2_with fail; refine HC.out.mono ?_; rintro e w1 ⟨ix, rfl, ⟨hi1, hi2, hin⟩, hg1⟩; have HB1 : Hid ((w1.heap[w.heap.size]? = some (.cells #[.int .i64 4, .int .i64 a, .string nm, .string tn, .slice da dn dc] 33 (0, 0)) ∧ w1.heap[w.heap.size + 1]? = some (.cells #[.slice a3 b3 c3, .slice a4 b3 c4, .slice a5 b5 c5] 60 (0, 0))) ∧ w.grownBy w1 none) := ⟨⟨grown_blk hg1 HB2.out.1, grown_blk hg1 HB2.out.2⟩, grownBy_trans HG2.out hg1⟩; have HIN : Hid (0 ≤ ix ↔ InS nm M.mn.ss) := hin; have kc1 : w1.cell? ⟨d, 7, none⟩ = some (.int .i64 M.cap) := ((bcell HB1.out.2).1 _ _ (cell_block_lt kcap)).trans kcap; have po0 : w1.cell? ⟨w.heap.size, 0, none⟩ = some (.int .i64 4) := (zCr HB1.out.1.1).trans rfl; have po1 : w1.cell? ⟨w.heap.size, 1, none⟩ = some (.int .i64 a) := (zCr HB1.out.1.1).trans rfl; have po2 : w1.cell? ⟨w.heap.size, 2, none⟩ = some (.string nm) := (zCr HB1.out.1.1).trans rfl; have po3 : w1.cell? ⟨w.heap.size, 3, none⟩ = some (.string tn) := (zCr HB1.out.1.1).trans rfl; have po4 : w1.cell? ⟨w.heap.size, 4, none⟩ = some (.slice da dn dc) := (zCr HB1.out.1.1).trans rfl; have pl0 : w1.cell? ⟨w.heap.size + 1, 0, none⟩ = some (.slice a3 b3 c3) := (zCr HB1.out.1.2).trans rfl; have pl1 : w1.cell? ⟨w.heap.size + 1, 1, none⟩ = some (.slice a4 b3 c4) := (zCr HB1.out.1.2).trans rfl; have pl2 : w1.cell? ⟨w.heap.size + 1, 2, none⟩ = some (.slice a5 b5 c5) := (zCr HB1.out.1.2).trans rfl; clear HC HB2 HG2 hg1 k3 k4 k5 hin kcap
  by_cases h0 : ix < 0
  · go_wp2; go_ret; exact ⟨⟨_, rfl, fun h9 => by omega⟩, HB1.out.2⟩
  · have HINS : Hid (InS nm M.mn.ss) := HIN.out.1 (by omega); obtain ⟨jx, rfl⟩ := int_nat (show 0 ≤ ix by omega)
    have hj4 : jx < b3 := by have := HSM.out.2.1; omega
    have hj4I : (jx : Int) < (b3 : Int) := by omega
    obtain ⟨zb, zoff, z, hza, hzz, hzc⟩ := (HD.out.grown0 HB1.out.2).z.at jx hj4
    obtain ⟨bx, hbx, rfl⟩ : ∃ x : Nat, M.mn.zs[jx]? = some x ∧ z = (x : Int) := by
      rw [List.getElem?_map] at hzz; obtain ⟨x, hx, h9⟩ := Option.map_eq_some_iff.1 hzz; exact ⟨x, hx, h9.symm⟩
    subst hza; clear hzz hbx
    go_upto_region 16 with fail
    go_cut [43] from 35 to 43 (fun v wx => (∃ bb : Bool, v = .bool bb ∧ (bb = true → bx < b5)) ∧ w1.grownBy wx none)
    case first =>
      by_cases hb5 : bx < b5
      · have hb5I : (bx : Int) < (b5 : Int) := by omega
        go_quiet (fail); go_wp2; go_meet
        case rel => exact ⟨⟨_, rfl, fun _ => hb5⟩, drewN_gr0 _ _⟩
      · have hb5I : ¬ (bx : Int) < (b5 : Int) := by omega
        go_quiet (fail); go_wp2; go_meet
        case rel => exact ⟨⟨false, rfl, fun h9 => by cases h9⟩, drewN_gr0 _ _⟩
    case rest =>
      obtain ⟨⟨bb, rfl, hbb⟩, hgc⟩ := hcut; obtain ⟨W3, hW3⟩ : ∃ y, wc = y := ⟨_, rfl⟩; rw [hW3] at hgc ⊢; clear hW3; have HB3 : Hid ((W3.heap[w.heap.size]? = some (.cells #[.int .i64 4, .int .i64 a, .string nm, .string tn, .slice da dn dc] 33 (0, 0)) ∧ W3.heap[w.heap.size + 1]? = some (.cells #[.slice a3 b3 c3, .slice (some ⟨zb, zoff, none⟩) b3 c4, .slice a5 b5 c5] 60 (0, 0))) ∧ w.grownBy W3 none) := ⟨⟨grown_blk hgc HB1.out.1.1, grown_blk hgc HB1.out.1.2⟩, grownBy_trans HB1.out.2 hgc⟩; have kc3 : W3.cell? ⟨d, 7, none⟩ = some (.int .i64 M.cap) := ((bcell hgc).1 _ _ (cell_block_lt kc1)).trans kc1; have hz3 : W3.cell? ⟨zb, zoff + jx, none⟩ = some (.int .i64 (bx : Int)) := ((bcell hgc).1 _ _ (cell_block_lt hzc)).trans hzc; clear hgc hzc po0 po1 po2 po3 po4 pl0 pl1 pl2 kc1 HB1; have qo0 : W3.cell? ⟨w.heap.size, 0, none⟩ = some (.int .i64 4) := (zCr HB3.out.1.1).trans rfl; have qo1 : W3.cell? ⟨w.heap.size, 1, none⟩ = some (.int .i64 a) := (zCr HB3.out.1.1).trans rfl; have qo2 : W3.cell? ⟨w.heap.size, 2, none⟩ = some (.string nm) := (zCr HB3.out.1.1).trans rfl; have qo3 : W3.cell? ⟨w.heap.size, 3, none⟩ = some (.string tn) := (zCr HB3.out.1.1).trans rfl; have qo4 : W3.cell? ⟨w.heap.size, 4, none⟩ = some (.slice da dn dc) := (zCr HB3.out.1.1).trans rfl; have ql0 : W3.cell? ⟨w.heap.size + 1, 0, none⟩ = some (.slice a3 b3 c3) := (zCr HB3.out.1.2).trans rfl; have ql1 : W3.cell? ⟨w.heap.size + 1, 1, none⟩ = some (.slice (some ⟨zb, zoff, none⟩) b3 c4) := (zCr HB3.out.1.2).trans rfl; have ql2 : W3.cell? ⟨w.heap.size + 1, 2, none⟩ = some (.slice a5 b5 c5) := (zCr HB3.out.1.2).trans rfl
      go_upto_if 43 with fail
      go_cut [7] from 35 to 53 (fun v wx => (∃ sz : Nat, sz ≤ L ∧ v = .int .i64 (sz : Int)) ∧ W3.grownBy wx none)
      case first =>
        cases bb
        · go_wp2; go_meet
          case rel => exact ⟨⟨0, Nat.zero_le _, rfl⟩, grownBy_refl _ _⟩
        · have hb5 : bx < b5 := hbb rfl
          have hb5I : (bx : Int) < (b5 : Int) := by omega
          obtain ⟨db, doff, u, dd, hda, hdd, kq, hbv⟩ := (HD.out.d.grown0 HB3.out.2).at bx hb5; subst hda; obtain ⟨ua, uc, hue, -⟩ := hbv.sl; obtain ⟨yn, hyn⟩ : ∃ y, dd.length = y := ⟨_, rfl⟩; rw [hyn] at hue; subst hue
          have hyL : yn ≤ L := by rw [← hyn]; exact HSM.out.1.d dd (List.mem_of_getElem? hdd)
          clear hbv hdd hyn hbb
          go_upto_region 17 with fail
          go_quiet (fail); go_wp2; go_meet
          case rel => exact ⟨⟨yn, hyL, rfl⟩, drewN_gr0 _ _⟩
      case rest =>
        obtain ⟨⟨sz, hsz, rfl⟩, hgc⟩ := hcut; obtain ⟨W5, hW5⟩ : ∃ y, wc = y := ⟨_, rfl⟩; rw [hW5] at hgc ⊢; clear hW5; have HB5 : Hid ((W5.heap[w.heap.size]? = some (.cells #[.int .i64 4, .int .i64 a, .string nm, .string tn, .slice da dn dc] 33 (0, 0)) ∧ W5.heap[w.heap.size + 1]? = some (.cells #[.slice a3 b3 c3, .slice (some ⟨zb, zoff, none⟩) b3 c4, .slice a5 b5 c5] 60 (0, 0))) ∧ w.grownBy W5 none) := ⟨⟨grown_blk hgc HB3.out.1.1, grown_blk hgc HB3.out.1.2⟩, grownBy_trans HB3.out.2 hgc⟩; have kc5 : W5.cell? ⟨d, 7, none⟩ = some (.int .i64 M.cap) := ((bcell hgc).1 _ _ (cell_block_lt kc3)).trans kc3; clear hgc hz3 qo0 qo1 qo2 qo3 qo4 ql0 ql1 ql2 kc3 HB3 hbb; have ro0 : W5.cell? ⟨w.heap.size, 0, none⟩ = some (.int .i64 4) := (zCr HB5.out.1.1).trans rfl; have ro1 : W5.cell? ⟨w.heap.size, 1, none⟩ = some (.int .i64 a) := (zCr HB5.out.1.1).trans rfl; have ro2 : W5.cell? ⟨w.heap.size, 2, none⟩ = some (.string nm) := (zCr HB5.out.1.1).trans rfl; have ro3 : W5.cell? ⟨w.heap.size, 3, none⟩ = some (.string tn) := (zCr HB5.out.1.1).trans rfl; have ro4 : W5.cell? ⟨w.heap.size, 4, none⟩ = some (.slice da dn dc) := (zCr HB5.out.1.1).trans rfl; have rl0 : W5.cell? ⟨w.heap.size + 1, 0, none⟩ = some (.slice a3 b3 c3) := (zCr HB5.out.1.2).trans rfl; have rl1 : W5.cell? ⟨w.heap.size + 1, 1, none⟩ = some (.slice (some ⟨zb, zoff, none⟩) b3 c4) := (zCr HB5.out.1.2).trans rfl; have rl2 : W5.cell? ⟨w.heap.size + 1, 2, none⟩ = some (.slice a5 b5 c5) := (zCr HB5.out.1.2).trans rfl; have HF : Hid (FOk 4 a nm dn L M.mn) := ⟨fun _ _ => HINS.out, fun h9 => by omega, fun h9 => by omega⟩; have HGD : Hid (Calls _ _ _ _ _) := L1Good_any tn W5 (by omega); go_wp2_with fail; refine HGD.out.mono ?_; rintro e w2 ⟨rfl, rfl⟩; clear HGD
        rcases hgd : goodN tn with _ | _
        · go_wp2; go_ret; exact ⟨⟨_, rfl, fun h9 => by omega⟩, HB5.out.2⟩
        · go_wp2; go_ret; exact ⟨⟨_, rfl, fun _ => HF.out⟩, HB5.out.2⟩
set_option maxRecDepth 20000 in
set_option maxHeartbeats 8000000 in
theorem fault5_any (d : Nat) (B : Bs) (N Z L Q : Nat) (M : Mk) (a : Int) (nm tn : ByteArray) (da : Option Addr) (dn dc : Nat) (w : World) (h : MkAt w B d M N Z L Q) (hbd : N ≤ 900000 ∧ L ≤ 900000 ∧ Z < 900000 ∧ nm.size ≤ 1000 ∧ tn.size ≤ 1000 ∧ dn ≤ 900000) :
    Calls Tryz.prog 24 #[.pointer (some ⟨d, 0, none⟩), .agg #[.int .i64 5, .int .i64 a, .string nm, .string tn, .slice da dn dc]] w fun e w' => (∃ code : Int, e = .returned (.int .i64 code) ∧ (code = 0 → FOk 5 a nm dn L M.mn)) ∧ w.grownBy w' none := by
  obtain ⟨hN, hL, hZ, hsn, hst, hdn⟩ := hbd; obtain ⟨a3, b3, c3, a4, b4, c4, a5, b5, c5, k3, k4, k5, hn⟩ := h.nowCells; have hdl : d < w.heap.size := cell_block_lt k3; have kcap := h.cap8.1; have hss : M.mn.ss.length ≤ N := h.smn.ns
  have hb34 : M.mn.ss.length = b3 ∧ M.mn.zs.length = b4 ∧ M.mn.ds.length = b5 := by
    obtain ⟨_, _, _, _, _, _, _, _, _, e1, e2, e3, f1, f2, f3, -⟩ := hn.vals; simp only [Value.slice.injEq] at e1 e2 e3; exact ⟨by omega, by omega, by omega⟩
  obtain rfl : b3 = b4 := by have := h.smn.eq; omega
  have HSM : Hid (M.mn.Sm N Z L ∧ M.mn.ss.length = b3 ∧ M.mn.zs.length = b3 ∧ M.mn.ds.length = b5) := ⟨h.smn, hb34⟩
  have h5Z : b5 ≤ Z + 1 := by have := h.smn.nd; omega
  have e1 : (w.alloc (.cells #[.int .i64 5, .int .i64 a, .string nm, .string tn, .slice da dn dc] 33)).heap.size = w.heap.size + 1 := by simp
  have hg2 : w.grownBy ((w.alloc (.cells #[.int .i64 5, .int .i64 a, .string nm, .string tn, .slice da dn dc] 33)).alloc (.cells #[.slice a3 b3 c3, .slice a4 b3 c4, .slice a5 b5 c5] 60)) none := grownBy_alloc (grownBy_alloc (grownBy_refl _ _) _) _
  have HB2 : Hid (((w.alloc (.cells #[.int .i64 5, .int .i64 a, .string nm, .string tn, .slice da dn dc] 33)).alloc (.cells #[.slice a3 b3 c3, .slice a4 b3 c4, .slice a5 b5 c5] 60)).heap[w.heap.size]? = some (.cells #[.int .i64 5, .int .i64 a, .string nm, .string tn, .slice da dn dc] 33 (0, 0)) ∧ ((w.alloc (.cells #[.int .i64 5, .int .i64 a, .string nm, .string tn, .slice da dn dc] 33)).alloc (.cells #[.slice a3 b3 c3, .slice a4 b3 c4, .slice a5 b5 c5] 60)).heap[w.heap.size + 1]? = some (.cells #[.slice a3 b3 c3, .slice a4 b3 c4, .slice a5 b5 c5] 60 (0, 0))) := by
    refine ⟨grown_blk (World.grownBy_alloc _ _ none) (heap_alloc_new w _), ?_⟩; rw [← e1]; exact heap_alloc_new _ _
  have HD : Hid (DirAt w (.slice a3 b3 c3) (.slice a4 b3 c4) (.slice a5 b5 c5) M.mn) := hn; have HC : Hid (Calls _ _ _ _ _) := dirAt_in (.slice a3 b3 c3) (.slice a4 b3 c4) (.slice a5 b5 c5) M.mn nm ((w.alloc (.cells #[.int .i64 5, .int .i64 a, .string nm, .string tn, .slice da dn dc] 33)).alloc (.cells #[.slice a3 b3 c3, .slice a4 b3 c4, .slice a5 b5 c5] 60)) (hn.grown0 hg2) (by omega); have HG2 : Hid (w.grownBy ((w.alloc (.cells #[.int .i64 5, .int .i64 a, .string nm, .string tn, .slice da dn dc] 33)).alloc (.cells #[.slice a3 b3 c3, .slice a4 b3 c4, .slice a5 b5 c5] 60)) none) := hg2; clear h hn hg2 e1 hb34
  go_enter Tryz.func24, Tryz.ntmps24
  go_wp2_with fail; refine HC.out.mono ?_; rintro e w1 ⟨ix, rfl, ⟨hi1, hi2, hin⟩, hg1⟩; have HB1 : Hid ((w1.heap[w.heap.size]? = some (.cells #[.int .i64 5, .int .i64 a, .string nm, .string tn, .slice da dn dc] 33 (0, 0)) ∧ w1.heap[w.heap.size + 1]? = some (.cells #[.slice a3 b3 c3, .slice a4 b3 c4, .slice a5 b5 c5] 60 (0, 0))) ∧ w.grownBy w1 none) := ⟨⟨grown_blk hg1 HB2.out.1, grown_blk hg1 HB2.out.2⟩, grownBy_trans HG2.out hg1⟩; have HIN : Hid (0 ≤ ix ↔ InS nm M.mn.ss) := hin; have kc1 : w1.cell? ⟨d, 7, none⟩ = some (.int .i64 M.cap) := ((bcell HB1.out.2).1 _ _ (cell_block_lt kcap)).trans kcap; have po0 : w1.cell? ⟨w.heap.size, 0, none⟩ = some (.int .i64 5) := (zCr HB1.out.1.1).trans rfl; have po1 : w1.cell? ⟨w.heap.size, 1, none⟩ = some (.int .i64 a) := (zCr HB1.out.1.1).trans rfl; have po2 : w1.cell? ⟨w.heap.size, 2, none⟩ = some (.string nm) := (zCr HB1.out.1.1).trans rfl; have po3 : w1.cell? ⟨w.heap.size, 3, none⟩ = some (.string tn) := (zCr HB1.out.1.1).trans rfl; have po4 : w1.cell? ⟨w.heap.size, 4, none⟩ = some (.slice da dn dc) := (zCr HB1.out.1.1).trans rfl; have pl0 : w1.cell? ⟨w.heap.size + 1, 0, none⟩ = some (.slice a3 b3 c3) := (zCr HB1.out.1.2).trans rfl; have pl1 : w1.cell? ⟨w.heap.size + 1, 1, none⟩ = some (.slice a4 b3 c4) := (zCr HB1.out.1.2).trans rfl; have pl2 : w1.cell? ⟨w.heap.size + 1, 2, none⟩ = some (.slice a5 b5 c5) := (zCr HB1.out.1.2).trans rfl; clear HC HB2 HG2 hg1 k3 k4 k5 hin kcap
  by_cases h0 : ix < 0
  · go_wp2; go_ret; exact ⟨⟨_, rfl, fun h9 => by omega⟩, HB1.out.2⟩
  · have HINS : Hid (InS nm M.mn.ss) := HIN.out.1 (by omega); obtain ⟨jx, rfl⟩ := int_nat (show 0 ≤ ix by omega)
    have hj4 : jx < b3 := by have := HSM.out.2.1; omega
    have hj4I : (jx : Int) < (b3 : Int) := by omega
    obtain ⟨zb, zoff, z, hza, hzz, hzc⟩ := (HD.out.grown0 HB1.out.2).z.at jx hj4
    obtain ⟨bx, hbx, rfl⟩ : ∃ x : Nat, M.mn.zs[jx]? = some x ∧ z = (x : Int) := by
      rw [List.getElem?_map] at hzz; obtain ⟨x, hx, h9⟩ := Option.map_eq_some_iff.1 hzz; exact ⟨x, hx, h9.symm⟩
    subst hza; clear hzz hbx
    go_upto_region 16 with fail
    go_cut [43] from 35 to 43 (fun v wx => (∃ bb : Bool, v = .bool bb ∧ (bb = true → bx < b5)) ∧ w1.grownBy wx none)
    case first =>
      by_cases hb5 : bx < b5
      · have hb5I : (bx : Int) < (b5 : Int) := by omega
        go_quiet (fail); go_wp2; go_meet
        case rel => exact ⟨⟨_, rfl, fun _ => hb5⟩, drewN_gr0 _ _⟩
      · have hb5I : ¬ (bx : Int) < (b5 : Int) := by omega
        go_quiet (fail); go_wp2; go_meet
        case rel => exact ⟨⟨false, rfl, fun h9 => by cases h9⟩, drewN_gr0 _ _⟩
    case rest =>
      obtain ⟨⟨bb, rfl, hbb⟩, hgc⟩ := hcut; obtain ⟨W3, hW3⟩ : ∃ y, wc = y := ⟨_, rfl⟩; rw [hW3] at hgc ⊢; clear hW3; have HB3 : Hid ((W3.heap[w.heap.size]? = some (.cells #[.int .i64 5, .int .i64 a, .string nm, .string tn, .slice da dn dc] 33 (0, 0)) ∧ W3.heap[w.heap.size + 1]? = some (.cells #[.slice a3 b3 c3, .slice (some ⟨zb, zoff, none⟩) b3 c4, .slice a5 b5 c5] 60 (0, 0))) ∧ w.grownBy W3 none) := ⟨⟨grown_blk hgc HB1.out.1.1, grown_blk hgc HB1.out.1.2⟩, grownBy_trans HB1.out.2 hgc⟩; have kc3 : W3.cell? ⟨d, 7, none⟩ = some (.int .i64 M.cap) := ((bcell hgc).1 _ _ (cell_block_lt kc1)).trans kc1; have hz3 : W3.cell? ⟨zb, zoff + jx, none⟩ = some (.int .i64 (bx : Int)) := ((bcell hgc).1 _ _ (cell_block_lt hzc)).trans hzc; clear hgc hzc po0 po1 po2 po3 po4 pl0 pl1 pl2 kc1 HB1; have qo0 : W3.cell? ⟨w.heap.size, 0, none⟩ = some (.int .i64 5) := (zCr HB3.out.1.1).trans rfl; have qo1 : W3.cell? ⟨w.heap.size, 1, none⟩ = some (.int .i64 a) := (zCr HB3.out.1.1).trans rfl; have qo2 : W3.cell? ⟨w.heap.size, 2, none⟩ = some (.string nm) := (zCr HB3.out.1.1).trans rfl; have qo3 : W3.cell? ⟨w.heap.size, 3, none⟩ = some (.string tn) := (zCr HB3.out.1.1).trans rfl; have qo4 : W3.cell? ⟨w.heap.size, 4, none⟩ = some (.slice da dn dc) := (zCr HB3.out.1.1).trans rfl; have ql0 : W3.cell? ⟨w.heap.size + 1, 0, none⟩ = some (.slice a3 b3 c3) := (zCr HB3.out.1.2).trans rfl; have ql1 : W3.cell? ⟨w.heap.size + 1, 1, none⟩ = some (.slice (some ⟨zb, zoff, none⟩) b3 c4) := (zCr HB3.out.1.2).trans rfl; have ql2 : W3.cell? ⟨w.heap.size + 1, 2, none⟩ = some (.slice a5 b5 c5) := (zCr HB3.out.1.2).trans rfl
      go_upto_if 43 with fail
      go_cut [7] from 35 to 53 (fun v wx => (∃ sz : Nat, sz ≤ L ∧ v = .int .i64 (sz : Int)) ∧ W3.grownBy wx none)
      case first =>
        cases bb
        · go_wp2; go_meet
          case rel => exact ⟨⟨0, Nat.zero_le _, rfl⟩, grownBy_refl _ _⟩
        · have hb5 : bx < b5 := hbb rfl
          have hb5I : (bx : Int) < (b5 : Int) := by omega
          obtain ⟨db, doff, u, dd, hda, hdd, kq, hbv⟩ := (HD.out.d.grown0 HB3.out.2).at bx hb5; subst hda; obtain ⟨ua, uc, hue, -⟩ := hbv.sl; obtain ⟨yn, hyn⟩ : ∃ y, dd.length = y := ⟨_, rfl⟩; rw [hyn] at hue; subst hue
          have hyL : yn ≤ L := by rw [← hyn]; exact HSM.out.1.d dd (List.mem_of_getElem? hdd)
          clear hbv hdd hyn hbb
          go_upto_region 17 with fail
          go_quiet (fail); go_wp2; go_meet
          case rel => exact ⟨⟨yn, hyL, rfl⟩, drewN_gr0 _ _⟩
      case rest =>
        obtain ⟨⟨sz, hsz, rfl⟩, hgc⟩ := hcut; obtain ⟨W5, hW5⟩ : ∃ y, wc = y := ⟨_, rfl⟩; rw [hW5] at hgc ⊢; clear hW5; have HB5 : Hid ((W5.heap[w.heap.size]? = some (.cells #[.int .i64 5, .int .i64 a, .string nm, .string tn, .slice da dn dc] 33 (0, 0)) ∧ W5.heap[w.heap.size + 1]? = some (.cells #[.slice a3 b3 c3, .slice (some ⟨zb, zoff, none⟩) b3 c4, .slice a5 b5 c5] 60 (0, 0))) ∧ w.grownBy W5 none) := ⟨⟨grown_blk hgc HB3.out.1.1, grown_blk hgc HB3.out.1.2⟩, grownBy_trans HB3.out.2 hgc⟩; have kc5 : W5.cell? ⟨d, 7, none⟩ = some (.int .i64 M.cap) := ((bcell hgc).1 _ _ (cell_block_lt kc3)).trans kc3; clear hgc hz3 qo0 qo1 qo2 qo3 qo4 ql0 ql1 ql2 kc3 HB3 hbb; have ro0 : W5.cell? ⟨w.heap.size, 0, none⟩ = some (.int .i64 5) := (zCr HB5.out.1.1).trans rfl; have ro1 : W5.cell? ⟨w.heap.size, 1, none⟩ = some (.int .i64 a) := (zCr HB5.out.1.1).trans rfl; have ro2 : W5.cell? ⟨w.heap.size, 2, none⟩ = some (.string nm) := (zCr HB5.out.1.1).trans rfl; have ro3 : W5.cell? ⟨w.heap.size, 3, none⟩ = some (.string tn) := (zCr HB5.out.1.1).trans rfl; have ro4 : W5.cell? ⟨w.heap.size, 4, none⟩ = some (.slice da dn dc) := (zCr HB5.out.1.1).trans rfl; have rl0 : W5.cell? ⟨w.heap.size + 1, 0, none⟩ = some (.slice a3 b3 c3) := (zCr HB5.out.1.2).trans rfl; have rl1 : W5.cell? ⟨w.heap.size + 1, 1, none⟩ = some (.slice (some ⟨zb, zoff, none⟩) b3 c4) := (zCr HB5.out.1.2).trans rfl; have rl2 : W5.cell? ⟨w.heap.size + 1, 2, none⟩ = some (.slice a5 b5 c5) := (zCr HB5.out.1.2).trans rfl; have HF : Hid (FOk 5 a nm dn L M.mn) := ⟨fun _ _ => HINS.out, fun h9 => by omega, fun h9 => by omega⟩; go_wp2; go_ret; exact ⟨⟨_, rfl, fun _ => HF.out⟩, HB5.out.2⟩
set_option maxRecDepth 20000 in
set_option maxHeartbeats 8000000 in
theorem fault6_any (d : Nat) (B : Bs) (N Z L Q : Nat) (M : Mk) (a : Int) (nm tn : ByteArray) (da : Option Addr) (dn dc : Nat) (w : World) (h : MkAt w B d M N Z L Q) (hbd : N ≤ 900000 ∧ L ≤ 900000 ∧ Z < 900000 ∧ nm.size ≤ 1000 ∧ tn.size ≤ 1000 ∧ dn ≤ 900000) :
    Calls Tryz.prog 24 #[.pointer (some ⟨d, 0, none⟩), .agg #[.int .i64 6, .int .i64 a, .string nm, .string tn, .slice da dn dc]] w fun e w' => (∃ code : Int, e = .returned (.int .i64 code) ∧ (code = 0 → FOk 6 a nm dn L M.mn)) ∧ w.grownBy w' none := by
  obtain ⟨hN, hL, hZ, hsn, hst, hdn⟩ := hbd; obtain ⟨a3, b3, c3, a4, b4, c4, a5, b5, c5, k3, k4, k5, hn⟩ := h.nowCells; have hdl : d < w.heap.size := cell_block_lt k3; have kcap := h.cap8.1; have hss : M.mn.ss.length ≤ N := h.smn.ns
  have hb34 : M.mn.ss.length = b3 ∧ M.mn.zs.length = b4 ∧ M.mn.ds.length = b5 := by
    obtain ⟨_, _, _, _, _, _, _, _, _, e1, e2, e3, f1, f2, f3, -⟩ := hn.vals; simp only [Value.slice.injEq] at e1 e2 e3; exact ⟨by omega, by omega, by omega⟩
  obtain rfl : b3 = b4 := by have := h.smn.eq; omega
  have HSM : Hid (M.mn.Sm N Z L ∧ M.mn.ss.length = b3 ∧ M.mn.zs.length = b3 ∧ M.mn.ds.length = b5) := ⟨h.smn, hb34⟩
  have h5Z : b5 ≤ Z + 1 := by have := h.smn.nd; omega
  have e1 : (w.alloc (.cells #[.int .i64 6, .int .i64 a, .string nm, .string tn, .slice da dn dc] 33)).heap.size = w.heap.size + 1 := by simp
  have hg2 : w.grownBy ((w.alloc (.cells #[.int .i64 6, .int .i64 a, .string nm, .string tn, .slice da dn dc] 33)).alloc (.cells #[.slice a3 b3 c3, .slice a4 b3 c4, .slice a5 b5 c5] 60)) none := grownBy_alloc (grownBy_alloc (grownBy_refl _ _) _) _
  have HB2 : Hid (((w.alloc (.cells #[.int .i64 6, .int .i64 a, .string nm, .string tn, .slice da dn dc] 33)).alloc (.cells #[.slice a3 b3 c3, .slice a4 b3 c4, .slice a5 b5 c5] 60)).heap[w.heap.size]? = some (.cells #[.int .i64 6, .int .i64 a, .string nm, .string tn, .slice da dn dc] 33 (0, 0)) ∧ ((w.alloc (.cells #[.int .i64 6, .int .i64 a, .string nm, .string tn, .slice da dn dc] 33)).alloc (.cells #[.slice a3 b3 c3, .slice a4 b3 c4, .slice a5 b5 c5] 60)).heap[w.heap.size + 1]? = some (.cells #[.slice a3 b3 c3, .slice a4 b3 c4, .slice a5 b5 c5] 60 (0, 0))) := by
    refine ⟨grown_blk (World.grownBy_alloc _ _ none) (heap_alloc_new w _), ?_⟩; rw [← e1]; exact heap_alloc_new _ _
  have HD : Hid (DirAt w (.slice a3 b3 c3) (.slice a4 b3 c4) (.slice a5 b5 c5) M.mn) := hn; have HC : Hid (Calls _ _ _ _ _) := dirAt_in (.slice a3 b3 c3) (.slice a4 b3 c4) (.slice a5 b5 c5) M.mn nm ((w.alloc (.cells #[.int .i64 6, .int .i64 a, .string nm, .string tn, .slice da dn dc] 33)).alloc (.cells #[.slice a3 b3 c3, .slice a4 b3 c4, .slice a5 b5 c5] 60)) (hn.grown0 hg2) (by omega); have HG2 : Hid (w.grownBy ((w.alloc (.cells #[.int .i64 6, .int .i64 a, .string nm, .string tn, .slice da dn dc] 33)).alloc (.cells #[.slice a3 b3 c3, .slice a4 b3 c4, .slice a5 b5 c5] 60)) none) := hg2; clear h hn hg2 e1 hb34
  go_enter Tryz.func24, Tryz.ntmps24
  go_wp2_with fail; refine HC.out.mono ?_; rintro e w1 ⟨ix, rfl, ⟨hi1, hi2, hin⟩, hg1⟩; have HB1 : Hid ((w1.heap[w.heap.size]? = some (.cells #[.int .i64 6, .int .i64 a, .string nm, .string tn, .slice da dn dc] 33 (0, 0)) ∧ w1.heap[w.heap.size + 1]? = some (.cells #[.slice a3 b3 c3, .slice a4 b3 c4, .slice a5 b5 c5] 60 (0, 0))) ∧ w.grownBy w1 none) := ⟨⟨grown_blk hg1 HB2.out.1, grown_blk hg1 HB2.out.2⟩, grownBy_trans HG2.out hg1⟩; have HIN : Hid (0 ≤ ix ↔ InS nm M.mn.ss) := hin; have kc1 : w1.cell? ⟨d, 7, none⟩ = some (.int .i64 M.cap) := ((bcell HB1.out.2).1 _ _ (cell_block_lt kcap)).trans kcap; have po0 : w1.cell? ⟨w.heap.size, 0, none⟩ = some (.int .i64 6) := (zCr HB1.out.1.1).trans rfl; have po1 : w1.cell? ⟨w.heap.size, 1, none⟩ = some (.int .i64 a) := (zCr HB1.out.1.1).trans rfl; have po2 : w1.cell? ⟨w.heap.size, 2, none⟩ = some (.string nm) := (zCr HB1.out.1.1).trans rfl; have po3 : w1.cell? ⟨w.heap.size, 3, none⟩ = some (.string tn) := (zCr HB1.out.1.1).trans rfl; have po4 : w1.cell? ⟨w.heap.size, 4, none⟩ = some (.slice da dn dc) := (zCr HB1.out.1.1).trans rfl; have pl0 : w1.cell? ⟨w.heap.size + 1, 0, none⟩ = some (.slice a3 b3 c3) := (zCr HB1.out.1.2).trans rfl; have pl1 : w1.cell? ⟨w.heap.size + 1, 1, none⟩ = some (.slice a4 b3 c4) := (zCr HB1.out.1.2).trans rfl; have pl2 : w1.cell? ⟨w.heap.size + 1, 2, none⟩ = some (.slice a5 b5 c5) := (zCr HB1.out.1.2).trans rfl; clear HC HB2 HG2 hg1 k3 k4 k5 hin kcap
  by_cases h0 : ix < 0
  · go_wp2; go_ret; exact ⟨⟨_, rfl, fun h9 => by omega⟩, HB1.out.2⟩
  · have HINS : Hid (InS nm M.mn.ss) := HIN.out.1 (by omega); obtain ⟨jx, rfl⟩ := int_nat (show 0 ≤ ix by omega)
    have hj4 : jx < b3 := by have := HSM.out.2.1; omega
    have hj4I : (jx : Int) < (b3 : Int) := by omega
    obtain ⟨zb, zoff, z, hza, hzz, hzc⟩ := (HD.out.grown0 HB1.out.2).z.at jx hj4
    obtain ⟨bx, hbx, rfl⟩ : ∃ x : Nat, M.mn.zs[jx]? = some x ∧ z = (x : Int) := by
      rw [List.getElem?_map] at hzz; obtain ⟨x, hx, h9⟩ := Option.map_eq_some_iff.1 hzz; exact ⟨x, hx, h9.symm⟩
    subst hza; clear hzz hbx
    go_upto_region 16 with fail
    go_cut [43] from 35 to 43 (fun v wx => (∃ bb : Bool, v = .bool bb ∧ (bb = true → bx < b5)) ∧ w1.grownBy wx none)
    case first =>
      by_cases hb5 : bx < b5
      · have hb5I : (bx : Int) < (b5 : Int) := by omega
        go_quiet (fail); go_wp2; go_meet
        case rel => exact ⟨⟨_, rfl, fun _ => hb5⟩, drewN_gr0 _ _⟩
      · have hb5I : ¬ (bx : Int) < (b5 : Int) := by omega
        go_quiet (fail); go_wp2; go_meet
        case rel => exact ⟨⟨false, rfl, fun h9 => by cases h9⟩, drewN_gr0 _ _⟩
    case rest =>
      obtain ⟨⟨bb, rfl, hbb⟩, hgc⟩ := hcut; obtain ⟨W3, hW3⟩ : ∃ y, wc = y := ⟨_, rfl⟩; rw [hW3] at hgc ⊢; clear hW3; have HB3 : Hid ((W3.heap[w.heap.size]? = some (.cells #[.int .i64 6, .int .i64 a, .string nm, .string tn, .slice da dn dc] 33 (0, 0)) ∧ W3.heap[w.heap.size + 1]? = some (.cells #[.slice a3 b3 c3, .slice (some ⟨zb, zoff, none⟩) b3 c4, .slice a5 b5 c5] 60 (0, 0))) ∧ w.grownBy W3 none) := ⟨⟨grown_blk hgc HB1.out.1.1, grown_blk hgc HB1.out.1.2⟩, grownBy_trans HB1.out.2 hgc⟩; have kc3 : W3.cell? ⟨d, 7, none⟩ = some (.int .i64 M.cap) := ((bcell hgc).1 _ _ (cell_block_lt kc1)).trans kc1; have hz3 : W3.cell? ⟨zb, zoff + jx, none⟩ = some (.int .i64 (bx : Int)) := ((bcell hgc).1 _ _ (cell_block_lt hzc)).trans hzc; clear hgc hzc po0 po1 po2 po3 po4 pl0 pl1 pl2 kc1 HB1; have qo0 : W3.cell? ⟨w.heap.size, 0, none⟩ = some (.int .i64 6) := (zCr HB3.out.1.1).trans rfl; have qo1 : W3.cell? ⟨w.heap.size, 1, none⟩ = some (.int .i64 a) := (zCr HB3.out.1.1).trans rfl; have qo2 : W3.cell? ⟨w.heap.size, 2, none⟩ = some (.string nm) := (zCr HB3.out.1.1).trans rfl; have qo3 : W3.cell? ⟨w.heap.size, 3, none⟩ = some (.string tn) := (zCr HB3.out.1.1).trans rfl; have qo4 : W3.cell? ⟨w.heap.size, 4, none⟩ = some (.slice da dn dc) := (zCr HB3.out.1.1).trans rfl; have ql0 : W3.cell? ⟨w.heap.size + 1, 0, none⟩ = some (.slice a3 b3 c3) := (zCr HB3.out.1.2).trans rfl; have ql1 : W3.cell? ⟨w.heap.size + 1, 1, none⟩ = some (.slice (some ⟨zb, zoff, none⟩) b3 c4) := (zCr HB3.out.1.2).trans rfl; have ql2 : W3.cell? ⟨w.heap.size + 1, 2, none⟩ = some (.slice a5 b5 c5) := (zCr HB3.out.1.2).trans rfl
      go_upto_if 43 with fail
      go_cut [7] from 35 to 53 (fun v wx => (∃ sz : Nat, sz ≤ L ∧ v = .int .i64 (sz : Int)) ∧ W3.grownBy wx none)
      case first =>
        cases bb
        · go_wp2; go_meet
          case rel => exact ⟨⟨0, Nat.zero_le _, rfl⟩, grownBy_refl _ _⟩
        · have hb5 : bx < b5 := hbb rfl
          have hb5I : (bx : Int) < (b5 : Int) := by omega
          obtain ⟨db, doff, u, dd, hda, hdd, kq, hbv⟩ := (HD.out.d.grown0 HB3.out.2).at bx hb5; subst hda; obtain ⟨ua, uc, hue, -⟩ := hbv.sl; obtain ⟨yn, hyn⟩ : ∃ y, dd.length = y := ⟨_, rfl⟩; rw [hyn] at hue; subst hue
          have hyL : yn ≤ L := by rw [← hyn]; exact HSM.out.1.d dd (List.mem_of_getElem? hdd)
          clear hbv hdd hyn hbb
          go_upto_region 17 with fail
          go_quiet (fail); go_wp2; go_meet
          case rel => exact ⟨⟨yn, hyL, rfl⟩, drewN_gr0 _ _⟩
      case rest =>
        obtain ⟨⟨sz, hsz, rfl⟩, hgc⟩ := hcut; obtain ⟨W5, hW5⟩ : ∃ y, wc = y := ⟨_, rfl⟩; rw [hW5] at hgc ⊢; clear hW5; have HB5 : Hid ((W5.heap[w.heap.size]? = some (.cells #[.int .i64 6, .int .i64 a, .string nm, .string tn, .slice da dn dc] 33 (0, 0)) ∧ W5.heap[w.heap.size + 1]? = some (.cells #[.slice a3 b3 c3, .slice (some ⟨zb, zoff, none⟩) b3 c4, .slice a5 b5 c5] 60 (0, 0))) ∧ w.grownBy W5 none) := ⟨⟨grown_blk hgc HB3.out.1.1, grown_blk hgc HB3.out.1.2⟩, grownBy_trans HB3.out.2 hgc⟩; have kc5 : W5.cell? ⟨d, 7, none⟩ = some (.int .i64 M.cap) := ((bcell hgc).1 _ _ (cell_block_lt kc3)).trans kc3; clear hgc hz3 qo0 qo1 qo2 qo3 qo4 ql0 ql1 ql2 kc3 HB3 hbb; have ro0 : W5.cell? ⟨w.heap.size, 0, none⟩ = some (.int .i64 6) := (zCr HB5.out.1.1).trans rfl; have ro1 : W5.cell? ⟨w.heap.size, 1, none⟩ = some (.int .i64 a) := (zCr HB5.out.1.1).trans rfl; have ro2 : W5.cell? ⟨w.heap.size, 2, none⟩ = some (.string nm) := (zCr HB5.out.1.1).trans rfl; have ro3 : W5.cell? ⟨w.heap.size, 3, none⟩ = some (.string tn) := (zCr HB5.out.1.1).trans rfl; have ro4 : W5.cell? ⟨w.heap.size, 4, none⟩ = some (.slice da dn dc) := (zCr HB5.out.1.1).trans rfl; have rl0 : W5.cell? ⟨w.heap.size + 1, 0, none⟩ = some (.slice a3 b3 c3) := (zCr HB5.out.1.2).trans rfl; have rl1 : W5.cell? ⟨w.heap.size + 1, 1, none⟩ = some (.slice (some ⟨zb, zoff, none⟩) b3 c4) := (zCr HB5.out.1.2).trans rfl; have rl2 : W5.cell? ⟨w.heap.size + 1, 2, none⟩ = some (.slice a5 b5 c5) := (zCr HB5.out.1.2).trans rfl; have HF : Hid (FOk 6 a nm dn L M.mn) := ⟨fun _ _ => HINS.out, fun h9 => by omega, fun h9 => by omega⟩; go_wp2; go_ret; exact ⟨⟨_, rfl, fun _ => HF.out⟩, HB5.out.2⟩
set_option maxRecDepth 20000 in
set_option maxHeartbeats 8000000 in
theorem fault8_any (d : Nat) (B : Bs) (N Z L Q : Nat) (M : Mk) (a : Int) (nm tn : ByteArray) (da : Option Addr) (dn dc : Nat) (w : World) (h : MkAt w B d M N Z L Q) (hbd : N ≤ 900000 ∧ L ≤ 900000 ∧ Z < 900000 ∧ nm.size ≤ 1000 ∧ tn.size ≤ 1000 ∧ dn ≤ 900000) :
    Calls Tryz.prog 24 #[.pointer (some ⟨d, 0, none⟩), .agg #[.int .i64 8, .int .i64 a, .string nm, .string tn, .slice da dn dc]] w fun e w' => (∃ code : Int, e = .returned (.int .i64 code) ∧ (code = 0 → FOk 8 a nm dn L M.mn)) ∧ w.grownBy w' none := by
  obtain ⟨hN, hL, hZ, hsn, hst, hdn⟩ := hbd; obtain ⟨a3, b3, c3, a4, b4, c4, a5, b5, c5, k3, k4, k5, hn⟩ := h.nowCells; have hdl : d < w.heap.size := cell_block_lt k3; have kcap := h.cap8.1; have hss : M.mn.ss.length ≤ N := h.smn.ns
  have hb34 : M.mn.ss.length = b3 ∧ M.mn.zs.length = b4 ∧ M.mn.ds.length = b5 := by
    obtain ⟨_, _, _, _, _, _, _, _, _, e1, e2, e3, f1, f2, f3, -⟩ := hn.vals; simp only [Value.slice.injEq] at e1 e2 e3; exact ⟨by omega, by omega, by omega⟩
  obtain rfl : b3 = b4 := by have := h.smn.eq; omega
  have HSM : Hid (M.mn.Sm N Z L ∧ M.mn.ss.length = b3 ∧ M.mn.zs.length = b3 ∧ M.mn.ds.length = b5) := ⟨h.smn, hb34⟩
  have h5Z : b5 ≤ Z + 1 := by have := h.smn.nd; omega
  have e1 : (w.alloc (.cells #[.int .i64 8, .int .i64 a, .string nm, .string tn, .slice da dn dc] 33)).heap.size = w.heap.size + 1 := by simp
  have hg2 : w.grownBy ((w.alloc (.cells #[.int .i64 8, .int .i64 a, .string nm, .string tn, .slice da dn dc] 33)).alloc (.cells #[.slice a3 b3 c3, .slice a4 b3 c4, .slice a5 b5 c5] 60)) none := grownBy_alloc (grownBy_alloc (grownBy_refl _ _) _) _
  have HB2 : Hid (((w.alloc (.cells #[.int .i64 8, .int .i64 a, .string nm, .string tn, .slice da dn dc] 33)).alloc (.cells #[.slice a3 b3 c3, .slice a4 b3 c4, .slice a5 b5 c5] 60)).heap[w.heap.size]? = some (.cells #[.int .i64 8, .int .i64 a, .string nm, .string tn, .slice da dn dc] 33 (0, 0)) ∧ ((w.alloc (.cells #[.int .i64 8, .int .i64 a, .string nm, .string tn, .slice da dn dc] 33)).alloc (.cells #[.slice a3 b3 c3, .slice a4 b3 c4, .slice a5 b5 c5] 60)).heap[w.heap.size + 1]? = some (.cells #[.slice a3 b3 c3, .slice a4 b3 c4, .slice a5 b5 c5] 60 (0, 0))) := by
    refine ⟨grown_blk (World.grownBy_alloc _ _ none) (heap_alloc_new w _), ?_⟩; rw [← e1]; exact heap_alloc_new _ _
  have HD : Hid (DirAt w (.slice a3 b3 c3) (.slice a4 b3 c4) (.slice a5 b5 c5) M.mn) := hn; have HC : Hid (Calls _ _ _ _ _) := dirAt_in (.slice a3 b3 c3) (.slice a4 b3 c4) (.slice a5 b5 c5) M.mn nm ((w.alloc (.cells #[.int .i64 8, .int .i64 a, .string nm, .string tn, .slice da dn dc] 33)).alloc (.cells #[.slice a3 b3 c3, .slice a4 b3 c4, .slice a5 b5 c5] 60)) (hn.grown0 hg2) (by omega); have HG2 : Hid (w.grownBy ((w.alloc (.cells #[.int .i64 8, .int .i64 a, .string nm, .string tn, .slice da dn dc] 33)).alloc (.cells #[.slice a3 b3 c3, .slice a4 b3 c4, .slice a5 b5 c5] 60)) none) := hg2; clear h hn hg2 e1 hb34
  go_enter Tryz.func24, Tryz.ntmps24
  go_wp2_with fail; refine HC.out.mono ?_; rintro e w1 ⟨ix, rfl, ⟨hi1, hi2, hin⟩, hg1⟩; have HB1 : Hid ((w1.heap[w.heap.size]? = some (.cells #[.int .i64 8, .int .i64 a, .string nm, .string tn, .slice da dn dc] 33 (0, 0)) ∧ w1.heap[w.heap.size + 1]? = some (.cells #[.slice a3 b3 c3, .slice a4 b3 c4, .slice a5 b5 c5] 60 (0, 0))) ∧ w.grownBy w1 none) := ⟨⟨grown_blk hg1 HB2.out.1, grown_blk hg1 HB2.out.2⟩, grownBy_trans HG2.out hg1⟩; have HIN : Hid (0 ≤ ix ↔ InS nm M.mn.ss) := hin; have kc1 : w1.cell? ⟨d, 7, none⟩ = some (.int .i64 M.cap) := ((bcell HB1.out.2).1 _ _ (cell_block_lt kcap)).trans kcap; have po0 : w1.cell? ⟨w.heap.size, 0, none⟩ = some (.int .i64 8) := (zCr HB1.out.1.1).trans rfl; have po1 : w1.cell? ⟨w.heap.size, 1, none⟩ = some (.int .i64 a) := (zCr HB1.out.1.1).trans rfl; have po2 : w1.cell? ⟨w.heap.size, 2, none⟩ = some (.string nm) := (zCr HB1.out.1.1).trans rfl; have po3 : w1.cell? ⟨w.heap.size, 3, none⟩ = some (.string tn) := (zCr HB1.out.1.1).trans rfl; have po4 : w1.cell? ⟨w.heap.size, 4, none⟩ = some (.slice da dn dc) := (zCr HB1.out.1.1).trans rfl; have pl0 : w1.cell? ⟨w.heap.size + 1, 0, none⟩ = some (.slice a3 b3 c3) := (zCr HB1.out.1.2).trans rfl; have pl1 : w1.cell? ⟨w.heap.size + 1, 1, none⟩ = some (.slice a4 b3 c4) := (zCr HB1.out.1.2).trans rfl; have pl2 : w1.cell? ⟨w.heap.size + 1, 2, none⟩ = some (.slice a5 b5 c5) := (zCr HB1.out.1.2).trans rfl; clear HC HB2 HG2 hg1 k3 k4 k5 hin kcap
  by_cases h0 : ix < 0
  · go_wp2; go_ret; exact ⟨⟨_, rfl, fun h9 => by omega⟩, HB1.out.2⟩
  · have HINS : Hid (InS nm M.mn.ss) := HIN.out.1 (by omega); obtain ⟨jx, rfl⟩ := int_nat (show 0 ≤ ix by omega)
    have hj4 : jx < b3 := by have := HSM.out.2.1; omega
    have hj4I : (jx : Int) < (b3 : Int) := by omega
    obtain ⟨zb, zoff, z, hza, hzz, hzc⟩ := (HD.out.grown0 HB1.out.2).z.at jx hj4
    obtain ⟨bx, hbx, rfl⟩ : ∃ x : Nat, M.mn.zs[jx]? = some x ∧ z = (x : Int) := by
      rw [List.getElem?_map] at hzz; obtain ⟨x, hx, h9⟩ := Option.map_eq_some_iff.1 hzz; exact ⟨x, hx, h9.symm⟩
    subst hza; clear hzz hbx
    go_upto_region 16 with fail
    go_cut [43] from 35 to 43 (fun v wx => (∃ bb : Bool, v = .bool bb ∧ (bb = true → bx < b5)) ∧ w1.grownBy wx none)
    case first =>
      by_cases hb5 : bx < b5
      · have hb5I : (bx : Int) < (b5 : Int) := by omega
        go_quiet (fail); go_wp2; go_meet
        case rel => exact ⟨⟨_, rfl, fun _ => hb5⟩, drewN_gr0 _ _⟩
      · have hb5I : ¬ (bx : Int) < (b5 : Int) := by omega
        go_quiet (fail); go_wp2; go_meet
        case rel => exact ⟨⟨false, rfl, fun h9 => by cases h9⟩, drewN_gr0 _ _⟩
    case rest =>
      obtain ⟨⟨bb, rfl, hbb⟩, hgc⟩ := hcut; obtain ⟨W3, hW3⟩ : ∃ y, wc = y := ⟨_, rfl⟩; rw [hW3] at hgc ⊢; clear hW3; have HB3 : Hid ((W3.heap[w.heap.size]? = some (.cells #[.int .i64 8, .int .i64 a, .string nm, .string tn, .slice da dn dc] 33 (0, 0)) ∧ W3.heap[w.heap.size + 1]? = some (.cells #[.slice a3 b3 c3, .slice (some ⟨zb, zoff, none⟩) b3 c4, .slice a5 b5 c5] 60 (0, 0))) ∧ w.grownBy W3 none) := ⟨⟨grown_blk hgc HB1.out.1.1, grown_blk hgc HB1.out.1.2⟩, grownBy_trans HB1.out.2 hgc⟩; have kc3 : W3.cell? ⟨d, 7, none⟩ = some (.int .i64 M.cap) := ((bcell hgc).1 _ _ (cell_block_lt kc1)).trans kc1; have hz3 : W3.cell? ⟨zb, zoff + jx, none⟩ = some (.int .i64 (bx : Int)) := ((bcell hgc).1 _ _ (cell_block_lt hzc)).trans hzc; clear hgc hzc po0 po1 po2 po3 po4 pl0 pl1 pl2 kc1 HB1; have qo0 : W3.cell? ⟨w.heap.size, 0, none⟩ = some (.int .i64 8) := (zCr HB3.out.1.1).trans rfl; have qo1 : W3.cell? ⟨w.heap.size, 1, none⟩ = some (.int .i64 a) := (zCr HB3.out.1.1).trans rfl; have qo2 : W3.cell? ⟨w.heap.size, 2, none⟩ = some (.string nm) := (zCr HB3.out.1.1).trans rfl; have qo3 : W3.cell? ⟨w.heap.size, 3, none⟩ = some (.string tn) := (zCr HB3.out.1.1).trans rfl; have qo4 : W3.cell? ⟨w.heap.size, 4, none⟩ = some (.slice da dn dc) := (zCr HB3.out.1.1).trans rfl; have ql0 : W3.cell? ⟨w.heap.size + 1, 0, none⟩ = some (.slice a3 b3 c3) := (zCr HB3.out.1.2).trans rfl; have ql1 : W3.cell? ⟨w.heap.size + 1, 1, none⟩ = some (.slice (some ⟨zb, zoff, none⟩) b3 c4) := (zCr HB3.out.1.2).trans rfl; have ql2 : W3.cell? ⟨w.heap.size + 1, 2, none⟩ = some (.slice a5 b5 c5) := (zCr HB3.out.1.2).trans rfl
      go_upto_if 43 with fail
      go_cut [7] from 35 to 53 (fun v wx => (∃ sz : Nat, sz ≤ L ∧ v = .int .i64 (sz : Int)) ∧ W3.grownBy wx none)
      case first =>
        cases bb
        · go_wp2; go_meet
          case rel => exact ⟨⟨0, Nat.zero_le _, rfl⟩, grownBy_refl _ _⟩
        · have hb5 : bx < b5 := hbb rfl
          have hb5I : (bx : Int) < (b5 : Int) := by omega
          obtain ⟨db, doff, u, dd, hda, hdd, kq, hbv⟩ := (HD.out.d.grown0 HB3.out.2).at bx hb5; subst hda; obtain ⟨ua, uc, hue, -⟩ := hbv.sl; obtain ⟨yn, hyn⟩ : ∃ y, dd.length = y := ⟨_, rfl⟩; rw [hyn] at hue; subst hue
          have hyL : yn ≤ L := by rw [← hyn]; exact HSM.out.1.d dd (List.mem_of_getElem? hdd)
          clear hbv hdd hyn hbb
          go_upto_region 17 with fail
          go_quiet (fail); go_wp2; go_meet
          case rel => exact ⟨⟨yn, hyL, rfl⟩, drewN_gr0 _ _⟩
      case rest =>
        obtain ⟨⟨sz, hsz, rfl⟩, hgc⟩ := hcut; obtain ⟨W5, hW5⟩ : ∃ y, wc = y := ⟨_, rfl⟩; rw [hW5] at hgc ⊢; clear hW5; have HB5 : Hid ((W5.heap[w.heap.size]? = some (.cells #[.int .i64 8, .int .i64 a, .string nm, .string tn, .slice da dn dc] 33 (0, 0)) ∧ W5.heap[w.heap.size + 1]? = some (.cells #[.slice a3 b3 c3, .slice (some ⟨zb, zoff, none⟩) b3 c4, .slice a5 b5 c5] 60 (0, 0))) ∧ w.grownBy W5 none) := ⟨⟨grown_blk hgc HB3.out.1.1, grown_blk hgc HB3.out.1.2⟩, grownBy_trans HB3.out.2 hgc⟩; have kc5 : W5.cell? ⟨d, 7, none⟩ = some (.int .i64 M.cap) := ((bcell hgc).1 _ _ (cell_block_lt kc3)).trans kc3; clear hgc hz3 qo0 qo1 qo2 qo3 qo4 ql0 ql1 ql2 kc3 HB3 hbb; have ro0 : W5.cell? ⟨w.heap.size, 0, none⟩ = some (.int .i64 8) := (zCr HB5.out.1.1).trans rfl; have ro1 : W5.cell? ⟨w.heap.size, 1, none⟩ = some (.int .i64 a) := (zCr HB5.out.1.1).trans rfl; have ro2 : W5.cell? ⟨w.heap.size, 2, none⟩ = some (.string nm) := (zCr HB5.out.1.1).trans rfl; have ro3 : W5.cell? ⟨w.heap.size, 3, none⟩ = some (.string tn) := (zCr HB5.out.1.1).trans rfl; have ro4 : W5.cell? ⟨w.heap.size, 4, none⟩ = some (.slice da dn dc) := (zCr HB5.out.1.1).trans rfl; have rl0 : W5.cell? ⟨w.heap.size + 1, 0, none⟩ = some (.slice a3 b3 c3) := (zCr HB5.out.1.2).trans rfl; have rl1 : W5.cell? ⟨w.heap.size + 1, 1, none⟩ = some (.slice (some ⟨zb, zoff, none⟩) b3 c4) := (zCr HB5.out.1.2).trans rfl; have rl2 : W5.cell? ⟨w.heap.size + 1, 2, none⟩ = some (.slice a5 b5 c5) := (zCr HB5.out.1.2).trans rfl; have HF : Hid (FOk 8 a nm dn L M.mn) := ⟨fun _ _ => HINS.out, fun h9 => by omega, fun h9 => by omega⟩; go_wp2; go_ret; exact ⟨⟨_, rfl, fun _ => HF.out⟩, HB5.out.2⟩
set_option maxRecDepth 20000 in
set_option maxHeartbeats 8000000 in
theorem fault2_any (d : Nat) (B : Bs) (N Z L Q : Nat) (M : Mk) (a : Int) (nm tn : ByteArray) (da : Option Addr) (dn dc : Nat) (w : World) (h : MkAt w B d M N Z L Q) (hbd : N ≤ 900000 ∧ L ≤ 900000 ∧ Z < 900000 ∧ nm.size ≤ 1000 ∧ tn.size ≤ 1000 ∧ dn ≤ 900000) :
    Calls Tryz.prog 24 #[.pointer (some ⟨d, 0, none⟩), .agg #[.int .i64 2, .int .i64 a, .string nm, .string tn, .slice da dn dc]] w fun e w' => (∃ code : Int, e = .returned (.int .i64 code) ∧ (code = 0 → FOk 2 a nm dn L M.mn)) ∧ w.grownBy w' none := by
  obtain ⟨hN, hL, hZ, hsn, hst, hdn⟩ := hbd; obtain ⟨a3, b3, c3, a4, b4, c4, a5, b5, c5, k3, k4, k5, hn⟩ := h.nowCells; have hdl : d < w.heap.size := cell_block_lt k3; have kcap := h.cap8.1; have hss : M.mn.ss.length ≤ N := h.smn.ns
  have hb34 : M.mn.ss.length = b3 ∧ M.mn.zs.length = b4 ∧ M.mn.ds.length = b5 := by
    obtain ⟨_, _, _, _, _, _, _, _, _, e1, e2, e3, f1, f2, f3, -⟩ := hn.vals; simp only [Value.slice.injEq] at e1 e2 e3; exact ⟨by omega, by omega, by omega⟩
  obtain rfl : b3 = b4 := by have := h.smn.eq; omega
  have HSM : Hid (M.mn.Sm N Z L ∧ M.mn.ss.length = b3 ∧ M.mn.zs.length = b3 ∧ M.mn.ds.length = b5) := ⟨h.smn, hb34⟩
  have h5Z : b5 ≤ Z + 1 := by have := h.smn.nd; omega
  have e1 : (w.alloc (.cells #[.int .i64 2, .int .i64 a, .string nm, .string tn, .slice da dn dc] 33)).heap.size = w.heap.size + 1 := by simp
  have hg2 : w.grownBy ((w.alloc (.cells #[.int .i64 2, .int .i64 a, .string nm, .string tn, .slice da dn dc] 33)).alloc (.cells #[.slice a3 b3 c3, .slice a4 b3 c4, .slice a5 b5 c5] 60)) none := grownBy_alloc (grownBy_alloc (grownBy_refl _ _) _) _
  have HB2 : Hid (((w.alloc (.cells #[.int .i64 2, .int .i64 a, .string nm, .string tn, .slice da dn dc] 33)).alloc (.cells #[.slice a3 b3 c3, .slice a4 b3 c4, .slice a5 b5 c5] 60)).heap[w.heap.size]? = some (.cells #[.int .i64 2, .int .i64 a, .string nm, .string tn, .slice da dn dc] 33 (0, 0)) ∧ ((w.alloc (.cells #[.int .i64 2, .int .i64 a, .string nm, .string tn, .slice da dn dc] 33)).alloc (.cells #[.slice a3 b3 c3, .slice a4 b3 c4, .slice a5 b5 c5] 60)).heap[w.heap.size + 1]? = some (.cells #[.slice a3 b3 c3, .slice a4 b3 c4, .slice a5 b5 c5] 60 (0, 0))) := by
    refine ⟨grown_blk (World.grownBy_alloc _ _ none) (heap_alloc_new w _), ?_⟩; rw [← e1]; exact heap_alloc_new _ _
  have HD : Hid (DirAt w (.slice a3 b3 c3) (.slice a4 b3 c4) (.slice a5 b5 c5) M.mn) := hn; have HC : Hid (Calls _ _ _ _ _) := dirAt_in (.slice a3 b3 c3) (.slice a4 b3 c4) (.slice a5 b5 c5) M.mn nm ((w.alloc (.cells #[.int .i64 2, .int .i64 a, .string nm, .string tn, .slice da dn dc] 33)).alloc (.cells #[.slice a3 b3 c3, .slice a4 b3 c4, .slice a5 b5 c5] 60)) (hn.grown0 hg2) (by omega); have HG2 : Hid (w.grownBy ((w.alloc (.cells #[.int .i64 2, .int .i64 a, .string nm, .string tn, .slice da dn dc] 33)).alloc (.cells #[.slice a3 b3 c3, .slice a4 b3 c4, .slice a5 b5 c5] 60)) none) := hg2; clear h hn hg2 e1 hb34
  go_enter Tryz.func24, Tryz.ntmps24
  go_wp2_with fail; refine HC.out.mono ?_; rintro e w1 ⟨ix, rfl, ⟨hi1, hi2, hin⟩, hg1⟩; have HB1 : Hid ((w1.heap[w.heap.size]? = some (.cells #[.int .i64 2, .int .i64 a, .string nm, .string tn, .slice da dn dc] 33 (0, 0)) ∧ w1.heap[w.heap.size + 1]? = some (.cells #[.slice a3 b3 c3, .slice a4 b3 c4, .slice a5 b5 c5] 60 (0, 0))) ∧ w.grownBy w1 none) := ⟨⟨grown_blk hg1 HB2.out.1, grown_blk hg1 HB2.out.2⟩, grownBy_trans HG2.out hg1⟩; have HIN : Hid (0 ≤ ix ↔ InS nm M.mn.ss) := hin; have kc1 : w1.cell? ⟨d, 7, none⟩ = some (.int .i64 M.cap) := ((bcell HB1.out.2).1 _ _ (cell_block_lt kcap)).trans kcap; have po0 : w1.cell? ⟨w.heap.size, 0, none⟩ = some (.int .i64 2) := (zCr HB1.out.1.1).trans rfl; have po1 : w1.cell? ⟨w.heap.size, 1, none⟩ = some (.int .i64 a) := (zCr HB1.out.1.1).trans rfl; have po2 : w1.cell? ⟨w.heap.size, 2, none⟩ = some (.string nm) := (zCr HB1.out.1.1).trans rfl; have po3 : w1.cell? ⟨w.heap.size, 3, none⟩ = some (.string tn) := (zCr HB1.out.1.1).trans rfl; have po4 : w1.cell? ⟨w.heap.size, 4, none⟩ = some (.slice da dn dc) := (zCr HB1.out.1.1).trans rfl; have pl0 : w1.cell? ⟨w.heap.size + 1, 0, none⟩ = some (.slice a3 b3 c3) := (zCr HB1.out.1.2).trans rfl; have pl1 : w1.cell? ⟨w.heap.size + 1, 1, none⟩ = some (.slice a4 b3 c4) := (zCr HB1.out.1.2).trans rfl; have pl2 : w1.cell? ⟨w.heap.size + 1, 2, none⟩ = some (.slice a5 b5 c5) := (zCr HB1.out.1.2).trans rfl; clear HC HB2 HG2 hg1 k3 k4 k5 hin kcap
  by_cases h0 : ix < 0
  · go_wp2; go_ret; exact ⟨⟨_, rfl, fun h9 => by omega⟩, HB1.out.2⟩
  · have HINS : Hid (InS nm M.mn.ss) := HIN.out.1 (by omega); obtain ⟨jx, rfl⟩ := int_nat (show 0 ≤ ix by omega)
    have hj4 : jx < b3 := by have := HSM.out.2.1; omega
    have hj4I : (jx : Int) < (b3 : Int) := by omega
    obtain ⟨zb, zoff, z, hza, hzz, hzc⟩ := (HD.out.grown0 HB1.out.2).z.at jx hj4
    obtain ⟨bx, hbx, rfl⟩ : ∃ x : Nat, M.mn.zs[jx]? = some x ∧ z = (x : Int) := by
      rw [List.getElem?_map] at hzz; obtain ⟨x, hx, h9⟩ := Option.map_eq_some_iff.1 hzz; exact ⟨x, hx, h9.symm⟩
    subst hza; clear hzz hbx
    go_upto_region 16 with fail
    go_cut [43] from 35 to 43 (fun v wx => (∃ bb : Bool, v = .bool bb ∧ (bb = true → bx < b5)) ∧ w1.grownBy wx none)
    case first =>
      by_cases hb5 : bx < b5
      · have hb5I : (bx : Int) < (b5 : Int) := by omega
        go_quiet (fail); go_wp2; go_meet
        case rel => exact ⟨⟨_, rfl, fun _ => hb5⟩, drewN_gr0 _ _⟩
      · have hb5I : ¬ (bx : Int) < (b5 : Int) := by omega
        go_quiet (fail); go_wp2; go_meet
        case rel => exact ⟨⟨false, rfl, fun h9 => by cases h9⟩, drewN_gr0 _ _⟩
    case rest =>
      obtain ⟨⟨bb, rfl, hbb⟩, hgc⟩ := hcut; obtain ⟨W3, hW3⟩ : ∃ y, wc = y := ⟨_, rfl⟩; rw [hW3] at hgc ⊢; clear hW3; have HB3 : Hid ((W3.heap[w.heap.size]? = some (.cells #[.int .i64 2, .int .i64 a, .string nm, .string tn, .slice da dn dc] 33 (0, 0)) ∧ W3.heap[w.heap.size + 1]? = some (.cells #[.slice a3 b3 c3, .slice (some ⟨zb, zoff, none⟩) b3 c4, .slice a5 b5 c5] 60 (0, 0))) ∧ w.grownBy W3 none) := ⟨⟨grown_blk hgc HB1.out.1.1, grown_blk hgc HB1.out.1.2⟩, grownBy_trans HB1.out.2 hgc⟩; have kc3 : W3.cell? ⟨d, 7, none⟩ = some (.int .i64 M.cap) := ((bcell hgc).1 _ _ (cell_block_lt kc1)).trans kc1; have hz3 : W3.cell? ⟨zb, zoff + jx, none⟩ = some (.int .i64 (bx : Int)) := ((bcell hgc).1 _ _ (cell_block_lt hzc)).trans hzc; clear hgc hzc po0 po1 po2 po3 po4 pl0 pl1 pl2 kc1 HB1; have qo0 : W3.cell? ⟨w.heap.size, 0, none⟩ = some (.int .i64 2) := (zCr HB3.out.1.1).trans rfl; have qo1 : W3.cell? ⟨w.heap.size, 1, none⟩ = some (.int .i64 a) := (zCr HB3.out.1.1).trans rfl; have qo2 : W3.cell? ⟨w.heap.size, 2, none⟩ = some (.string nm) := (zCr HB3.out.1.1).trans rfl; have qo3 : W3.cell? ⟨w.heap.size, 3, none⟩ = some (.string tn) := (zCr HB3.out.1.1).trans rfl; have qo4 : W3.cell? ⟨w.heap.size, 4, none⟩ = some (.slice da dn dc) := (zCr HB3.out.1.1).trans rfl; have ql0 : W3.cell? ⟨w.heap.size + 1, 0, none⟩ = some (.slice a3 b3 c3) := (zCr HB3.out.1.2).trans rfl; have ql1 : W3.cell? ⟨w.heap.size + 1, 1, none⟩ = some (.slice (some ⟨zb, zoff, none⟩) b3 c4) := (zCr HB3.out.1.2).trans rfl; have ql2 : W3.cell? ⟨w.heap.size + 1, 2, none⟩ = some (.slice a5 b5 c5) := (zCr HB3.out.1.2).trans rfl
      go_upto_if 43 with fail
      go_cut [7] from 35 to 53 (fun v wx => (∃ sz : Nat, sz ≤ L ∧ v = .int .i64 (sz : Int)) ∧ W3.grownBy wx none)
      case first =>
        cases bb
        · go_wp2; go_meet
          case rel => exact ⟨⟨0, Nat.zero_le _, rfl⟩, grownBy_refl _ _⟩
        · have hb5 : bx < b5 := hbb rfl
          have hb5I : (bx : Int) < (b5 : Int) := by omega
          obtain ⟨db, doff, u, dd, hda, hdd, kq, hbv⟩ := (HD.out.d.grown0 HB3.out.2).at bx hb5; subst hda; obtain ⟨ua, uc, hue, -⟩ := hbv.sl; obtain ⟨yn, hyn⟩ : ∃ y, dd.length = y := ⟨_, rfl⟩; rw [hyn] at hue; subst hue
          have hyL : yn ≤ L := by rw [← hyn]; exact HSM.out.1.d dd (List.mem_of_getElem? hdd)
          clear hbv hdd hyn hbb
          go_upto_region 17 with fail
          go_quiet (fail); go_wp2; go_meet
          case rel => exact ⟨⟨yn, hyL, rfl⟩, drewN_gr0 _ _⟩
      case rest =>
        obtain ⟨⟨sz, hsz, rfl⟩, hgc⟩ := hcut; obtain ⟨W5, hW5⟩ : ∃ y, wc = y := ⟨_, rfl⟩; rw [hW5] at hgc ⊢; clear hW5; have HB5 : Hid ((W5.heap[w.heap.size]? = some (.cells #[.int .i64 2, .int .i64 a, .string nm, .string tn, .slice da dn dc] 33 (0, 0)) ∧ W5.heap[w.heap.size + 1]? = some (.cells #[.slice a3 b3 c3, .slice (some ⟨zb, zoff, none⟩) b3 c4, .slice a5 b5 c5] 60 (0, 0))) ∧ w.grownBy W5 none) := ⟨⟨grown_blk hgc HB3.out.1.1, grown_blk hgc HB3.out.1.2⟩, grownBy_trans HB3.out.2 hgc⟩; have kc5 : W5.cell? ⟨d, 7, none⟩ = some (.int .i64 M.cap) := ((bcell hgc).1 _ _ (cell_block_lt kc3)).trans kc3; clear hgc hz3 qo0 qo1 qo2 qo3 qo4 ql0 ql1 ql2 kc3 HB3 hbb; have ro0 : W5.cell? ⟨w.heap.size, 0, none⟩ = some (.int .i64 2) := (zCr HB5.out.1.1).trans rfl; have ro1 : W5.cell? ⟨w.heap.size, 1, none⟩ = some (.int .i64 a) := (zCr HB5.out.1.1).trans rfl; have ro2 : W5.cell? ⟨w.heap.size, 2, none⟩ = some (.string nm) := (zCr HB5.out.1.1).trans rfl; have ro3 : W5.cell? ⟨w.heap.size, 3, none⟩ = some (.string tn) := (zCr HB5.out.1.1).trans rfl; have ro4 : W5.cell? ⟨w.heap.size, 4, none⟩ = some (.slice da dn dc) := (zCr HB5.out.1.1).trans rfl; have rl0 : W5.cell? ⟨w.heap.size + 1, 0, none⟩ = some (.slice a3 b3 c3) := (zCr HB5.out.1.2).trans rfl; have rl1 : W5.cell? ⟨w.heap.size + 1, 1, none⟩ = some (.slice (some ⟨zb, zoff, none⟩) b3 c4) := (zCr HB5.out.1.2).trans rfl; have rl2 : W5.cell? ⟨w.heap.size + 1, 2, none⟩ = some (.slice a5 b5 c5) := (zCr HB5.out.1.2).trans rfl
        by_cases hn0 : a < 0
        · go_wp2_with fail; go_ret; exact ⟨⟨_, rfl, fun h9 => by omega⟩, HB5.out.2⟩
        · by_cases hn1 : (sz : Int) < a
          · go_wp2_with fail; go_ret; exact ⟨⟨_, rfl, fun h9 => by omega⟩, HB5.out.2⟩
          · have u1 : IntKind.i64.wrap (a + (dn : Int)) = a + (dn : Int) := IntWalk.i64_in _ (by omega)
            by_cases hn2 : 65536 < a + (dn : Int)
            · go_wp2_with fail; go_ret; exact ⟨⟨_, rfl, fun h9 => by omega⟩, HB5.out.2⟩
            · have HF : Hid (FOk 2 a nm dn L M.mn) := ⟨fun _ _ => HINS.out, fun _ => ⟨by omega, by omega⟩, fun h9 => by omega⟩; have u2 : IntKind.i64.wrap (a + (dn : Int) - (sz : Int)) = a + (dn : Int) - (sz : Int) := IntWalk.i64_in _ (by omega)
              go_upto_region 23 with fail
              have HFI : Hid (∀ W, W5.grownBy W none → Calls _ _ _ _ _) := fun W hW => files_any (.slice a3 b3 c3) (.slice (some ⟨zb, zoff, none⟩) b3 c4) (.slice a5 b5 c5) M.mn N Z L W (HD.out.grown0 (grownBy_trans HB5.out.2 hW)) HSM.out.1 hN hL
              obtain ⟨mo, hmo⟩ : ∃ y, a + (dn : Int) - (sz : Int) = y := ⟨_, rfl⟩; rw [hmo]
              go_cut [111] from 84 to 111 (fun v wx => (∃ bb : Bool, v = .bool bb) ∧ W5.grownBy wx none)
              case first =>
                clear hmo u1 u2
                rcases Int.lt_or_le 0 mo with hm | hm
                · refine wp_region_Z (fun Y => Y.heap[w.heap.size + 1]? = some (.cells #[.slice a3 b3 c3, .slice (some ⟨zb, zoff, none⟩) b3 c4, .slice a5 b5 c5] 60 (0, 0)) ∧ Y.cell? ⟨d, 7, none⟩ = some (.int .i64 M.cap)) (fun _ => false) (by kernel_rfl) ?_; have hS : W5.drew.heap[w.heap.size + 1]? = some (.cells #[.slice a3 b3 c3, .slice (some ⟨zb, zoff, none⟩) b3 c4, .slice a5 b5 c5] 60 (0, 0)) ∧ W5.drew.cell? ⟨d, 7, none⟩ = some (.int .i64 M.cap) := ⟨HB5.out.1.2, kc5⟩; refine zTk 0 ?_; simp only [Act.put, zq1, zq2, zq3]; refine zTk 1 ?_; simp only [Act.put, zq1, zq2, zq3]; refine zTk 2 ?_; simp only [Act.put, zq1, zq2, zq3]; refine zLs 3 rfl hS (by intro W hW; have z0 : W.cell? ⟨w.heap.size + 1, 0, none⟩ = some (.slice a3 b3 c3) := (zCr hW.1).trans rfl; have z1 : W.cell? ⟨w.heap.size + 1, 1, none⟩ = some (.slice (some ⟨zb, zoff, none⟩) b3 c4) := (zCr hW.1).trans rfl; have z2 : W.cell? ⟨w.heap.size + 1, 2, none⟩ = some (.slice a5 b5 c5) := (zCr hW.1).trans rfl; go_simp; first | done | with_reducible rfl) ?_; simp only [Act.put, zq1, zq2, zq3]; refine zTk 6 ?_; simp only [Act.put, zq1, zq2, zq3]; refine zTk 8 ?_; simp only [Act.put, zq1, zq2, zq3]; refine zTk 9 ?_; simp only [Act.put, zq1, zq2, zq3]; refine zTk 10 ?_; simp only [Act.put, zq1, zq2, zq3]; refine zLs 11 rfl hS (by intro W hW; have z0 := hW.2; go_simp; first | done | with_reducible rfl) ?_; simp only [Act.put, zq1, zq2, zq3]; refine wpAnyZ_one' (i := 4) (by kernel_rfl) rfl (fun K hK => ?_); go_simp; go_at_call 40; refine (HFI.out W5.drew (grownBy_drew (grownBy_refl _ _))).mono ?_; rintro e w6 ⟨⟨fv, fn, rfl, hfn, hfs⟩, hg6⟩; have hg6 : W5.grownBy w6 none := ⟨hg6.os, hg6.tape, hg6.output, hg6.size, hg6.block⟩; have hS6 : w6.heap[w.heap.size + 1]? = some (.cells #[.slice a3 b3 c3, .slice (some ⟨zb, zoff, none⟩) b3 c4, .slice a5 b5 c5] 60 (0, 0)) ∧ w6.cell? ⟨d, 7, none⟩ = some (.int .i64 M.cap) := ⟨grown_blk hg6 HB5.out.1.2, ((bcell hg6).1 _ _ (cell_block_lt kc5)).trans kc5⟩; refine hK.out _ _ (fun _ _ => hS6) ?_; clear hK K hS; (try simp only [Act.put, zq1, zq2, zq3]); refine wpAnyZ_one' (i := 5) (by kernel_rfl) rfl (fun K hK => ?_); go_simp; go_at_call 39; refine (l1Total_any fv fn w6 hfs (by omega)).mono ?_; rintro e w7 ⟨⟨r, rfl⟩, hg7⟩; have hS : w7.heap[w.heap.size + 1]? = some (.cells #[.slice a3 b3 c3, .slice (some ⟨zb, zoff, none⟩) b3 c4, .slice a5 b5 c5] 60 (0, 0)) ∧ w7.cell? ⟨d, 7, none⟩ = some (.int .i64 M.cap) := ⟨grown_blk hg7 hS6.1, ((bcell hg7).1 _ _ (cell_block_lt hS6.2)).trans hS6.2⟩; have HG7 : Hid (W5.grownBy w7 none) := grownBy_trans hg6 hg7; refine hK.out _ _ (fun _ _ => hS) ?_; clear hK K hS6 hfs hg6 hg7; (try simp only [Act.put, zq1, zq2, zq3]); refine zTk 7 ?_; simp only [Act.put, zq1, zq2, zq3]; obtain ⟨rr, hrr⟩ : ∃ y, IntKind.i64.wrap (r + mo) = y := ⟨_, rfl⟩
                  try rw [hrr]
                  rcases Int.lt_or_le M.cap rr with hcc | hcc
                  · refine zTk 12 ?_; simp only [Act.put, zq1, zq2, zq3]; refine zTk 13 ?_; simp only [Act.put, zq1, zq2, zq3]; refine zTk 14 ?_; simp only [Act.put, zq1, zq2, zq3]; refine zTu 15 ?_; simp only [Act.put, zq1, zq2, zq3]; refine zTu 16 ?_; simp only [Act.put, zq1, zq2, zq3]; refine zTu 17 ?_; simp only [Act.put, zq1, zq2, zq3]; refine zTu 18 ?_; simp only [Act.put, zq1, zq2, zq3]; refine zTu 19 ?_; simp only [Act.put, zq1, zq2, zq3]; refine zTu 20 ?_; simp only [Act.put, zq1, zq2, zq3]; refine zTu 21 ?_; simp only [Act.put, zq1, zq2, zq3]; refine zTu 22 ?_; simp only [Act.put, zq1, zq2, zq3]; refine zTu 23 ?_; simp only [Act.put, zq1, zq2, zq3]; refine zTu 24 ?_; simp only [Act.put, zq1, zq2, zq3]; refine zTu 25 ?_; simp only [Act.put, zq1, zq2, zq3]; refine zTu 26 ?_; simp only [Act.put, zq1, zq2, zq3]; refine zTk 27 ?_; simp only [Act.put, zq1, zq2, zq3]; refine wpAnyZ_done (by kernel_rfl) ?_ _; go_wp2; go_meet
                    case rel => exact ⟨⟨_, rfl⟩, HG7.out⟩
                  · have hcc' : ¬ M.cap < rr := by omega
                    have hm2 : ¬ mo ≤ 0 := by omega
                    refine zTk 12 ?_; simp only [Act.put, zq1, zq2, zq3]; refine zTk 13 ?_; simp only [Act.put, zq1, zq2, zq3]; refine zTk 14 ?_; simp only [Act.put, zq1, zq2, zq3]; refine zTk 15 ?_; simp only [Act.put, zq1, zq2, zq3]; refine zTk 16 ?_; simp only [Act.put, zq1, zq2, zq3]; refine zTk 17 ?_; simp only [Act.put, zq1, zq2, zq3]; refine zTu 18 ?_; simp only [Act.put, zq1, zq2, zq3]; refine zTu 19 ?_; simp only [Act.put, zq1, zq2, zq3]; refine zTu 20 ?_; simp only [Act.put, zq1, zq2, zq3]; refine zTu 21 ?_; simp only [Act.put, zq1, zq2, zq3]; refine zTu 22 ?_; simp only [Act.put, zq1, zq2, zq3]; refine zTu 23 ?_; simp only [Act.put, zq1, zq2, zq3]; refine zTu 24 ?_; simp only [Act.put, zq1, zq2, zq3]; refine zTu 25 ?_; simp only [Act.put, zq1, zq2, zq3]; refine zTk 26 ?_; simp only [Act.put, zq1, zq2, zq3]; refine zTk 27 ?_; simp only [Act.put, zq1, zq2, zq3]; refine wpAnyZ_done (by kernel_rfl) ?_ _; go_wp2; go_meet
                    case rel => exact ⟨⟨_, rfl⟩, HG7.out⟩
                · have hm' : ¬ 0 < mo := by omega
                  refine wp_region_Z (fun Y => Y.heap[w.heap.size + 1]? = some (.cells #[.slice a3 b3 c3, .slice (some ⟨zb, zoff, none⟩) b3 c4, .slice a5 b5 c5] 60 (0, 0)) ∧ Y.cell? ⟨d, 7, none⟩ = some (.int .i64 M.cap)) (fun _ => false) (by kernel_rfl) ?_; have hS : W5.drew.heap[w.heap.size + 1]? = some (.cells #[.slice a3 b3 c3, .slice (some ⟨zb, zoff, none⟩) b3 c4, .slice a5 b5 c5] 60 (0, 0)) ∧ W5.drew.cell? ⟨d, 7, none⟩ = some (.int .i64 M.cap) := ⟨HB5.out.1.2, kc5⟩; refine zTk 0 ?_; simp only [Act.put, zq1, zq2, zq3]; refine zTk 1 ?_; simp only [Act.put, zq1, zq2, zq3]; refine zTk 2 ?_; simp only [Act.put, zq1, zq2, zq3]; refine zTu 3 ?_; simp only [Act.put, zq1, zq2, zq3]; refine zTu 4 ?_; simp only [Act.put, zq1, zq2, zq3]; refine zTu 5 ?_; simp only [Act.put, zq1, zq2, zq3]; refine zTu 6 ?_; simp only [Act.put, zq1, zq2, zq3]; refine zTu 7 ?_; simp only [Act.put, zq1, zq2, zq3]; refine zTu 8 ?_; simp only [Act.put, zq1, zq2, zq3]; refine zTu 9 ?_; simp only [Act.put, zq1, zq2, zq3]; refine zTu 10 ?_; simp only [Act.put, zq1, zq2, zq3]; refine zTu 11 ?_; simp only [Act.put, zq1, zq2, zq3]; refine zTu 12 ?_; simp only [Act.put, zq1, zq2, zq3]; refine zTk 13 ?_; simp only [Act.put, zq1, zq2, zq3]; refine zTk 14 ?_; simp only [Act.put, zq1, zq2, zq3]; refine zTk 15 ?_; simp only [Act.put, zq1, zq2, zq3]; refine zTk 16 ?_; simp only [Act.put, zq1, zq2, zq3]; refine zTk 17 ?_; simp only [Act.put, zq1, zq2, zq3]; refine zLs 18 rfl hS (by intro W hW; have z0 : W.cell? ⟨w.heap.size + 1, 0, none⟩ = some (.slice a3 b3 c3) := (zCr hW.1).trans rfl; have z1 : W.cell? ⟨w.heap.size + 1, 1, none⟩ = some (.slice (some ⟨zb, zoff, none⟩) b3 c4) := (zCr hW.1).trans rfl; have z2 : W.cell? ⟨w.heap.size + 1, 2, none⟩ = some (.slice a5 b5 c5) := (zCr hW.1).trans rfl; go_simp; first | done | with_reducible rfl) ?_; simp only [Act.put, zq1, zq2, zq3]; refine zTk 21 ?_; simp only [Act.put, zq1, zq2, zq3]; refine zTk 22 ?_; simp only [Act.put, zq1, zq2, zq3]; refine zTk 23 ?_; simp only [Act.put, zq1, zq2, zq3]; refine zLs 24 rfl hS (by intro W hW; have z0 := hW.2; go_simp; first | done | with_reducible rfl) ?_; simp only [Act.put, zq1, zq2, zq3]; refine wpAnyZ_one' (i := 19) (by kernel_rfl) rfl (fun K hK => ?_); go_simp; go_at_call 40; refine (HFI.out W5.drew (grownBy_drew (grownBy_refl _ _))).mono ?_; rintro e w6 ⟨⟨fv, fn, rfl, hfn, hfs⟩, hg6⟩; have hg6 : W5.grownBy w6 none := ⟨hg6.os, hg6.tape, hg6.output, hg6.size, hg6.block⟩; have hS6 : w6.heap[w.heap.size + 1]? = some (.cells #[.slice a3 b3 c3, .slice (some ⟨zb, zoff, none⟩) b3 c4, .slice a5 b5 c5] 60 (0, 0)) ∧ w6.cell? ⟨d, 7, none⟩ = some (.int .i64 M.cap) := ⟨grown_blk hg6 HB5.out.1.2, ((bcell hg6).1 _ _ (cell_block_lt kc5)).trans kc5⟩; refine hK.out _ _ (fun _ _ => hS6) ?_; clear hK K hS; (try simp only [Act.put, zq1, zq2, zq3]); refine wpAnyZ_one' (i := 20) (by kernel_rfl) rfl (fun K hK => ?_); go_simp; go_at_call 39; refine (l1Total_any fv fn w6 hfs (by omega)).mono ?_; rintro e w7 ⟨⟨r, rfl⟩, hg7⟩; have hS : w7.heap[w.heap.size + 1]? = some (.cells #[.slice a3 b3 c3, .slice (some ⟨zb, zoff, none⟩) b3 c4, .slice a5 b5 c5] 60 (0, 0)) ∧ w7.cell? ⟨d, 7, none⟩ = some (.int .i64 M.cap) := ⟨grown_blk hg7 hS6.1, ((bcell hg7).1 _ _ (cell_block_lt hS6.2)).trans hS6.2⟩; have HG7 : Hid (W5.grownBy w7 none) := grownBy_trans hg6 hg7; refine hK.out _ _ (fun _ _ => hS) ?_; clear hK K hS6 hfs hg6 hg7; (try simp only [Act.put, zq1, zq2, zq3]); refine zTk 25 ?_; simp only [Act.put, zq1, zq2, zq3]; refine zTk 26 ?_; simp only [Act.put, zq1, zq2, zq3]; refine zTk 27 ?_; simp only [Act.put, zq1, zq2, zq3]; refine wpAnyZ_done (by kernel_rfl) ?_ _; go_wp2; go_meet
                  case rel => exact ⟨⟨_, rfl⟩, HG7.out⟩
              case rest =>
                obtain ⟨⟨bb, rfl⟩, hgc⟩ := hcut; have HG9 : Hid (w.grownBy wc none) := grownBy_trans HB5.out.2 hgc; clear hgc
                cases bb
                · go_wp2_with fail; go_ret; exact ⟨⟨_, rfl, fun _ => HF.out⟩, HG9.out⟩
                · go_wp2_with fail; go_ret; exact ⟨⟨_, rfl, fun h9 => by omega⟩, HG9.out⟩
theorem cellsT_lit (w : World) (t : TypeId) (vs : Array Value) : CellsT (w.alloc (.cells vs t)) t (some ⟨w.heap.size, 0, none⟩) vs.toList := fun i v hi => by
  refine ⟨_, _, rfl, ?_, _, _, heap_alloc_new w _⟩; rw [Nat.zero_add, zCr (heap_alloc_new w _)]
  simpa using hi
theorem bv_nil (w : World) : BV w (.slice none 0 0) [] := ⟨by simp, none, 0, rfl, CellsT.nil _ _ _, Nat.le_refl _⟩
theorem ri_nil (w : World) : RI w (.slice none 0 0) [] := ⟨none, 0, rfl, CellsT.nil _ _ _, Nat.le_refl _⟩
theorem rs_nil (w : World) : RS w (.slice none 0 0) [] := ⟨none, 0, rfl, CellsT.nil _ _ _, Nat.le_refl _⟩
theorem cm_names (w : World) (ns : List ByteArray) (bs : List Int) : CmAt ((w.alloc (.cells (ns.map Value.string).toArray 9)).alloc (.cells (bs.map (Value.int .i64)).toArray 3)) (.slice none 0 0) (.slice (some ⟨w.heap.size, 0, none⟩) ns.length ns.length) (.slice (some ⟨w.heap.size + 1, 0, none⟩) bs.length bs.length) ⟨3, -1, 0, [], ns, bs⟩ := by
  refine ⟨bv_nil _, ⟨_, _, rfl, ?_, Nat.le_refl _⟩, ⟨_, _, rfl, ?_, Nat.le_refl _⟩⟩
  · have h9 := cellsT_lit w 9 (ns.map Value.string).toArray; exact h9.grown0 (World.grownBy_alloc _ _ none)
  · have h9 := cellsT_lit (w.alloc (.cells (ns.map Value.string).toArray 9)) 3 (bs.map (Value.int .i64)).toArray; rw [show (w.alloc (.cells (ns.map Value.string).toArray 9)).heap.size = w.heap.size + 1 by simp] at h9; exact h9
theorem MkOut.wide {w w0 w' : World} {B : Bs} {d N Z L Q N' Z' L' Q' : Nat} (h : MkOut w w' B d N Z L Q) (hg : w0.grownBy w none) (h1 : N ≤ N') (h2 : Z ≤ Z') (h3 : L ≤ L') (h4 : Q ≤ Q') : MkOut w0 w' B d N' Z' L' Q' := by
  obtain ⟨⟨M', hM⟩, hm⟩ := h; exact ⟨⟨M', hM.mono h1 h2 h3 h4⟩, (Moves.of_grown0 hg).trans hm⟩
set_option maxRecDepth 20000 in
set_option maxHeartbeats 8000000 in
theorem step1_anyM (d : Nat) (B : Bs) (N Z L Q : Nat) (M : Mk) (a : Int) (nm tn : ByteArray) (da : Option Addr) (dn dc : Nat) (w : World) (h : MkAt w B d M N Z L Q) (hbd : N + 2 * Q ≤ 800000 ∧ L ≤ 900000 ∧ Z < 800000 ∧ Q ≤ 300000 ∧ nm.size ≤ 1000 ∧ tn.size ≤ 1000) :
    Calls Tryz.prog 26 #[.pointer (some ⟨d, 0, none⟩), .agg #[.int .i64 1, .int .i64 a, .string nm, .string tn, .slice da dn dc]] w fun e w' => e = .returned (.tuple #[]) ∧ MkOut w w' B d (N + 2 * Q + 2) (Z + 1) L (Q + 1) := by
  obtain ⟨hN, hL, hZ, hQ, hsn, hst⟩ := hbd; obtain ⟨a3, b3, c3, a4, b4, c4, a5, b5, c5, k3, k4, k5, hn⟩ := h.nowCells; have hdl : d < w.heap.size := cell_block_lt k3; have hss : M.mn.ss.length ≤ N := h.smn.ns
  have hb34 : M.mn.ss.length = b3 ∧ M.mn.zs.length = b4 := by
    obtain ⟨_, _, _, _, _, _, _, _, _, e1, e2, e3, f1, f2, f3, -⟩ := hn.vals; simp only [Value.slice.injEq] at e1 e2 e3; exact ⟨by omega, by omega⟩
  obtain rfl : b3 = b4 := by have := h.smn.eq; omega
  have HSM : Hid (M.mn.Sm N Z L ∧ M.mn.ss.length = b3 ∧ M.mn.zs.length = b3) := ⟨h.smn, hb34⟩
  have e1 : (w.alloc (.cells #[.int .i64 1, .int .i64 a, .string nm, .string tn, .slice da dn dc] 33)).heap.size = w.heap.size + 1 := by simp
  have hg2 : w.grownBy ((w.alloc (.cells #[.int .i64 1, .int .i64 a, .string nm, .string tn, .slice da dn dc] 33)).alloc (.cells #[.slice a3 b3 c3, .slice a4 b3 c4, .slice a5 b5 c5] 60)) none := grownBy_alloc (grownBy_alloc (grownBy_refl _ _) _) _
  have HB2 : Hid (((w.alloc (.cells #[.int .i64 1, .int .i64 a, .string nm, .string tn, .slice da dn dc] 33)).alloc (.cells #[.slice a3 b3 c3, .slice a4 b3 c4, .slice a5 b5 c5] 60)).heap[w.heap.size]? = some (.cells #[.int .i64 1, .int .i64 a, .string nm, .string tn, .slice da dn dc] 33 (0, 0)) ∧ ((w.alloc (.cells #[.int .i64 1, .int .i64 a, .string nm, .string tn, .slice da dn dc] 33)).alloc (.cells #[.slice a3 b3 c3, .slice a4 b3 c4, .slice a5 b5 c5] 60)).heap[w.heap.size + 1]? = some (.cells #[.slice a3 b3 c3, .slice a4 b3 c4, .slice a5 b5 c5] 60 (0, 0))) := by
    refine ⟨grown_blk (World.grownBy_alloc _ _ none) (heap_alloc_new w _), ?_⟩; rw [← e1]; exact heap_alloc_new _ _
  have HD : Hid (DirAt w (.slice a3 b3 c3) (.slice a4 b3 c4) (.slice a5 b5 c5) M.mn ∧ MkAt w B d M N Z L Q) := ⟨hn, h⟩; have HC : Hid (Calls _ _ _ _ _) := dirAt_in (.slice a3 b3 c3) (.slice a4 b3 c4) (.slice a5 b5 c5) M.mn nm ((w.alloc (.cells #[.int .i64 1, .int .i64 a, .string nm, .string tn, .slice da dn dc] 33)).alloc (.cells #[.slice a3 b3 c3, .slice a4 b3 c4, .slice a5 b5 c5] 60)) (hn.grown0 hg2) (by omega); have HG2 : Hid (w.grownBy ((w.alloc (.cells #[.int .i64 1, .int .i64 a, .string nm, .string tn, .slice da dn dc] 33)).alloc (.cells #[.slice a3 b3 c3, .slice a4 b3 c4, .slice a5 b5 c5] 60)) none) := hg2; clear h hn hg2 e1 hb34
  go_enter Tryz.func26, Tryz.ntmps26
  go_wp2_with fail; refine HC.out.mono ?_; rintro e w0 ⟨ix, rfl, ⟨hi1, hi2, -⟩, hg1⟩; have HG0 : Hid (w.grownBy w0 none ∧ w0.heap[w.heap.size]? = some (.cells #[.int .i64 1, .int .i64 a, .string nm, .string tn, .slice da dn dc] 33 (0, 0)) ∧ w0.heap[w.heap.size + 1]? = some (.cells #[.slice a3 b3 c3, .slice a4 b3 c4, .slice a5 b5 c5] 60 (0, 0))) := ⟨grownBy_trans HG2.out hg1, grown_blk hg1 HB2.out.1, grown_blk hg1 HB2.out.2⟩; have HFR : Hid (Calls _ _ _ _ _) := fresh_any d B N Z L Q M w0 (HD.out.2.grown0 HG0.out.1) (by omega) (by omega) (by omega); clear HC HB2 HG2 hg1 k3 k4 k5; go_wp2_with fail; refine HFR.out.mono ?_; rintro e w1 ⟨⟨nf, hnf, rfl⟩, hg1⟩; have HB1 : Hid ((w1.heap[w.heap.size]? = some (.cells #[.int .i64 1, .int .i64 a, .string nm, .string tn, .slice da dn dc] 33 (0, 0)) ∧ w1.heap[w.heap.size + 1]? = some (.cells #[.slice a3 b3 c3, .slice a4 b3 c4, .slice a5 b5 c5] 60 (0, 0))) ∧ w.grownBy w1 none) := ⟨⟨grown_blk hg1 HG0.out.2.1, grown_blk hg1 HG0.out.2.2⟩, grownBy_trans HG0.out.1 hg1⟩; clear hg1 HFR HG0; have po0 : w1.cell? ⟨w.heap.size, 0, none⟩ = some (.int .i64 1) := (zCr HB1.out.1.1).trans rfl; have po1 : w1.cell? ⟨w.heap.size, 1, none⟩ = some (.int .i64 a) := (zCr HB1.out.1.1).trans rfl; have po2 : w1.cell? ⟨w.heap.size, 2, none⟩ = some (.string nm) := (zCr HB1.out.1.1).trans rfl; have po3 : w1.cell? ⟨w.heap.size, 3, none⟩ = some (.string tn) := (zCr HB1.out.1.1).trans rfl; have po4 : w1.cell? ⟨w.heap.size, 4, none⟩ = some (.slice da dn dc) := (zCr HB1.out.1.1).trans rfl; have pl0 : w1.cell? ⟨w.heap.size + 1, 0, none⟩ = some (.slice a3 b3 c3) := (zCr HB1.out.1.2).trans rfl; have pl1 : w1.cell? ⟨w.heap.size + 1, 1, none⟩ = some (.slice a4 b3 c4) := (zCr HB1.out.1.2).trans rfl; have pl2 : w1.cell? ⟨w.heap.size + 1, 2, none⟩ = some (.slice a5 b5 c5) := (zCr HB1.out.1.2).trans rfl
  go_upto_if 20 with fail
  go_cut [6] from 19 to 25 (fun v wx => (∃ bd : Nat, bd ≤ Z + 1 ∧ v = .int .i64 (bd : Int)) ∧ w1.grownBy wx none)
  case first =>
    by_cases h0 : 0 ≤ ix
    · obtain ⟨jx, rfl⟩ := int_nat h0
      have hj4 : jx < b3 := by have := HSM.out.2.1; omega
      have hj4I : (jx : Int) < (b3 : Int) := by omega
      obtain ⟨zb, zoff, z, hza, hzz, hzc⟩ := (HD.out.1.grown0 HB1.out.2).z.at jx hj4
      obtain ⟨bx, hbx, rfl⟩ : ∃ x : Nat, M.mn.zs[jx]? = some x ∧ z = (x : Int) := by
        rw [List.getElem?_map] at hzz; obtain ⟨x, hx, h9⟩ := Option.map_eq_some_iff.1 hzz; exact ⟨x, hx, h9.symm⟩
      have hbZ : bx ≤ Z + 1 := by have := HSM.out.1.z bx (List.mem_of_getElem? hbx); omega
      subst hza; clear hzz hbx; go_wp2; go_meet
      case rel => exact ⟨⟨bx, hbZ, rfl⟩, grownBy_refl _ _⟩
    · go_wp2; go_meet
      case rel => exact ⟨⟨nf, hnf, rfl⟩, grownBy_refl _ _⟩
  case rest =>
    obtain ⟨⟨bd, hbd, rfl⟩, hgc⟩ := hcut; obtain ⟨W5, hW5⟩ : ∃ y, wc = y := ⟨_, rfl⟩; rw [hW5] at hgc ⊢; clear hW5; have HB5 : Hid ((W5.heap[w.heap.size]? = some (.cells #[.int .i64 1, .int .i64 a, .string nm, .string tn, .slice da dn dc] 33 (0, 0)) ∧ W5.heap[w.heap.size + 1]? = some (.cells #[.slice a3 b3 c3, .slice a4 b3 c4, .slice a5 b5 c5] 60 (0, 0))) ∧ w.grownBy W5 none) := ⟨⟨grown_blk hgc HB1.out.1.1, grown_blk hgc HB1.out.1.2⟩, grownBy_trans HB1.out.2 hgc⟩; clear hgc po0 po1 po2 po3 po4 pl0 pl1 pl2 HB1; have ro0 : W5.cell? ⟨w.heap.size, 0, none⟩ = some (.int .i64 1) := (zCr HB5.out.1.1).trans rfl; have ro1 : W5.cell? ⟨w.heap.size, 1, none⟩ = some (.int .i64 a) := (zCr HB5.out.1.1).trans rfl; have ro2 : W5.cell? ⟨w.heap.size, 2, none⟩ = some (.string nm) := (zCr HB5.out.1.1).trans rfl; have ro3 : W5.cell? ⟨w.heap.size, 3, none⟩ = some (.string tn) := (zCr HB5.out.1.1).trans rfl; have ro4 : W5.cell? ⟨w.heap.size, 4, none⟩ = some (.slice da dn dc) := (zCr HB5.out.1.1).trans rfl; have rl0 : W5.cell? ⟨w.heap.size + 1, 0, none⟩ = some (.slice a3 b3 c3) := (zCr HB5.out.1.2).trans rfl; have rl1 : W5.cell? ⟨w.heap.size + 1, 1, none⟩ = some (.slice a4 b3 c4) := (zCr HB5.out.1.2).trans rfl; have rl2 : W5.cell? ⟨w.heap.size + 1, 2, none⟩ = some (.slice a5 b5 c5) := (zCr HB5.out.1.2).trans rfl; have HCM : Hid (Calls _ _ _ _ _) := add_any d B N (Z + 1) L Q M ⟨3, -1, 0, [], [nm], [(bd : Int)]⟩ (.slice none 0 0) (.slice (some ⟨W5.heap.size, 0, none⟩) 1 1) (.slice (some ⟨W5.heap.size + 1, 0, none⟩) 1 1) ((W5.alloc (.cells #[.string nm] 9)).alloc (.cells #[.int .i64 (bd : Int)] 3)) ((HD.out.2.grown0 (grownBy_alloc (grownBy_alloc HB5.out.2 _) _)).mono (Nat.le_refl _) (by omega) (Nat.le_refl _) (Nat.le_refl _)) (by omega) (by omega) hL (by omega) (cm_names W5 [nm] [(bd : Int)]) ⟨rfl, by simp, by intro z hz; simp at hz; omega, by intro s hs; simp at hs; first | (rcases hs with rfl | rfl <;> assumption) | (subst hs; assumption), ⟨by show (-1 : Int) ≤ -1; omega, by show (-1 : Int) ≤ _; omega⟩, fun h9 => absurd rfl h9, fun h9 => by cases h9⟩ (.inr (.inr rfl)); go_wp2_with fail; refine HCM.out.mono ?_; rintro e w9 ⟨rfl, hmo⟩; have HF : Hid (MkOut w w9 B d (N + 2 * Q + 2) (Z + 1) L (Q + 1)) := hmo.wide (grownBy_alloc (grownBy_alloc HB5.out.2 _) _) (by omega) (Nat.le_refl _) (Nat.le_refl _) (Nat.le_refl _); clear HCM hmo; go_wp2; refine bodyPost_end (results_none rfl _ _ _) rfl ⟨rfl, HF.out⟩
set_option maxRecDepth 20000 in
set_option maxHeartbeats 8000000 in
theorem step4_anyM (d : Nat) (B : Bs) (N Z L Q : Nat) (M : Mk) (a : Int) (nm tn : ByteArray) (da : Option Addr) (dn dc : Nat) (w : World) (h : MkAt w B d M N Z L Q) (hbd : N + 2 * Q ≤ 800000 ∧ L ≤ 900000 ∧ Z < 800000 ∧ Q ≤ 300000 ∧ nm.size ≤ 1000 ∧ tn.size ≤ 1000) :
    Calls Tryz.prog 26 #[.pointer (some ⟨d, 0, none⟩), .agg #[.int .i64 4, .int .i64 a, .string nm, .string tn, .slice da dn dc]] w fun e w' => e = .returned (.tuple #[]) ∧ MkOut w w' B d (N + 2 * Q + 2) (Z + 1) L (Q + 1) := by
  obtain ⟨hN, hL, hZ, hQ, hsn, hst⟩ := hbd; obtain ⟨a3, b3, c3, a4, b4, c4, a5, b5, c5, k3, k4, k5, hn⟩ := h.nowCells; have hdl : d < w.heap.size := cell_block_lt k3; have hss : M.mn.ss.length ≤ N := h.smn.ns
  have hb34 : M.mn.ss.length = b3 ∧ M.mn.zs.length = b4 := by
    obtain ⟨_, _, _, _, _, _, _, _, _, e1, e2, e3, f1, f2, f3, -⟩ := hn.vals; simp only [Value.slice.injEq] at e1 e2 e3; exact ⟨by omega, by omega⟩
  obtain rfl : b3 = b4 := by have := h.smn.eq; omega
  have HSM : Hid (M.mn.Sm N Z L ∧ M.mn.ss.length = b3 ∧ M.mn.zs.length = b3) := ⟨h.smn, hb34⟩
  have e1 : (w.alloc (.cells #[.int .i64 4, .int .i64 a, .string nm, .string tn, .slice da dn dc] 33)).heap.size = w.heap.size + 1 := by simp
  have hg2 : w.grownBy ((w.alloc (.cells #[.int .i64 4, .int .i64 a, .string nm, .string tn, .slice da dn dc] 33)).alloc (.cells #[.slice a3 b3 c3, .slice a4 b3 c4, .slice a5 b5 c5] 60)) none := grownBy_alloc (grownBy_alloc (grownBy_refl _ _) _) _
  have HB2 : Hid (((w.alloc (.cells #[.int .i64 4, .int .i64 a, .string nm, .string tn, .slice da dn dc] 33)).alloc (.cells #[.slice a3 b3 c3, .slice a4 b3 c4, .slice a5 b5 c5] 60)).heap[w.heap.size]? = some (.cells #[.int .i64 4, .int .i64 a, .string nm, .string tn, .slice da dn dc] 33 (0, 0)) ∧ ((w.alloc (.cells #[.int .i64 4, .int .i64 a, .string nm, .string tn, .slice da dn dc] 33)).alloc (.cells #[.slice a3 b3 c3, .slice a4 b3 c4, .slice a5 b5 c5] 60)).heap[w.heap.size + 1]? = some (.cells #[.slice a3 b3 c3, .slice a4 b3 c4, .slice a5 b5 c5] 60 (0, 0))) := by
    refine ⟨grown_blk (World.grownBy_alloc _ _ none) (heap_alloc_new w _), ?_⟩; rw [← e1]; exact heap_alloc_new _ _
  have HD : Hid (DirAt w (.slice a3 b3 c3) (.slice a4 b3 c4) (.slice a5 b5 c5) M.mn ∧ MkAt w B d M N Z L Q) := ⟨hn, h⟩; have HC : Hid (Calls _ _ _ _ _) := dirAt_in (.slice a3 b3 c3) (.slice a4 b3 c4) (.slice a5 b5 c5) M.mn nm ((w.alloc (.cells #[.int .i64 4, .int .i64 a, .string nm, .string tn, .slice da dn dc] 33)).alloc (.cells #[.slice a3 b3 c3, .slice a4 b3 c4, .slice a5 b5 c5] 60)) (hn.grown0 hg2) (by omega); have HG2 : Hid (w.grownBy ((w.alloc (.cells #[.int .i64 4, .int .i64 a, .string nm, .string tn, .slice da dn dc] 33)).alloc (.cells #[.slice a3 b3 c3, .slice a4 b3 c4, .slice a5 b5 c5] 60)) none) := hg2; clear h hn hg2 e1 hb34
  go_enter Tryz.func26, Tryz.ntmps26
  go_wp2_with fail; refine HC.out.mono ?_; rintro e w0 ⟨ix, rfl, ⟨hi1, hi2, -⟩, hg1⟩; have HG0 : Hid (w.grownBy w0 none ∧ w0.heap[w.heap.size]? = some (.cells #[.int .i64 4, .int .i64 a, .string nm, .string tn, .slice da dn dc] 33 (0, 0)) ∧ w0.heap[w.heap.size + 1]? = some (.cells #[.slice a3 b3 c3, .slice a4 b3 c4, .slice a5 b5 c5] 60 (0, 0))) := ⟨grownBy_trans HG2.out hg1, grown_blk hg1 HB2.out.1, grown_blk hg1 HB2.out.2⟩; have HFR : Hid (Calls _ _ _ _ _) := fresh_any d B N Z L Q M w0 (HD.out.2.grown0 HG0.out.1) (by omega) (by omega) (by omega); clear HC HB2 HG2 hg1 k3 k4 k5; go_wp2_with fail; refine HFR.out.mono ?_; rintro e w1 ⟨⟨nf, hnf, rfl⟩, hg1⟩; have HB1 : Hid ((w1.heap[w.heap.size]? = some (.cells #[.int .i64 4, .int .i64 a, .string nm, .string tn, .slice da dn dc] 33 (0, 0)) ∧ w1.heap[w.heap.size + 1]? = some (.cells #[.slice a3 b3 c3, .slice a4 b3 c4, .slice a5 b5 c5] 60 (0, 0))) ∧ w.grownBy w1 none) := ⟨⟨grown_blk hg1 HG0.out.2.1, grown_blk hg1 HG0.out.2.2⟩, grownBy_trans HG0.out.1 hg1⟩; clear hg1 HFR HG0; have po0 : w1.cell? ⟨w.heap.size, 0, none⟩ = some (.int .i64 4) := (zCr HB1.out.1.1).trans rfl; have po1 : w1.cell? ⟨w.heap.size, 1, none⟩ = some (.int .i64 a) := (zCr HB1.out.1.1).trans rfl; have po2 : w1.cell? ⟨w.heap.size, 2, none⟩ = some (.string nm) := (zCr HB1.out.1.1).trans rfl; have po3 : w1.cell? ⟨w.heap.size, 3, none⟩ = some (.string tn) := (zCr HB1.out.1.1).trans rfl; have po4 : w1.cell? ⟨w.heap.size, 4, none⟩ = some (.slice da dn dc) := (zCr HB1.out.1.1).trans rfl; have pl0 : w1.cell? ⟨w.heap.size + 1, 0, none⟩ = some (.slice a3 b3 c3) := (zCr HB1.out.1.2).trans rfl; have pl1 : w1.cell? ⟨w.heap.size + 1, 1, none⟩ = some (.slice a4 b3 c4) := (zCr HB1.out.1.2).trans rfl; have pl2 : w1.cell? ⟨w.heap.size + 1, 2, none⟩ = some (.slice a5 b5 c5) := (zCr HB1.out.1.2).trans rfl
  go_upto_if 20 with fail
  go_cut [6] from 19 to 25 (fun v wx => (∃ bd : Nat, bd ≤ Z + 1 ∧ v = .int .i64 (bd : Int)) ∧ w1.grownBy wx none)
  case first =>
    by_cases h0 : 0 ≤ ix
    · obtain ⟨jx, rfl⟩ := int_nat h0
      have hj4 : jx < b3 := by have := HSM.out.2.1; omega
      have hj4I : (jx : Int) < (b3 : Int) := by omega
      obtain ⟨zb, zoff, z, hza, hzz, hzc⟩ := (HD.out.1.grown0 HB1.out.2).z.at jx hj4
      obtain ⟨bx, hbx, rfl⟩ : ∃ x : Nat, M.mn.zs[jx]? = some x ∧ z = (x : Int) := by
        rw [List.getElem?_map] at hzz; obtain ⟨x, hx, h9⟩ := Option.map_eq_some_iff.1 hzz; exact ⟨x, hx, h9.symm⟩
      have hbZ : bx ≤ Z + 1 := by have := HSM.out.1.z bx (List.mem_of_getElem? hbx); omega
      subst hza; clear hzz hbx; go_wp2; go_meet
      case rel => exact ⟨⟨bx, hbZ, rfl⟩, grownBy_refl _ _⟩
    · go_wp2; go_meet
      case rel => exact ⟨⟨nf, hnf, rfl⟩, grownBy_refl _ _⟩
  case rest =>
    obtain ⟨⟨bd, hbd, rfl⟩, hgc⟩ := hcut; obtain ⟨W5, hW5⟩ : ∃ y, wc = y := ⟨_, rfl⟩; rw [hW5] at hgc ⊢; clear hW5; have HB5 : Hid ((W5.heap[w.heap.size]? = some (.cells #[.int .i64 4, .int .i64 a, .string nm, .string tn, .slice da dn dc] 33 (0, 0)) ∧ W5.heap[w.heap.size + 1]? = some (.cells #[.slice a3 b3 c3, .slice a4 b3 c4, .slice a5 b5 c5] 60 (0, 0))) ∧ w.grownBy W5 none) := ⟨⟨grown_blk hgc HB1.out.1.1, grown_blk hgc HB1.out.1.2⟩, grownBy_trans HB1.out.2 hgc⟩; clear hgc po0 po1 po2 po3 po4 pl0 pl1 pl2 HB1; have ro0 : W5.cell? ⟨w.heap.size, 0, none⟩ = some (.int .i64 4) := (zCr HB5.out.1.1).trans rfl; have ro1 : W5.cell? ⟨w.heap.size, 1, none⟩ = some (.int .i64 a) := (zCr HB5.out.1.1).trans rfl; have ro2 : W5.cell? ⟨w.heap.size, 2, none⟩ = some (.string nm) := (zCr HB5.out.1.1).trans rfl; have ro3 : W5.cell? ⟨w.heap.size, 3, none⟩ = some (.string tn) := (zCr HB5.out.1.1).trans rfl; have ro4 : W5.cell? ⟨w.heap.size, 4, none⟩ = some (.slice da dn dc) := (zCr HB5.out.1.1).trans rfl; have rl0 : W5.cell? ⟨w.heap.size + 1, 0, none⟩ = some (.slice a3 b3 c3) := (zCr HB5.out.1.2).trans rfl; have rl1 : W5.cell? ⟨w.heap.size + 1, 1, none⟩ = some (.slice a4 b3 c4) := (zCr HB5.out.1.2).trans rfl; have rl2 : W5.cell? ⟨w.heap.size + 1, 2, none⟩ = some (.slice a5 b5 c5) := (zCr HB5.out.1.2).trans rfl
    rcases hne : (tn.toList == nm.toList) with _ | _
    · have hne' : (tn.toList != nm.toList) = true := by simp [bne, hne]
      have HCM : Hid (Calls _ _ _ _ _) := add_any d B N (Z + 1) L Q M ⟨3, -1, 0, [], [tn, nm], [(bd : Int), (-1)]⟩ (.slice none 0 0) (.slice (some ⟨W5.heap.size, 0, none⟩) 2 2) (.slice (some ⟨W5.heap.size + 1, 0, none⟩) 2 2) ((W5.alloc (.cells #[.string tn, .string nm] 9)).alloc (.cells #[.int .i64 (bd : Int), .int .i64 (-1)] 3)) ((HD.out.2.grown0 (grownBy_alloc (grownBy_alloc HB5.out.2 _) _)).mono (Nat.le_refl _) (by omega) (Nat.le_refl _) (Nat.le_refl _)) (by omega) (by omega) hL (by omega) (cm_names W5 [tn, nm] [(bd : Int), (-1)]) ⟨rfl, by simp, by intro z hz; simp at hz; omega, by intro s hs; simp at hs; first | (rcases hs with rfl | rfl <;> assumption) | (subst hs; assumption), ⟨by show (-1 : Int) ≤ -1; omega, by show (-1 : Int) ≤ _; omega⟩, fun h9 => absurd rfl h9, fun h9 => by cases h9⟩ (.inr (.inr rfl)); go_wp2_with fail; refine HCM.out.mono ?_; rintro e w9 ⟨rfl, hmo⟩; have HF : Hid (MkOut w w9 B d (N + 2 * Q + 2) (Z + 1) L (Q + 1)) := hmo.wide (grownBy_alloc (grownBy_alloc HB5.out.2 _) _) (by omega) (Nat.le_refl _) (Nat.le_refl _) (Nat.le_refl _); clear HCM hmo; go_wp2; refine bodyPost_end (results_none rfl _ _ _) rfl ⟨rfl, HF.out⟩
    · have hne' : (tn.toList != nm.toList) = false := by simp [bne, hne]
      have HF : Hid (MkOut w W5 B d (N + 2 * Q + 2) (Z + 1) L (Q + 1)) := ⟨⟨M, (HD.out.2.grown0 HB5.out.2).mono (by omega) (by omega) (Nat.le_refl _) (by omega)⟩, Moves.of_grown0 HB5.out.2⟩; go_wp2; refine bodyPost_end (results_none rfl _ _ _) rfl ⟨rfl, HF.out⟩
set_option maxRecDepth 20000 in
set_option maxHeartbeats 8000000 in
theorem step5_anyM (d : Nat) (B : Bs) (N Z L Q : Nat) (M : Mk) (a : Int) (nm tn : ByteArray) (da : Option Addr) (dn dc : Nat) (w : World) (h : MkAt w B d M N Z L Q) (hbd : N + 2 * Q ≤ 800000 ∧ L ≤ 900000 ∧ Z < 800000 ∧ Q ≤ 300000 ∧ nm.size ≤ 1000 ∧ tn.size ≤ 1000) :
    Calls Tryz.prog 26 #[.pointer (some ⟨d, 0, none⟩), .agg #[.int .i64 5, .int .i64 a, .string nm, .string tn, .slice da dn dc]] w fun e w' => e = .returned (.tuple #[]) ∧ MkOut w w' B d (N + 2 * Q + 2) (Z + 1) L (Q + 1) := by
  obtain ⟨hN, hL, hZ, hQ, hsn, hst⟩ := hbd; obtain ⟨a3, b3, c3, a4, b4, c4, a5, b5, c5, k3, k4, k5, hn⟩ := h.nowCells; have hdl : d < w.heap.size := cell_block_lt k3; have hss : M.mn.ss.length ≤ N := h.smn.ns
  have hb34 : M.mn.ss.length = b3 ∧ M.mn.zs.length = b4 := by
    obtain ⟨_, _, _, _, _, _, _, _, _, e1, e2, e3, f1, f2, f3, -⟩ := hn.vals; simp only [Value.slice.injEq] at e1 e2 e3; exact ⟨by omega, by omega⟩
  obtain rfl : b3 = b4 := by have := h.smn.eq; omega
  have HSM : Hid (M.mn.Sm N Z L ∧ M.mn.ss.length = b3 ∧ M.mn.zs.length = b3) := ⟨h.smn, hb34⟩
  have e1 : (w.alloc (.cells #[.int .i64 5, .int .i64 a, .string nm, .string tn, .slice da dn dc] 33)).heap.size = w.heap.size + 1 := by simp
  have hg2 : w.grownBy ((w.alloc (.cells #[.int .i64 5, .int .i64 a, .string nm, .string tn, .slice da dn dc] 33)).alloc (.cells #[.slice a3 b3 c3, .slice a4 b3 c4, .slice a5 b5 c5] 60)) none := grownBy_alloc (grownBy_alloc (grownBy_refl _ _) _) _
  have HB2 : Hid (((w.alloc (.cells #[.int .i64 5, .int .i64 a, .string nm, .string tn, .slice da dn dc] 33)).alloc (.cells #[.slice a3 b3 c3, .slice a4 b3 c4, .slice a5 b5 c5] 60)).heap[w.heap.size]? = some (.cells #[.int .i64 5, .int .i64 a, .string nm, .string tn, .slice da dn dc] 33 (0, 0)) ∧ ((w.alloc (.cells #[.int .i64 5, .int .i64 a, .string nm, .string tn, .slice da dn dc] 33)).alloc (.cells #[.slice a3 b3 c3, .slice a4 b3 c4, .slice a5 b5 c5] 60)).heap[w.heap.size + 1]? = some (.cells #[.slice a3 b3 c3, .slice a4 b3 c4, .slice a5 b5 c5] 60 (0, 0))) := by
    refine ⟨grown_blk (World.grownBy_alloc _ _ none) (heap_alloc_new w _), ?_⟩; rw [← e1]; exact heap_alloc_new _ _
  have HD : Hid (DirAt w (.slice a3 b3 c3) (.slice a4 b3 c4) (.slice a5 b5 c5) M.mn ∧ MkAt w B d M N Z L Q) := ⟨hn, h⟩; have HC : Hid (Calls _ _ _ _ _) := dirAt_in (.slice a3 b3 c3) (.slice a4 b3 c4) (.slice a5 b5 c5) M.mn nm ((w.alloc (.cells #[.int .i64 5, .int .i64 a, .string nm, .string tn, .slice da dn dc] 33)).alloc (.cells #[.slice a3 b3 c3, .slice a4 b3 c4, .slice a5 b5 c5] 60)) (hn.grown0 hg2) (by omega); have HG2 : Hid (w.grownBy ((w.alloc (.cells #[.int .i64 5, .int .i64 a, .string nm, .string tn, .slice da dn dc] 33)).alloc (.cells #[.slice a3 b3 c3, .slice a4 b3 c4, .slice a5 b5 c5] 60)) none) := hg2; clear h hn hg2 e1 hb34
  go_enter Tryz.func26, Tryz.ntmps26
  go_wp2_with fail; refine HC.out.mono ?_; rintro e w0 ⟨ix, rfl, ⟨hi1, hi2, -⟩, hg1⟩; have HG0 : Hid (w.grownBy w0 none ∧ w0.heap[w.heap.size]? = some (.cells #[.int .i64 5, .int .i64 a, .string nm, .string tn, .slice da dn dc] 33 (0, 0)) ∧ w0.heap[w.heap.size + 1]? = some (.cells #[.slice a3 b3 c3, .slice a4 b3 c4, .slice a5 b5 c5] 60 (0, 0))) := ⟨grownBy_trans HG2.out hg1, grown_blk hg1 HB2.out.1, grown_blk hg1 HB2.out.2⟩; have HFR : Hid (Calls _ _ _ _ _) := fresh_any d B N Z L Q M w0 (HD.out.2.grown0 HG0.out.1) (by omega) (by omega) (by omega); clear HC HB2 HG2 hg1 k3 k4 k5; go_wp2_with fail; refine HFR.out.mono ?_; rintro e w1 ⟨⟨nf, hnf, rfl⟩, hg1⟩; have HB1 : Hid ((w1.heap[w.heap.size]? = some (.cells #[.int .i64 5, .int .i64 a, .string nm, .string tn, .slice da dn dc] 33 (0, 0)) ∧ w1.heap[w.heap.size + 1]? = some (.cells #[.slice a3 b3 c3, .slice a4 b3 c4, .slice a5 b5 c5] 60 (0, 0))) ∧ w.grownBy w1 none) := ⟨⟨grown_blk hg1 HG0.out.2.1, grown_blk hg1 HG0.out.2.2⟩, grownBy_trans HG0.out.1 hg1⟩; clear hg1 HFR HG0; have po0 : w1.cell? ⟨w.heap.size, 0, none⟩ = some (.int .i64 5) := (zCr HB1.out.1.1).trans rfl; have po1 : w1.cell? ⟨w.heap.size, 1, none⟩ = some (.int .i64 a) := (zCr HB1.out.1.1).trans rfl; have po2 : w1.cell? ⟨w.heap.size, 2, none⟩ = some (.string nm) := (zCr HB1.out.1.1).trans rfl; have po3 : w1.cell? ⟨w.heap.size, 3, none⟩ = some (.string tn) := (zCr HB1.out.1.1).trans rfl; have po4 : w1.cell? ⟨w.heap.size, 4, none⟩ = some (.slice da dn dc) := (zCr HB1.out.1.1).trans rfl; have pl0 : w1.cell? ⟨w.heap.size + 1, 0, none⟩ = some (.slice a3 b3 c3) := (zCr HB1.out.1.2).trans rfl; have pl1 : w1.cell? ⟨w.heap.size + 1, 1, none⟩ = some (.slice a4 b3 c4) := (zCr HB1.out.1.2).trans rfl; have pl2 : w1.cell? ⟨w.heap.size + 1, 2, none⟩ = some (.slice a5 b5 c5) := (zCr HB1.out.1.2).trans rfl
  go_upto_if 20 with fail
  go_cut [6] from 19 to 25 (fun v wx => (∃ bd : Nat, bd ≤ Z + 1 ∧ v = .int .i64 (bd : Int)) ∧ w1.grownBy wx none)
  case first =>
    by_cases h0 : 0 ≤ ix
    · obtain ⟨jx, rfl⟩ := int_nat h0
      have hj4 : jx < b3 := by have := HSM.out.2.1; omega
      have hj4I : (jx : Int) < (b3 : Int) := by omega
      obtain ⟨zb, zoff, z, hza, hzz, hzc⟩ := (HD.out.1.grown0 HB1.out.2).z.at jx hj4
      obtain ⟨bx, hbx, rfl⟩ : ∃ x : Nat, M.mn.zs[jx]? = some x ∧ z = (x : Int) := by
        rw [List.getElem?_map] at hzz; obtain ⟨x, hx, h9⟩ := Option.map_eq_some_iff.1 hzz; exact ⟨x, hx, h9.symm⟩
      have hbZ : bx ≤ Z + 1 := by have := HSM.out.1.z bx (List.mem_of_getElem? hbx); omega
      subst hza; clear hzz hbx; go_wp2; go_meet
      case rel => exact ⟨⟨bx, hbZ, rfl⟩, grownBy_refl _ _⟩
    · go_wp2; go_meet
      case rel => exact ⟨⟨nf, hnf, rfl⟩, grownBy_refl _ _⟩
  case rest =>
    obtain ⟨⟨bd, hbd, rfl⟩, hgc⟩ := hcut; obtain ⟨W5, hW5⟩ : ∃ y, wc = y := ⟨_, rfl⟩; rw [hW5] at hgc ⊢; clear hW5; have HB5 : Hid ((W5.heap[w.heap.size]? = some (.cells #[.int .i64 5, .int .i64 a, .string nm, .string tn, .slice da dn dc] 33 (0, 0)) ∧ W5.heap[w.heap.size + 1]? = some (.cells #[.slice a3 b3 c3, .slice a4 b3 c4, .slice a5 b5 c5] 60 (0, 0))) ∧ w.grownBy W5 none) := ⟨⟨grown_blk hgc HB1.out.1.1, grown_blk hgc HB1.out.1.2⟩, grownBy_trans HB1.out.2 hgc⟩; clear hgc po0 po1 po2 po3 po4 pl0 pl1 pl2 HB1; have ro0 : W5.cell? ⟨w.heap.size, 0, none⟩ = some (.int .i64 5) := (zCr HB5.out.1.1).trans rfl; have ro1 : W5.cell? ⟨w.heap.size, 1, none⟩ = some (.int .i64 a) := (zCr HB5.out.1.1).trans rfl; have ro2 : W5.cell? ⟨w.heap.size, 2, none⟩ = some (.string nm) := (zCr HB5.out.1.1).trans rfl; have ro3 : W5.cell? ⟨w.heap.size, 3, none⟩ = some (.string tn) := (zCr HB5.out.1.1).trans rfl; have ro4 : W5.cell? ⟨w.heap.size, 4, none⟩ = some (.slice da dn dc) := (zCr HB5.out.1.1).trans rfl; have rl0 : W5.cell? ⟨w.heap.size + 1, 0, none⟩ = some (.slice a3 b3 c3) := (zCr HB5.out.1.2).trans rfl; have rl1 : W5.cell? ⟨w.heap.size + 1, 1, none⟩ = some (.slice a4 b3 c4) := (zCr HB5.out.1.2).trans rfl; have rl2 : W5.cell? ⟨w.heap.size + 1, 2, none⟩ = some (.slice a5 b5 c5) := (zCr HB5.out.1.2).trans rfl; have HCM : Hid (Calls _ _ _ _ _) := add_any d B N (Z + 1) L Q M ⟨3, -1, 0, [], [nm], [(-1)]⟩ (.slice none 0 0) (.slice (some ⟨W5.heap.size, 0, none⟩) 1 1) (.slice (some ⟨W5.heap.size + 1, 0, none⟩) 1 1) ((W5.alloc (.cells #[.string nm] 9)).alloc (.cells #[.int .i64 (-1)] 3)) ((HD.out.2.grown0 (grownBy_alloc (grownBy_alloc HB5.out.2 _) _)).mono (Nat.le_refl _) (by omega) (Nat.le_refl _) (Nat.le_refl _)) (by omega) (by omega) hL (by omega) (cm_names W5 [nm] [(-1)]) ⟨rfl, by simp, by intro z hz; simp at hz; omega, by intro s hs; simp at hs; first | (rcases hs with rfl | rfl <;> assumption) | (subst hs; assumption), ⟨by show (-1 : Int) ≤ -1; omega, by show (-1 : Int) ≤ _; omega⟩, fun h9 => absurd rfl h9, fun h9 => by cases h9⟩ (.inr (.inr rfl)); go_wp2_with fail; refine HCM.out.mono ?_; rintro e w9 ⟨rfl, hmo⟩; have HF : Hid (MkOut w w9 B d (N + 2 * Q + 2) (Z + 1) L (Q + 1)) := hmo.wide (grownBy_alloc (grownBy_alloc HB5.out.2 _) _) (by omega) (Nat.le_refl _) (Nat.le_refl _) (Nat.le_refl _); clear HCM hmo; go_wp2; refine bodyPost_end (results_none rfl _ _ _) rfl ⟨rfl, HF.out⟩
set_option maxRecDepth 20000 in
set_option maxHeartbeats 8000000 in
theorem step6_anyM (d : Nat) (B : Bs) (N Z L Q : Nat) (M : Mk) (a : Int) (nm tn : ByteArray) (da : Option Addr) (dn dc : Nat) (w : World) (h : MkAt w B d M N Z L Q) (hbd : N + 2 * Q ≤ 800000 ∧ L ≤ 900000 ∧ Z < 800000 ∧ Q ≤ 300000 ∧ nm.size ≤ 1000 ∧ tn.size ≤ 1000) :
    Calls Tryz.prog 26 #[.pointer (some ⟨d, 0, none⟩), .agg #[.int .i64 6, .int .i64 a, .string nm, .string tn, .slice da dn dc]] w fun e w' => e = .returned (.tuple #[]) ∧ MkOut w w' B d (N + 2 * Q + 2) (Z + 1) L (Q + 1) := by
  obtain ⟨hN, hL, hZ, hQ, hsn, hst⟩ := hbd; obtain ⟨a3, b3, c3, a4, b4, c4, a5, b5, c5, k3, k4, k5, hn⟩ := h.nowCells; have hdl : d < w.heap.size := cell_block_lt k3; have hss : M.mn.ss.length ≤ N := h.smn.ns
  have hb34 : M.mn.ss.length = b3 ∧ M.mn.zs.length = b4 := by
    obtain ⟨_, _, _, _, _, _, _, _, _, e1, e2, e3, f1, f2, f3, -⟩ := hn.vals; simp only [Value.slice.injEq] at e1 e2 e3; exact ⟨by omega, by omega⟩
  obtain rfl : b3 = b4 := by have := h.smn.eq; omega
  have HSM : Hid (M.mn.Sm N Z L ∧ M.mn.ss.length = b3 ∧ M.mn.zs.length = b3) := ⟨h.smn, hb34⟩
  have e1 : (w.alloc (.cells #[.int .i64 6, .int .i64 a, .string nm, .string tn, .slice da dn dc] 33)).heap.size = w.heap.size + 1 := by simp
  have hg2 : w.grownBy ((w.alloc (.cells #[.int .i64 6, .int .i64 a, .string nm, .string tn, .slice da dn dc] 33)).alloc (.cells #[.slice a3 b3 c3, .slice a4 b3 c4, .slice a5 b5 c5] 60)) none := grownBy_alloc (grownBy_alloc (grownBy_refl _ _) _) _
  have HB2 : Hid (((w.alloc (.cells #[.int .i64 6, .int .i64 a, .string nm, .string tn, .slice da dn dc] 33)).alloc (.cells #[.slice a3 b3 c3, .slice a4 b3 c4, .slice a5 b5 c5] 60)).heap[w.heap.size]? = some (.cells #[.int .i64 6, .int .i64 a, .string nm, .string tn, .slice da dn dc] 33 (0, 0)) ∧ ((w.alloc (.cells #[.int .i64 6, .int .i64 a, .string nm, .string tn, .slice da dn dc] 33)).alloc (.cells #[.slice a3 b3 c3, .slice a4 b3 c4, .slice a5 b5 c5] 60)).heap[w.heap.size + 1]? = some (.cells #[.slice a3 b3 c3, .slice a4 b3 c4, .slice a5 b5 c5] 60 (0, 0))) := by
    refine ⟨grown_blk (World.grownBy_alloc _ _ none) (heap_alloc_new w _), ?_⟩; rw [← e1]; exact heap_alloc_new _ _
  have HD : Hid (DirAt w (.slice a3 b3 c3) (.slice a4 b3 c4) (.slice a5 b5 c5) M.mn ∧ MkAt w B d M N Z L Q) := ⟨hn, h⟩; have HC : Hid (Calls _ _ _ _ _) := dirAt_in (.slice a3 b3 c3) (.slice a4 b3 c4) (.slice a5 b5 c5) M.mn nm ((w.alloc (.cells #[.int .i64 6, .int .i64 a, .string nm, .string tn, .slice da dn dc] 33)).alloc (.cells #[.slice a3 b3 c3, .slice a4 b3 c4, .slice a5 b5 c5] 60)) (hn.grown0 hg2) (by omega); have HG2 : Hid (w.grownBy ((w.alloc (.cells #[.int .i64 6, .int .i64 a, .string nm, .string tn, .slice da dn dc] 33)).alloc (.cells #[.slice a3 b3 c3, .slice a4 b3 c4, .slice a5 b5 c5] 60)) none) := hg2; clear h hn hg2 e1 hb34
  go_enter Tryz.func26, Tryz.ntmps26
  go_wp2_with fail; refine HC.out.mono ?_; rintro e w0 ⟨ix, rfl, ⟨hi1, hi2, -⟩, hg1⟩; have HG0 : Hid (w.grownBy w0 none ∧ w0.heap[w.heap.size]? = some (.cells #[.int .i64 6, .int .i64 a, .string nm, .string tn, .slice da dn dc] 33 (0, 0)) ∧ w0.heap[w.heap.size + 1]? = some (.cells #[.slice a3 b3 c3, .slice a4 b3 c4, .slice a5 b5 c5] 60 (0, 0))) := ⟨grownBy_trans HG2.out hg1, grown_blk hg1 HB2.out.1, grown_blk hg1 HB2.out.2⟩; have HFR : Hid (Calls _ _ _ _ _) := fresh_any d B N Z L Q M w0 (HD.out.2.grown0 HG0.out.1) (by omega) (by omega) (by omega); clear HC HB2 HG2 hg1 k3 k4 k5; go_wp2_with fail; refine HFR.out.mono ?_; rintro e w1 ⟨⟨nf, hnf, rfl⟩, hg1⟩; have HB1 : Hid ((w1.heap[w.heap.size]? = some (.cells #[.int .i64 6, .int .i64 a, .string nm, .string tn, .slice da dn dc] 33 (0, 0)) ∧ w1.heap[w.heap.size + 1]? = some (.cells #[.slice a3 b3 c3, .slice a4 b3 c4, .slice a5 b5 c5] 60 (0, 0))) ∧ w.grownBy w1 none) := ⟨⟨grown_blk hg1 HG0.out.2.1, grown_blk hg1 HG0.out.2.2⟩, grownBy_trans HG0.out.1 hg1⟩; clear hg1 HFR HG0; have po0 : w1.cell? ⟨w.heap.size, 0, none⟩ = some (.int .i64 6) := (zCr HB1.out.1.1).trans rfl; have po1 : w1.cell? ⟨w.heap.size, 1, none⟩ = some (.int .i64 a) := (zCr HB1.out.1.1).trans rfl; have po2 : w1.cell? ⟨w.heap.size, 2, none⟩ = some (.string nm) := (zCr HB1.out.1.1).trans rfl; have po3 : w1.cell? ⟨w.heap.size, 3, none⟩ = some (.string tn) := (zCr HB1.out.1.1).trans rfl; have po4 : w1.cell? ⟨w.heap.size, 4, none⟩ = some (.slice da dn dc) := (zCr HB1.out.1.1).trans rfl; have pl0 : w1.cell? ⟨w.heap.size + 1, 0, none⟩ = some (.slice a3 b3 c3) := (zCr HB1.out.1.2).trans rfl; have pl1 : w1.cell? ⟨w.heap.size + 1, 1, none⟩ = some (.slice a4 b3 c4) := (zCr HB1.out.1.2).trans rfl; have pl2 : w1.cell? ⟨w.heap.size + 1, 2, none⟩ = some (.slice a5 b5 c5) := (zCr HB1.out.1.2).trans rfl
  go_upto_if 20 with fail
  go_cut [6] from 19 to 25 (fun v wx => (∃ bd : Nat, bd ≤ Z + 1 ∧ v = .int .i64 (bd : Int)) ∧ w1.grownBy wx none)
  case first =>
    by_cases h0 : 0 ≤ ix
    · obtain ⟨jx, rfl⟩ := int_nat h0
      have hj4 : jx < b3 := by have := HSM.out.2.1; omega
      have hj4I : (jx : Int) < (b3 : Int) := by omega
      obtain ⟨zb, zoff, z, hza, hzz, hzc⟩ := (HD.out.1.grown0 HB1.out.2).z.at jx hj4
      obtain ⟨bx, hbx, rfl⟩ : ∃ x : Nat, M.mn.zs[jx]? = some x ∧ z = (x : Int) := by
        rw [List.getElem?_map] at hzz; obtain ⟨x, hx, h9⟩ := Option.map_eq_some_iff.1 hzz; exact ⟨x, hx, h9.symm⟩
      have hbZ : bx ≤ Z + 1 := by have := HSM.out.1.z bx (List.mem_of_getElem? hbx); omega
      subst hza; clear hzz hbx; go_wp2; go_meet
      case rel => exact ⟨⟨bx, hbZ, rfl⟩, grownBy_refl _ _⟩
    · go_wp2; go_meet
      case rel => exact ⟨⟨nf, hnf, rfl⟩, grownBy_refl _ _⟩
  case rest =>
    obtain ⟨⟨bd, hbd, rfl⟩, hgc⟩ := hcut; obtain ⟨W5, hW5⟩ : ∃ y, wc = y := ⟨_, rfl⟩; rw [hW5] at hgc ⊢; clear hW5; have HB5 : Hid ((W5.heap[w.heap.size]? = some (.cells #[.int .i64 6, .int .i64 a, .string nm, .string tn, .slice da dn dc] 33 (0, 0)) ∧ W5.heap[w.heap.size + 1]? = some (.cells #[.slice a3 b3 c3, .slice a4 b3 c4, .slice a5 b5 c5] 60 (0, 0))) ∧ w.grownBy W5 none) := ⟨⟨grown_blk hgc HB1.out.1.1, grown_blk hgc HB1.out.1.2⟩, grownBy_trans HB1.out.2 hgc⟩; clear hgc po0 po1 po2 po3 po4 pl0 pl1 pl2 HB1; have ro0 : W5.cell? ⟨w.heap.size, 0, none⟩ = some (.int .i64 6) := (zCr HB5.out.1.1).trans rfl; have ro1 : W5.cell? ⟨w.heap.size, 1, none⟩ = some (.int .i64 a) := (zCr HB5.out.1.1).trans rfl; have ro2 : W5.cell? ⟨w.heap.size, 2, none⟩ = some (.string nm) := (zCr HB5.out.1.1).trans rfl; have ro3 : W5.cell? ⟨w.heap.size, 3, none⟩ = some (.string tn) := (zCr HB5.out.1.1).trans rfl; have ro4 : W5.cell? ⟨w.heap.size, 4, none⟩ = some (.slice da dn dc) := (zCr HB5.out.1.1).trans rfl; have rl0 : W5.cell? ⟨w.heap.size + 1, 0, none⟩ = some (.slice a3 b3 c3) := (zCr HB5.out.1.2).trans rfl; have rl1 : W5.cell? ⟨w.heap.size + 1, 1, none⟩ = some (.slice a4 b3 c4) := (zCr HB5.out.1.2).trans rfl; have rl2 : W5.cell? ⟨w.heap.size + 1, 2, none⟩ = some (.slice a5 b5 c5) := (zCr HB5.out.1.2).trans rfl; have HCM : Hid (Calls _ _ _ _ _) := sync_anyM d B N Z L Q M (bd : Int) W5 (HD.out.2.grown0 HB5.out.2) (by omega) (by omega) hL (by omega); go_wp2_with fail; refine HCM.out.mono ?_; rintro e w9 ⟨rfl, hmo⟩; have HF : Hid (MkOut w w9 B d (N + 2 * Q + 2) (Z + 1) L (Q + 1)) := hmo.wide HB5.out.2 (by omega) (by omega) (Nat.le_refl _) (by omega); clear HCM hmo; go_wp2; refine bodyPost_end (results_none rfl _ _ _) rfl ⟨rfl, HF.out⟩
set_option maxRecDepth 20000 in
set_option maxHeartbeats 8000000 in
theorem step7_anyM (d : Nat) (B : Bs) (N Z L Q : Nat) (M : Mk) (a : Int) (nm tn : ByteArray) (da : Option Addr) (dn dc : Nat) (w : World) (h : MkAt w B d M N Z L Q) (hbd : N + 2 * Q ≤ 800000 ∧ L ≤ 900000 ∧ Z < 800000 ∧ Q ≤ 300000 ∧ nm.size ≤ 1000 ∧ tn.size ≤ 1000) :
    Calls Tryz.prog 26 #[.pointer (some ⟨d, 0, none⟩), .agg #[.int .i64 7, .int .i64 a, .string nm, .string tn, .slice da dn dc]] w fun e w' => e = .returned (.tuple #[]) ∧ MkOut w w' B d (N + 2 * Q + 2) (Z + 1) L (Q + 1) := by
  obtain ⟨hN, hL, hZ, hQ, hsn, hst⟩ := hbd; obtain ⟨a3, b3, c3, a4, b4, c4, a5, b5, c5, k3, k4, k5, hn⟩ := h.nowCells; have hdl : d < w.heap.size := cell_block_lt k3; have hss : M.mn.ss.length ≤ N := h.smn.ns
  have hb34 : M.mn.ss.length = b3 ∧ M.mn.zs.length = b4 := by
    obtain ⟨_, _, _, _, _, _, _, _, _, e1, e2, e3, f1, f2, f3, -⟩ := hn.vals; simp only [Value.slice.injEq] at e1 e2 e3; exact ⟨by omega, by omega⟩
  obtain rfl : b3 = b4 := by have := h.smn.eq; omega
  have HSM : Hid (M.mn.Sm N Z L ∧ M.mn.ss.length = b3 ∧ M.mn.zs.length = b3) := ⟨h.smn, hb34⟩
  have e1 : (w.alloc (.cells #[.int .i64 7, .int .i64 a, .string nm, .string tn, .slice da dn dc] 33)).heap.size = w.heap.size + 1 := by simp
  have hg2 : w.grownBy ((w.alloc (.cells #[.int .i64 7, .int .i64 a, .string nm, .string tn, .slice da dn dc] 33)).alloc (.cells #[.slice a3 b3 c3, .slice a4 b3 c4, .slice a5 b5 c5] 60)) none := grownBy_alloc (grownBy_alloc (grownBy_refl _ _) _) _
  have HB2 : Hid (((w.alloc (.cells #[.int .i64 7, .int .i64 a, .string nm, .string tn, .slice da dn dc] 33)).alloc (.cells #[.slice a3 b3 c3, .slice a4 b3 c4, .slice a5 b5 c5] 60)).heap[w.heap.size]? = some (.cells #[.int .i64 7, .int .i64 a, .string nm, .string tn, .slice da dn dc] 33 (0, 0)) ∧ ((w.alloc (.cells #[.int .i64 7, .int .i64 a, .string nm, .string tn, .slice da dn dc] 33)).alloc (.cells #[.slice a3 b3 c3, .slice a4 b3 c4, .slice a5 b5 c5] 60)).heap[w.heap.size + 1]? = some (.cells #[.slice a3 b3 c3, .slice a4 b3 c4, .slice a5 b5 c5] 60 (0, 0))) := by
    refine ⟨grown_blk (World.grownBy_alloc _ _ none) (heap_alloc_new w _), ?_⟩; rw [← e1]; exact heap_alloc_new _ _
  have HD : Hid (DirAt w (.slice a3 b3 c3) (.slice a4 b3 c4) (.slice a5 b5 c5) M.mn ∧ MkAt w B d M N Z L Q) := ⟨hn, h⟩; have HC : Hid (Calls _ _ _ _ _) := dirAt_in (.slice a3 b3 c3) (.slice a4 b3 c4) (.slice a5 b5 c5) M.mn nm ((w.alloc (.cells #[.int .i64 7, .int .i64 a, .string nm, .string tn, .slice da dn dc] 33)).alloc (.cells #[.slice a3 b3 c3, .slice a4 b3 c4, .slice a5 b5 c5] 60)) (hn.grown0 hg2) (by omega); have HG2 : Hid (w.grownBy ((w.alloc (.cells #[.int .i64 7, .int .i64 a, .string nm, .string tn, .slice da dn dc] 33)).alloc (.cells #[.slice a3 b3 c3, .slice a4 b3 c4, .slice a5 b5 c5] 60)) none) := hg2; clear h hn hg2 e1 hb34
  go_enter Tryz.func26, Tryz.ntmps26
  go_wp2_with fail; refine HC.out.mono ?_; rintro e w0 ⟨ix, rfl, ⟨hi1, hi2, -⟩, hg1⟩; have HG0 : Hid (w.grownBy w0 none ∧ w0.heap[w.heap.size]? = some (.cells #[.int .i64 7, .int .i64 a, .string nm, .string tn, .slice da dn dc] 33 (0, 0)) ∧ w0.heap[w.heap.size + 1]? = some (.cells #[.slice a3 b3 c3, .slice a4 b3 c4, .slice a5 b5 c5] 60 (0, 0))) := ⟨grownBy_trans HG2.out hg1, grown_blk hg1 HB2.out.1, grown_blk hg1 HB2.out.2⟩; have HFR : Hid (Calls _ _ _ _ _) := fresh_any d B N Z L Q M w0 (HD.out.2.grown0 HG0.out.1) (by omega) (by omega) (by omega); clear HC HB2 HG2 hg1 k3 k4 k5; go_wp2_with fail; refine HFR.out.mono ?_; rintro e w1 ⟨⟨nf, hnf, rfl⟩, hg1⟩; have HB1 : Hid ((w1.heap[w.heap.size]? = some (.cells #[.int .i64 7, .int .i64 a, .string nm, .string tn, .slice da dn dc] 33 (0, 0)) ∧ w1.heap[w.heap.size + 1]? = some (.cells #[.slice a3 b3 c3, .slice a4 b3 c4, .slice a5 b5 c5] 60 (0, 0))) ∧ w.grownBy w1 none) := ⟨⟨grown_blk hg1 HG0.out.2.1, grown_blk hg1 HG0.out.2.2⟩, grownBy_trans HG0.out.1 hg1⟩; clear hg1 HFR HG0; have po0 : w1.cell? ⟨w.heap.size, 0, none⟩ = some (.int .i64 7) := (zCr HB1.out.1.1).trans rfl; have po1 : w1.cell? ⟨w.heap.size, 1, none⟩ = some (.int .i64 a) := (zCr HB1.out.1.1).trans rfl; have po2 : w1.cell? ⟨w.heap.size, 2, none⟩ = some (.string nm) := (zCr HB1.out.1.1).trans rfl; have po3 : w1.cell? ⟨w.heap.size, 3, none⟩ = some (.string tn) := (zCr HB1.out.1.1).trans rfl; have po4 : w1.cell? ⟨w.heap.size, 4, none⟩ = some (.slice da dn dc) := (zCr HB1.out.1.1).trans rfl; have pl0 : w1.cell? ⟨w.heap.size + 1, 0, none⟩ = some (.slice a3 b3 c3) := (zCr HB1.out.1.2).trans rfl; have pl1 : w1.cell? ⟨w.heap.size + 1, 1, none⟩ = some (.slice a4 b3 c4) := (zCr HB1.out.1.2).trans rfl; have pl2 : w1.cell? ⟨w.heap.size + 1, 2, none⟩ = some (.slice a5 b5 c5) := (zCr HB1.out.1.2).trans rfl
  go_upto_if 20 with fail
  go_cut [6] from 19 to 25 (fun v wx => (∃ bd : Nat, bd ≤ Z + 1 ∧ v = .int .i64 (bd : Int)) ∧ w1.grownBy wx none)
  case first =>
    by_cases h0 : 0 ≤ ix
    · obtain ⟨jx, rfl⟩ := int_nat h0
      have hj4 : jx < b3 := by have := HSM.out.2.1; omega
      have hj4I : (jx : Int) < (b3 : Int) := by omega
      obtain ⟨zb, zoff, z, hza, hzz, hzc⟩ := (HD.out.1.grown0 HB1.out.2).z.at jx hj4
      obtain ⟨bx, hbx, rfl⟩ : ∃ x : Nat, M.mn.zs[jx]? = some x ∧ z = (x : Int) := by
        rw [List.getElem?_map] at hzz; obtain ⟨x, hx, h9⟩ := Option.map_eq_some_iff.1 hzz; exact ⟨x, hx, h9.symm⟩
      have hbZ : bx ≤ Z + 1 := by have := HSM.out.1.z bx (List.mem_of_getElem? hbx); omega
      subst hza; clear hzz hbx; go_wp2; go_meet
      case rel => exact ⟨⟨bx, hbZ, rfl⟩, grownBy_refl _ _⟩
    · go_wp2; go_meet
      case rel => exact ⟨⟨nf, hnf, rfl⟩, grownBy_refl _ _⟩
  case rest =>
    obtain ⟨⟨bd, hbd, rfl⟩, hgc⟩ := hcut; obtain ⟨W5, hW5⟩ : ∃ y, wc = y := ⟨_, rfl⟩; rw [hW5] at hgc ⊢; clear hW5; have HB5 : Hid ((W5.heap[w.heap.size]? = some (.cells #[.int .i64 7, .int .i64 a, .string nm, .string tn, .slice da dn dc] 33 (0, 0)) ∧ W5.heap[w.heap.size + 1]? = some (.cells #[.slice a3 b3 c3, .slice a4 b3 c4, .slice a5 b5 c5] 60 (0, 0))) ∧ w.grownBy W5 none) := ⟨⟨grown_blk hgc HB1.out.1.1, grown_blk hgc HB1.out.1.2⟩, grownBy_trans HB1.out.2 hgc⟩; clear hgc po0 po1 po2 po3 po4 pl0 pl1 pl2 HB1; have ro0 : W5.cell? ⟨w.heap.size, 0, none⟩ = some (.int .i64 7) := (zCr HB5.out.1.1).trans rfl; have ro1 : W5.cell? ⟨w.heap.size, 1, none⟩ = some (.int .i64 a) := (zCr HB5.out.1.1).trans rfl; have ro2 : W5.cell? ⟨w.heap.size, 2, none⟩ = some (.string nm) := (zCr HB5.out.1.1).trans rfl; have ro3 : W5.cell? ⟨w.heap.size, 3, none⟩ = some (.string tn) := (zCr HB5.out.1.1).trans rfl; have ro4 : W5.cell? ⟨w.heap.size, 4, none⟩ = some (.slice da dn dc) := (zCr HB5.out.1.1).trans rfl; have rl0 : W5.cell? ⟨w.heap.size + 1, 0, none⟩ = some (.slice a3 b3 c3) := (zCr HB5.out.1.2).trans rfl; have rl1 : W5.cell? ⟨w.heap.size + 1, 1, none⟩ = some (.slice a4 b3 c4) := (zCr HB5.out.1.2).trans rfl; have rl2 : W5.cell? ⟨w.heap.size + 1, 2, none⟩ = some (.slice a5 b5 c5) := (zCr HB5.out.1.2).trans rfl; have HCM : Hid (Calls _ _ _ _ _) := sync_anyM d B N Z L Q M (-1) W5 (HD.out.2.grown0 HB5.out.2) (by omega) (by omega) hL (by omega); go_wp2_with fail; refine HCM.out.mono ?_; rintro e w9 ⟨rfl, hmo⟩; have HF : Hid (MkOut w w9 B d (N + 2 * Q + 2) (Z + 1) L (Q + 1)) := hmo.wide HB5.out.2 (by omega) (by omega) (Nat.le_refl _) (by omega); clear HCM hmo; go_wp2; refine bodyPost_end (results_none rfl _ _ _) rfl ⟨rfl, HF.out⟩
set_option maxRecDepth 20000 in
set_option maxHeartbeats 8000000 in
theorem step3_anyM (d : Nat) (B : Bs) (N Z L Q : Nat) (M : Mk) (a : Int) (nm tn : ByteArray) (da : Option Addr) (dn dc : Nat) (w : World) (h : MkAt w B d M N Z L Q) (hbd : N + 2 * Q ≤ 800000 ∧ L ≤ 900000 ∧ Z < 800000 ∧ Q ≤ 300000 ∧ nm.size ≤ 1000 ∧ tn.size ≤ 1000) (hfo : 0 ≤ a ∧ a ≤ (L : Int)) :
    Calls Tryz.prog 26 #[.pointer (some ⟨d, 0, none⟩), .agg #[.int .i64 3, .int .i64 a, .string nm, .string tn, .slice da dn dc]] w fun e w' => e = .returned (.tuple #[]) ∧ MkOut w w' B d (N + 2 * Q + 2) (Z + 1) L (Q + 1) := by
  obtain ⟨hN, hL, hZ, hQ, hsn, hst⟩ := hbd; obtain ⟨a3, b3, c3, a4, b4, c4, a5, b5, c5, k3, k4, k5, hn⟩ := h.nowCells; have hdl : d < w.heap.size := cell_block_lt k3; have hss : M.mn.ss.length ≤ N := h.smn.ns
  have hb34 : M.mn.ss.length = b3 ∧ M.mn.zs.length = b4 := by
    obtain ⟨_, _, _, _, _, _, _, _, _, e1, e2, e3, f1, f2, f3, -⟩ := hn.vals; simp only [Value.slice.injEq] at e1 e2 e3; exact ⟨by omega, by omega⟩
  obtain rfl : b3 = b4 := by have := h.smn.eq; omega
  have HSM : Hid (M.mn.Sm N Z L ∧ M.mn.ss.length = b3 ∧ M.mn.zs.length = b3) := ⟨h.smn, hb34⟩
  have e1 : (w.alloc (.cells #[.int .i64 3, .int .i64 a, .string nm, .string tn, .slice da dn dc] 33)).heap.size = w.heap.size + 1 := by simp
  have hg2 : w.grownBy ((w.alloc (.cells #[.int .i64 3, .int .i64 a, .string nm, .string tn, .slice da dn dc] 33)).alloc (.cells #[.slice a3 b3 c3, .slice a4 b3 c4, .slice a5 b5 c5] 60)) none := grownBy_alloc (grownBy_alloc (grownBy_refl _ _) _) _
  have HB2 : Hid (((w.alloc (.cells #[.int .i64 3, .int .i64 a, .string nm, .string tn, .slice da dn dc] 33)).alloc (.cells #[.slice a3 b3 c3, .slice a4 b3 c4, .slice a5 b5 c5] 60)).heap[w.heap.size]? = some (.cells #[.int .i64 3, .int .i64 a, .string nm, .string tn, .slice da dn dc] 33 (0, 0)) ∧ ((w.alloc (.cells #[.int .i64 3, .int .i64 a, .string nm, .string tn, .slice da dn dc] 33)).alloc (.cells #[.slice a3 b3 c3, .slice a4 b3 c4, .slice a5 b5 c5] 60)).heap[w.heap.size + 1]? = some (.cells #[.slice a3 b3 c3, .slice a4 b3 c4, .slice a5 b5 c5] 60 (0, 0))) := by
    refine ⟨grown_blk (World.grownBy_alloc _ _ none) (heap_alloc_new w _), ?_⟩; rw [← e1]; exact heap_alloc_new _ _
  have HD : Hid (DirAt w (.slice a3 b3 c3) (.slice a4 b3 c4) (.slice a5 b5 c5) M.mn ∧ MkAt w B d M N Z L Q) := ⟨hn, h⟩; have HC : Hid (Calls _ _ _ _ _) := dirAt_in (.slice a3 b3 c3) (.slice a4 b3 c4) (.slice a5 b5 c5) M.mn nm ((w.alloc (.cells #[.int .i64 3, .int .i64 a, .string nm, .string tn, .slice da dn dc] 33)).alloc (.cells #[.slice a3 b3 c3, .slice a4 b3 c4, .slice a5 b5 c5] 60)) (hn.grown0 hg2) (by omega); have HG2 : Hid (w.grownBy ((w.alloc (.cells #[.int .i64 3, .int .i64 a, .string nm, .string tn, .slice da dn dc] 33)).alloc (.cells #[.slice a3 b3 c3, .slice a4 b3 c4, .slice a5 b5 c5] 60)) none) := hg2; clear h hn hg2 e1 hb34
  go_enter Tryz.func26, Tryz.ntmps26
  go_wp2_with fail; refine HC.out.mono ?_; rintro e w0 ⟨ix, rfl, ⟨hi1, hi2, -⟩, hg1⟩; have HG0 : Hid (w.grownBy w0 none ∧ w0.heap[w.heap.size]? = some (.cells #[.int .i64 3, .int .i64 a, .string nm, .string tn, .slice da dn dc] 33 (0, 0)) ∧ w0.heap[w.heap.size + 1]? = some (.cells #[.slice a3 b3 c3, .slice a4 b3 c4, .slice a5 b5 c5] 60 (0, 0))) := ⟨grownBy_trans HG2.out hg1, grown_blk hg1 HB2.out.1, grown_blk hg1 HB2.out.2⟩; have HFR : Hid (Calls _ _ _ _ _) := fresh_any d B N Z L Q M w0 (HD.out.2.grown0 HG0.out.1) (by omega) (by omega) (by omega); clear HC HB2 HG2 hg1 k3 k4 k5; go_wp2_with fail; refine HFR.out.mono ?_; rintro e w1 ⟨⟨nf, hnf, rfl⟩, hg1⟩; have HB1 : Hid ((w1.heap[w.heap.size]? = some (.cells #[.int .i64 3, .int .i64 a, .string nm, .string tn, .slice da dn dc] 33 (0, 0)) ∧ w1.heap[w.heap.size + 1]? = some (.cells #[.slice a3 b3 c3, .slice a4 b3 c4, .slice a5 b5 c5] 60 (0, 0))) ∧ w.grownBy w1 none) := ⟨⟨grown_blk hg1 HG0.out.2.1, grown_blk hg1 HG0.out.2.2⟩, grownBy_trans HG0.out.1 hg1⟩; clear hg1 HFR HG0; have po0 : w1.cell? ⟨w.heap.size, 0, none⟩ = some (.int .i64 3) := (zCr HB1.out.1.1).trans rfl; have po1 : w1.cell? ⟨w.heap.size, 1, none⟩ = some (.int .i64 a) := (zCr HB1.out.1.1).trans rfl; have po2 : w1.cell? ⟨w.heap.size, 2, none⟩ = some (.string nm) := (zCr HB1.out.1.1).trans rfl; have po3 : w1.cell? ⟨w.heap.size, 3, none⟩ = some (.string tn) := (zCr HB1.out.1.1).trans rfl; have po4 : w1.cell? ⟨w.heap.size, 4, none⟩ = some (.slice da dn dc) := (zCr HB1.out.1.1).trans rfl; have pl0 : w1.cell? ⟨w.heap.size + 1, 0, none⟩ = some (.slice a3 b3 c3) := (zCr HB1.out.1.2).trans rfl; have pl1 : w1.cell? ⟨w.heap.size + 1, 1, none⟩ = some (.slice a4 b3 c4) := (zCr HB1.out.1.2).trans rfl; have pl2 : w1.cell? ⟨w.heap.size + 1, 2, none⟩ = some (.slice a5 b5 c5) := (zCr HB1.out.1.2).trans rfl
  go_upto_if 20 with fail
  go_cut [6] from 19 to 25 (fun v wx => (∃ bd : Nat, bd ≤ Z + 1 ∧ v = .int .i64 (bd : Int)) ∧ w1.grownBy wx none)
  case first =>
    by_cases h0 : 0 ≤ ix
    · obtain ⟨jx, rfl⟩ := int_nat h0
      have hj4 : jx < b3 := by have := HSM.out.2.1; omega
      have hj4I : (jx : Int) < (b3 : Int) := by omega
      obtain ⟨zb, zoff, z, hza, hzz, hzc⟩ := (HD.out.1.grown0 HB1.out.2).z.at jx hj4
      obtain ⟨bx, hbx, rfl⟩ : ∃ x : Nat, M.mn.zs[jx]? = some x ∧ z = (x : Int) := by
        rw [List.getElem?_map] at hzz; obtain ⟨x, hx, h9⟩ := Option.map_eq_some_iff.1 hzz; exact ⟨x, hx, h9.symm⟩
      have hbZ : bx ≤ Z + 1 := by have := HSM.out.1.z bx (List.mem_of_getElem? hbx); omega
      subst hza; clear hzz hbx; go_wp2; go_meet
      case rel => exact ⟨⟨bx, hbZ, rfl⟩, grownBy_refl _ _⟩
    · go_wp2; go_meet
      case rel => exact ⟨⟨nf, hnf, rfl⟩, grownBy_refl _ _⟩
  case rest =>
    obtain ⟨⟨bd, hbd, rfl⟩, hgc⟩ := hcut; obtain ⟨W5, hW5⟩ : ∃ y, wc = y := ⟨_, rfl⟩; rw [hW5] at hgc ⊢; clear hW5; have HB5 : Hid ((W5.heap[w.heap.size]? = some (.cells #[.int .i64 3, .int .i64 a, .string nm, .string tn, .slice da dn dc] 33 (0, 0)) ∧ W5.heap[w.heap.size + 1]? = some (.cells #[.slice a3 b3 c3, .slice a4 b3 c4, .slice a5 b5 c5] 60 (0, 0))) ∧ w.grownBy W5 none) := ⟨⟨grown_blk hgc HB1.out.1.1, grown_blk hgc HB1.out.1.2⟩, grownBy_trans HB1.out.2 hgc⟩; clear hgc po0 po1 po2 po3 po4 pl0 pl1 pl2 HB1; have ro0 : W5.cell? ⟨w.heap.size, 0, none⟩ = some (.int .i64 3) := (zCr HB5.out.1.1).trans rfl; have ro1 : W5.cell? ⟨w.heap.size, 1, none⟩ = some (.int .i64 a) := (zCr HB5.out.1.1).trans rfl; have ro2 : W5.cell? ⟨w.heap.size, 2, none⟩ = some (.string nm) := (zCr HB5.out.1.1).trans rfl; have ro3 : W5.cell? ⟨w.heap.size, 3, none⟩ = some (.string tn) := (zCr HB5.out.1.1).trans rfl; have ro4 : W5.cell? ⟨w.heap.size, 4, none⟩ = some (.slice da dn dc) := (zCr HB5.out.1.1).trans rfl; have rl0 : W5.cell? ⟨w.heap.size + 1, 0, none⟩ = some (.slice a3 b3 c3) := (zCr HB5.out.1.2).trans rfl; have rl1 : W5.cell? ⟨w.heap.size + 1, 1, none⟩ = some (.slice a4 b3 c4) := (zCr HB5.out.1.2).trans rfl; have rl2 : W5.cell? ⟨w.heap.size + 1, 2, none⟩ = some (.slice a5 b5 c5) := (zCr HB5.out.1.2).trans rfl
    go_upto_region 15 with fail
    go_cut [81] from 66 to 81 (fun v wx => (∃ bb : Bool, v = .bool bb) ∧ W5.grownBy wx none)
    case first =>
      by_cases hb5 : b5 ≤ bd
      · have hb5I : (b5 : Int) ≤ (bd : Int) := by omega
        go_quiet (fail); go_wp2; go_meet
        case rel => exact ⟨⟨_, rfl⟩, drewN_gr0 _ _⟩
      · have hb5I : ¬ (b5 : Int) ≤ (bd : Int) := by omega
        have hb5J : (bd : Int) < (b5 : Int) := by omega
        obtain ⟨db, doff, u, dd, hda, -, kq, hbv⟩ := (HD.out.1.d.grown0 HB5.out.2).at bd (by omega); subst hda; obtain ⟨ua, uc, hue, -⟩ := hbv.sl; obtain ⟨yn, hyn⟩ : ∃ y, dd.length = y := ⟨_, rfl⟩; rw [hyn] at hue; subst hue; clear hbv hyn; go_quiet (fail); go_wp2; go_meet
        case rel => exact ⟨⟨_, rfl⟩, drewN_gr0 _ _⟩
    case rest =>
      obtain ⟨⟨bb, rfl⟩, hgc⟩ := hcut; obtain ⟨W7, hW7⟩ : ∃ y, wc = y := ⟨_, rfl⟩; rw [hW7] at hgc ⊢; clear hW7; have HB7 : Hid ((W7.heap[w.heap.size]? = some (.cells #[.int .i64 3, .int .i64 a, .string nm, .string tn, .slice da dn dc] 33 (0, 0)) ∧ W7.heap[w.heap.size + 1]? = some (.cells #[.slice a3 b3 c3, .slice a4 b3 c4, .slice a5 b5 c5] 60 (0, 0))) ∧ w.grownBy W7 none) := ⟨⟨grown_blk hgc HB5.out.1.1, grown_blk hgc HB5.out.1.2⟩, grownBy_trans HB5.out.2 hgc⟩; clear hgc ro0 ro1 ro2 ro3 ro4 rl0 rl1 rl2 HB5; have so0 : W7.cell? ⟨w.heap.size, 0, none⟩ = some (.int .i64 3) := (zCr HB7.out.1.1).trans rfl; have so1 : W7.cell? ⟨w.heap.size, 1, none⟩ = some (.int .i64 a) := (zCr HB7.out.1.1).trans rfl; have so2 : W7.cell? ⟨w.heap.size, 2, none⟩ = some (.string nm) := (zCr HB7.out.1.1).trans rfl; have so3 : W7.cell? ⟨w.heap.size, 3, none⟩ = some (.string tn) := (zCr HB7.out.1.1).trans rfl; have so4 : W7.cell? ⟨w.heap.size, 4, none⟩ = some (.slice da dn dc) := (zCr HB7.out.1.1).trans rfl; have sl0 : W7.cell? ⟨w.heap.size + 1, 0, none⟩ = some (.slice a3 b3 c3) := (zCr HB7.out.1.2).trans rfl; have sl1 : W7.cell? ⟨w.heap.size + 1, 1, none⟩ = some (.slice a4 b3 c4) := (zCr HB7.out.1.2).trans rfl; have sl2 : W7.cell? ⟨w.heap.size + 1, 2, none⟩ = some (.slice a5 b5 c5) := (zCr HB7.out.1.2).trans rfl; have HFS : Hid (MkOut w W7 B d (N + 2 * Q + 2) (Z + 1) L (Q + 1)) := ⟨⟨M, (HD.out.2.grown0 HB7.out.2).mono (by omega) (by omega) (Nat.le_refl _) (by omega)⟩, Moves.of_grown0 HB7.out.2⟩
      cases bb
      · go_wp2; refine bodyPost_end (results_none rfl _ _ _) rfl ⟨rfl, HFS.out⟩
      · go_upto_region 16 with fail
        go_cut [100] from 66 to 100 (fun v wx => (∃ bb : Bool, v = .bool bb) ∧ wx = W7)
        case first =>
          by_cases ha0 : 0 < a
          · go_wp2; go_meet
            case rel => exact ⟨⟨_, rfl⟩, rfl⟩
          · by_cases hb5 : bd < b5
            · have hb5J : (bd : Int) < (b5 : Int) := by omega
              obtain ⟨db, doff, u, dd, hda, -, kq, hbv⟩ := (HD.out.1.d.grown0 HB7.out.2).at bd hb5; subst hda; obtain ⟨ua, uc, hue, -⟩ := hbv.sl; obtain ⟨yn, hyn⟩ : ∃ y, dd.length = y := ⟨_, rfl⟩; rw [hyn] at hue; subst hue; clear hbv hyn; go_wp2; go_meet
              case rel => exact ⟨⟨_, rfl⟩, rfl⟩
            · have hb5J : ¬ (bd : Int) < (b5 : Int) := by omega
              go_wp2; go_meet
              case rel => exact ⟨⟨_, rfl⟩, rfl⟩
        case rest =>
          obtain ⟨⟨bb, rfl⟩, hwc⟩ := hcut; rw [hwc]; clear hwc
          cases bb
          · go_wp2; refine bodyPost_end (results_none rfl _ _ _) rfl ⟨rfl, HFS.out⟩
          · have HCM : Hid (Calls _ _ _ _ _) := add_any d B N (Z + 1) L Q M ⟨2, (bd : Int), a, [], [], []⟩ (.slice none 0 0) (.slice none 0 0) (.slice none 0 0) W7 ((HD.out.2.grown0 HB7.out.2).mono (Nat.le_refl _) (by omega) (Nat.le_refl _) (Nat.le_refl _)) (by omega) (by omega) hL (by omega) ⟨bv_nil _, rs_nil _, ri_nil _⟩ ⟨rfl, by simp, by simp, by simp, ⟨by show (-1 : Int) ≤ (bd : Int); omega, by show (bd : Int) ≤ _; omega⟩, fun _ => ⟨by show (0 : Int) ≤ (bd : Int); omega, hfo.1, by have := hfo.2; simpa using this⟩, fun h9 => by simp at h9⟩ (.inr (.inl rfl)); go_wp2_with fail; refine HCM.out.mono ?_; rintro e w9 ⟨rfl, hmo⟩; have HF : Hid (MkOut w w9 B d (N + 2 * Q + 2) (Z + 1) L (Q + 1)) := hmo.wide HB7.out.2 (by omega) (Nat.le_refl _) (Nat.le_refl _) (Nat.le_refl _); clear HCM hmo HFS; go_wp2; refine bodyPost_end (results_none rfl _ _ _) rfl ⟨rfl, HF.out⟩
theorem MkAt.pushW {W w4 : World} {B : Bs} {d : Nat} {M : Mk} {N Z L Q : Nat} {v' : Value} {xs : List Value} (h : MkAt W B d M N Z L Q) (hown : w4.ownsRow B.n 65 6 v' (M.wn + 1) xs) (hg : W.grownBy w4 M.wv.ownBlock) (hnew : ∀ k, v'.ownBlock = some k → M.wv.ownBlock = some k ∨ W.heap.size ≤ k) : w4.heap[d]? = some M.box ∧ MkAt (w4.setCell ⟨d, 10, none⟩ v') B d { M with wv := v', wn := M.wn + 1, wc := xs } N Z L (Q + 1) ∧ Moves [] [63, 65] W (w4.setCell ⟨d, 10, none⟩ v') := by
  have hM4 : Moves [] [65] W w4 := Moves.of_row h.wr hg; have hb4 : w4.heap[d]? = some M.box := hM4.cells h.box (by decide) (by simp); have hMs : Moves [] [63] w4 (w4.setCell ⟨d, 10, none⟩ v') := set_type hb4
  have hT : ∀ t ∈ [65], t ≠ 9 ∧ t ≠ 3 ∧ t ≠ 22 ∧ t ≠ 5 := by decide
  have hT' : ∀ t ∈ [63], t ≠ 9 ∧ t ≠ 3 ∧ t ≠ 22 ∧ t ≠ 5 := by decide
  refine ⟨hb4, ⟨(heap_setCell_same w4 d 10 _ _ _ hb4).trans rfl, h.low, (h.syn.moves hM4 hT).moves hMs hT', h.sms, (h.now.moves hM4 hT).moves hMs hT', h.smn, ?_, fun e he => ((h.qc e he).moves hM4 hT).moves hMs hT', h.qo, by have := h.qn; show M.qs.length ≤ Q + 1; omega, own1_setT hown hb4 (by decide), by have := h.wn; show M.wn + 1 ≤ Q + 1; omega, fun k hk' hw => ?_, ?_⟩, (hM4.wide (fun _ h => h) (by simp)).trans (hMs.wide (fun _ h => h) (by simp))⟩
  · exact own1_setT (own1_kept h.q hg (fun k hk' hc' => h.ap k hk' hc')) hb4 (by decide)
  · rcases hnew k hw with h9 | h9
    · exact h.ap k hk' h9
    · obtain ⟨cur, h8⟩ := row_type h.q (g := k) hk'; have := (Array.getElem?_eq_some_iff.1 h8).1
      omega
  · exact fr_set (fr_row h.fr h.sizeB hg (fun k hk => own1_base h.wr hk)) h.low
theorem Tryz.sizeAns : (Tryz.prog.info? 35).map (·.size) = some 2 := by kernel_rfl
theorem results_ans {fn : Func} {t : Tmp} {w : World} {g : Nat} {vs : List Value} {tmps : Array Value} (h : fn.results = #[.cell t 35]) (ht : tmps.getD t undef = .pointer (some ⟨g, 0, none⟩)) (hg : w.heap[g]? = some (.cells vs.toArray 35 (0, 0))) (hl : vs.length = 2) : (results fn tmps).run Tryz.prog w = .ok (.agg vs.toArray) w := by
  have h1 := run_loadVar_mid (P := Tryz.prog) w g 0 35 vs _ (range_blk hg) Tryz.underlying35 rfl (by rw [hl]; exact Tryz.sizeAns); exact results_ret h ht h1
theorem setCells2_type {w : World} {g o : Nat} {cur : Array Value} {t : TypeId} {u0 u1 : Value} (h : w.heap[g]? = some (.cells cur t (0, 0))) : Moves [] [t] w (w.setCells g o [u0, u1]) := by
  have h1 := heap_setCell_same w g o cur t u0 h; exact (set_type (i := o) (u := u0) h).trans (set_type (i := o + 1) (u := u1) h1)
theorem MkAt.ansSet {W : World} {B : Bs} {d g : Nat} {M : Mk} {N Z L Q : Nat} {cur : Array Value} {u0 u1 : Value} (h : MkAt W B d M N Z L Q) (hb : W.heap[g]? = some (.cells cur 35 (0, 0))) (hB : B.n ≤ g) : MkAt (W.setCells g 0 [u0, u1]) B d M N Z L Q ∧ Moves [] [35] W (W.setCells g 0 [u0, u1]) := by
  have hMs : Moves [] [35] W (W.setCells g 0 [u0, u1]) := setCells2_type hb
  have hT' : ∀ t ∈ [35], t ≠ 9 ∧ t ≠ 3 ∧ t ≠ 22 ∧ t ≠ 5 := by decide
  exact ⟨⟨hMs.cells h.box (by decide) (by simp), h.low, h.syn.moves hMs hT', h.sms, h.now.moves hMs hT', h.smn, own_setCells h.q hb (by decide), fun e he => (h.qc e he).moves hMs hT', h.qo, h.qn, own_setCells h.wr hb (by decide), h.wn, h.ap, fr_setCells h.fr hB⟩, hMs⟩
def DoOutM (w w' : World) (B : Bs) (d N Z L Q : Nat) : Prop := (∃ M', MkAt w' B d M' N Z L Q) ∧ Moves [] [63, 65] w w'
theorem MkOut.ans {w w0 w1 : World} {B : Bs} {d N Z L Q g : Nat} {cur : List Value} {u0 u1 : Value} (h : MkOut w0 w1 B d N Z L Q) (hg : w.grownBy w0 none) (hn : d ≤ g ∧ w.heap.size ≤ g) (hb : w0.heap[g]? = some (.cells cur.toArray 35 (0, 0))) (hl : cur.length = 2) : (w1.setCells g 0 [u0, u1]).heap[g]? = some (.cells [u0, u1].toArray 35 (0, 0)) ∧ w1.there g 0 2 ∧ DoOutM w (w1.setCells g 0 [u0, u1]) B d N Z L Q := by
  obtain ⟨⟨M', hM⟩, hm⟩ := h; have hb1 : w1.heap[g]? = some (.cells cur.toArray 35 (0, 0)) := hm.cells hb (by decide) (by simp); obtain ⟨f1, f2⟩ := hM.ansSet (u0 := u0) (u1 := u1) hb1 (Nat.le_trans hM.low hn.1); have hs := hg.size; have hn' := hn.2; refine ⟨setCells_all hb1 hl, there_blk hb1 hl, ⟨M', f1⟩, ?_⟩; refine ⟨(f2.os.trans hm.os).trans hg.os, (f2.tape.trans hm.tape).trans hg.tape, (f2.output.trans hm.output).trans hg.output, Nat.le_trans hs (Nat.le_trans hm.size f2.size), fun j hj hc => ?_⟩; have e1 : w0.heap[j]? = w.heap[j]? := hg.block j hj (by simp)
  have e2 : w1.heap[j]? = w0.heap[j]? := hm.block j (by omega) (fun hc' => hc (by
    rcases hc' with h9 | ⟨cur', t', f', h9, h8⟩
    · exact .inl h9
    · exact .inr ⟨cur', t', f', by rw [← e1]; exact h9, h8⟩))
  exact (setCells_oth g j (by omega) _ _ _).trans (e2.trans e1)
end Go.Proofs.YtgehhfncjoogiaaGreatDoor
