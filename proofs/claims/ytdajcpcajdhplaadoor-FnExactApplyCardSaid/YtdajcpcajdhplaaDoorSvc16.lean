/-
  Ap4, Ap5, Ap7, Ap8, SpBuild, SpAp1, SpAp2, Ap6, SpApM
-/
import Derived.Test.YtdajcpcajdhplaaDoorSvc15
import Derived.Test.YtdajcpcajdhplaaDoorSvc12
import Derived.Test.YtdajcpcajdhplaaDoorSvc13
import Derived.Test.YtdajcpcajdhplaaDoorSvc14
import Derived.Test.YtdajcpcajdhplaaDoorSvc8
/-
  The program's apply where the item is kept, of a client without a session (written by tools/gen_apply.py).
-/
namespace Go.Proofs.YtdajcpcajdhplaaDoor
open Go.RowKit

set_option maxRecDepth 4000 in
set_option maxHeartbeats 4000000 in
theorem apply_new (p gk kn kc gs sc : Nat) (b : Int) (S : List El) (k : Nat) (oa : Option Addr) (len cap : Nat) (zs : List Nat) (K : List El) (w : World) (hsl : SlB w oa len zs) (hcp : len ≤ cap) (hm : len ≤ 1073741824) (hd : decGood zs)
    (hp : w.heap[p]? = some (.cells #[.int .i64 b, .slice (some ⟨gk, 0, none⟩) kn kc, .slice (some ⟨gs, 0, none⟩) S.length sc] 28 (0, 0))) (hS : ElAt w 74 3 gs S) (hr : risesE 0 S) (hn : S.length ≤ 1048576) (hb : -1000000000000 ≤ b ∧ b ≤ 1000000000000) (hkn : kn ≤ 1048576)
    (hk : Spot S (decCl zs : Int) k) (hku : knownAt S (decCl zs : Int) k = false) (hKl : K.length = kn) (hK : ElAt w 32 2 gk K) (hkc : kc = kn) (hsc : sc = S.length) (hnf : b + (kn : Int) ≠ 1000000) :
    Calls Tryd.prog 35 #[.pointer (some ⟨p, 0, none⟩), .slice oa len cap] w fun e w' => e = .returned (.tuple #[.int .i64 (b + (kn : Int)), .nilIface]) ∧ KeepOut w w' p b kn K (decCl zs : Int) (decSq zs : Int) (zs.drop 8) (fun z => S.take k ++ z :: S.drop k) (fun _ => False) := by
  have h8 : 8 ≤ len := by have h1 := hd.1; have h2 := hsl.1; omega
  have e0 : ((len : Int) == 0) = false := by have : (len : Int) ≠ 0 := by omega
                                             simpa using this
  have HD : Hid (Calls Tryd.prog 11 #[.slice oa len cap] w fun e w' => ∃ g cp, e = .returned (.tuple #[.agg #[.int .i64 (decCl zs : Int), .int .i64 (decSq zs : Int), .slice (some ⟨g, 0, none⟩) (len - 8) cp], .int .i64 0]) ∧ w.heap.size ≤ g ∧ Own w' 5 g (zs.drop 8) ∧ w.grownBy w' none) := decItem_good oa len cap zs w hsl hcp hm hd
  have HL : Hid ((zs.drop 8).length = len - 8) := by have := hsl.1; show _ = _; simp; omega
  obtain ⟨key, hkey⟩ : ∃ key : Int, (decCl zs : Int) = key := ⟨_, rfl⟩; obtain ⟨sq, hsq⟩ : ∃ sq : Int, (decSq zs : Int) = sq := ⟨_, rfl⟩; obtain ⟨ln, hln⟩ : ∃ ln, S.length = ln := ⟨_, rfl⟩; rw [hln] at hp; have HQ : Hid ((decCl zs : Int) = key ∧ (decSq zs : Int) = sq ∧ zs.length = len) := ⟨hkey, hsq, hsl.1⟩; rw [hkey] at HD hk hku; rw [hsq] at HD; have HK : Hid (knownAt S key k = false) := hku; clear hku
  have e1 : (b + (kn : Int) == 1000000) = false := by simpa using hnf
  have HKC : Hid (kc = kn) := hkc; have HSC : Hid (sc = ln) := hsc.trans hln; have HKNN : Hid (kn ≤ 1048576) := hkn; have HA : Hid (ElAt w 74 3 gs S ∧ risesE 0 S ∧ S.length ≤ 1048576 ∧ Spot S key k ∧ S.length = ln ∧ w.heap[p]? = some (.cells #[.int .i64 b, .slice (some ⟨gk, 0, none⟩) kn kc, .slice (some ⟨gs, 0, none⟩) ln sc] 28 (0, 0)) ∧ ElAt w 32 2 gk K ∧ K.length = kn) := ⟨hS, hr, hn, hk, hln, hp, hK, hKl⟩
  have HLN : Hid (ln ≤ 1048576) := by show _ ≤ _; omega
  have HCN : Hid (∀ X : World, Calls Tryd.prog 38 #[.agg #[.int .i64 b, .slice (some ⟨gk, 0, none⟩) kn kc, .slice (some ⟨gs, 0, none⟩) ln sc]] X fun e w' => e = .returned (.int .i64 (b + (kn : Int))) ∧ X.grownBy w' none) := fun X => countE_any b _ kn kc _ X hb hkn
  clear hKl hK hnf hkc hsc hsl hd hp hS hr hn hk hkey hsq hln hb hkn
  go_enter Tryd.func35, Tryd.ntmps35
  go_wp2_with fail; refine HD.out.mono ?_; rintro e w1 ⟨gx, cx, rfl, hgx, hO1, hG1⟩; have HX : Hid (w.heap.size ≤ gx ∧ Own w1 5 gx (zs.drop 8) ∧ w.grownBy w1 none) := ⟨hgx, hO1, hG1⟩; clear hgx hO1 hG1; go_wp2_with fail; obtain ⟨W2, hW2⟩ : ∃ W2, W2 = w1.alloc (.cells #[.int .i64 key, .int .i64 sq, .slice (some ⟨gx, 0, none⟩) (len - 8) cx] 32) := ⟨_, rfl⟩; obtain ⟨y, hy⟩ : ∃ y, w1.heap.size = y := ⟨_, rfl⟩
  have HG2 : Hid (w.grownBy W2 none ∧ W2.heap[y]? = some (.cells #[.int .i64 key, .int .i64 sq, .slice (some ⟨gx, 0, none⟩) (len - 8) cx] 32 (0, 0)) ∧ Own W2 5 gx (zs.drop 8) ∧ w.heap.size ≤ gx ∧ gx < y) := by
    subst hW2 hy; exact ⟨grownBy_alloc HX.out.2.2 _, heap_alloc_new w1 _, HX.out.2.1.grown (World.grownBy_alloc _ _ none) (by simp), HX.out.1, HX.out.2.1.lt⟩
  rw [← hW2, hy]; have HPB : Hid (W2.heap[p]? = some (.cells #[.int .i64 b, .slice (some ⟨gk, 0, none⟩) kn kc, .slice (some ⟨gs, 0, none⟩) ln sc] 28 (0, 0))) := (HG2.out.1.block p (Array.getElem?_eq_some_iff.1 HA.out.2.2.2.2.2.1).1 (by simp)).trans HA.out.2.2.2.2.2.1
  have p2 : W2.cell? ⟨p, 2, none⟩ = some (.slice (some ⟨gs, 0, none⟩) ln sc) := by simp [World.cell?, HPB.out]
  have y0 : W2.cell? ⟨y, 0, none⟩ = some (.int .i64 key) := by simp [World.cell?, HG2.out.2.1]
  have HS : Hid (∀ X : World, Same W2 X → Calls Tryd.prog 59 #[.slice (some ⟨gs, 0, none⟩) ln sc, .int .i64 key, .func (.func 60) #[] #[]] X fun e w2 => e = .returned (.tuple #[.int .i64 (k : Int), .bool false]) ∧ (w2.cell? ⟨p, 2, none⟩ = some (.slice (some ⟨gs, 0, none⟩) ln sc) ∧ w2.cell? ⟨y, 0, none⟩ = some (.int .i64 key)) ∧ Hid (W2.grownBy w2 none)) := by
    intro X hX; obtain ⟨hS, hr, hn, hk, hln, -⟩ := HA.out; have GX : W2.grownBy X none := grownBy_same (grownBy_refl _ _) hX; have hSX : ElAt X 74 3 gs S := hS.kept (fun j hj _ => (grownBy_trans HG2.out.1 GX).block j hj (by simp)); have h := search_any gs sc S key X hSX hr hn; rw [hln] at h; refine h.mono ?_; rintro e w2 ⟨k', rfl, hk', hG2⟩; obtain rfl := hk.one hk'; have G3 : W2.grownBy w2 none := grownBy_trans GX hG2; exact ⟨by rw [HK.out], ⟨((bcell G3).1 _ _ (cell_block_lt p2)).trans p2, ((bcell G3).1 _ _ (cell_block_lt y0)).trans y0⟩, G3⟩
  clear hW2 hy
  go_region_held3 (fun w' => w'.cell? ⟨p, 2, none⟩ = some (.slice (some ⟨gs, 0, none⟩) ln sc) ∧ w'.cell? ⟨y, 0, none⟩ = some (.int .i64 key)) (first | go_keep | exact ⟨p2, y0⟩ | exact hD | fail)
    (first
      | (go_at_call 59; refine (HS.out _ (by exact ⟨rfl, rfl, rfl, rfl⟩)).mono ?_; rintro e w2 ⟨rfl, hD, HG3⟩)
      | fail)
  all_goals
    clear p2 y0; obtain ⟨p2, y0⟩ := hD; have HYB : Hid (w2.heap[y]? = some (.cells #[.int .i64 key, .int .i64 sq, .slice (some ⟨gx, 0, none⟩) (len - 8) cx] 32 (0, 0)) ∧ w2.heap[p]? = some (.cells #[.int .i64 b, .slice (some ⟨gk, 0, none⟩) kn kc, .slice (some ⟨gs, 0, none⟩) ln sc] 28 (0, 0)) ∧ gx < y ∧ w.heap.size ≤ gx) := ⟨(HG3.out.block _ (Array.getElem?_eq_some_iff.1 HG2.out.2.1).1 (by simp)).trans HG2.out.2.1, (HG3.out.block _ (Array.getElem?_eq_some_iff.1 HPB.out).1 (by simp)).trans HPB.out, HG2.out.2.2.2.2, HG2.out.2.2.2.1⟩
    have y1 : w2.cell? ⟨y, 1, none⟩ = some (.int .i64 sq) := by simp [World.cell?, HYB.out.1]
    have p0 : w2.cell? ⟨p, 0, none⟩ = some (.int .i64 b) := by simp [World.cell?, HYB.out.2.1]
    have p1 : w2.cell? ⟨p, 1, none⟩ = some (.slice (some ⟨gk, 0, none⟩) kn kc) := by simp [World.cell?, HYB.out.2.1]
    have HG4 : Hid (w.grownBy w2 none ∧ Own w2 5 gx (zs.drop 8)) := ⟨grownBy_trans HG2.out.1 HG3.out, HG2.out.2.2.1.grown HG3.out (by simp)⟩; clear HD HX HS HPB; go_wp2; go_quiet (fail); go_wp2_with fail; refine (HCN.out _).mono ?_; rintro e w3 ⟨rfl, hG5⟩; have HG5 : Hid (w2.grownBy w3 none) := ⟨hG5.os, hG5.tape, hG5.output, hG5.size, hG5.block⟩; clear hG5 HCN; have HB2 : Hid (w3.heap[y]? = some (.cells #[.int .i64 key, .int .i64 sq, .slice (some ⟨gx, 0, none⟩) (len - 8) cx] 32 (0, 0)) ∧ w3.heap[p]? = some (.cells #[.int .i64 b, .slice (some ⟨gk, 0, none⟩) kn kc, .slice (some ⟨gs, 0, none⟩) ln sc] 28 (0, 0)) ∧ w.grownBy w3 none ∧ Own w3 5 gx (zs.drop 8)) := ⟨(HG5.out.block _ (Array.getElem?_eq_some_iff.1 HYB.out.1).1 (by simp)).trans HYB.out.1, (HG5.out.block _ (Array.getElem?_eq_some_iff.1 HYB.out.2.1).1 (by simp)).trans HYB.out.2.1, grownBy_trans HG4.out.1 HG5.out, HG4.out.2.grown HG5.out (by simp)⟩; clear p0 p1 p2 y0 y1 HG2 HG3 HG5
    have HIN : Hid (∀ X : World, Same (w3.alloc (.cells #[.int .i64 0, .int .i64 0, .int .i64 0, .slice none 0 0] 74)) X → Calls Tryd.prog 62 #[.slice (some ⟨gs, 0, none⟩) ln sc, .int .i64 (k : Int), .slice (some ⟨w3.heap.size, 0, none⟩) 1 1] X fun e wi => ∃ Gs, e = .returned (.slice (some ⟨w3.heap.size + 1, 0, none⟩) (ln + 1) Gs) ∧ (wi.cell? ⟨p, 2, none⟩ = some (.slice (some ⟨gs, 0, none⟩) ln sc) ∧ wi.frozen? ⟨p, 2, none⟩ = false) ∧ Hid (w3.grownBy wi none ∧ ∃ cur : Array Value, wi.heap[w3.heap.size + 1]? = some (.cells cur 74 (0, 0)) ∧ ∀ j, j < ln * 4 + 4 → cur[j]? = ((S.flatMap El.cells).take (k * 4) ++ sesZ ++ (S.flatMap El.cells).drop (k * 4))[j]?)) := by
      intro X hX; have GX : w3.grownBy X none := grownBy_same (World.grownBy_alloc _ _ _) hX
      have hz : X.heap.size = w3.heap.size + 1 := by rw [hX.1]; simp
      have hSX : ElAt X 74 3 gs S := HA.out.1.kept (fun j hj _ => (grownBy_trans HB2.out.2.2.1 GX).block j hj (by simp))
      have hvb : X.heap[w3.heap.size]? = some (.cells #[.int .i64 0, .int .i64 0, .int .i64 0, .slice none 0 0] 74 (0, 0)) := by rw [hX.1]; exact heap_alloc_new w3 _
      have hfl := elflat_len 3 S hSX.hds
      have h := insert_any gs ln k w3.heap.size 1 (S.flatMap El.cells) X (by have h1 := HA.out.2.2.2.1.le; have h2 := HA.out.2.2.2.2.1; omega) HLN.out (by rw [hfl, HA.out.2.2.2.2.1]) hSX.lt (by omega) (elflat_one S) hSX.flat (fun j v hj => by
        simp only [World.cell?, hvb]; rw [← Array.getElem?_toList]
        exact hj)
      rw [hz] at h; rw [HSC.out]; refine h.mono ?_; rintro e wi ⟨G, cur, rfl, -, hc1, hc2, hG⟩; have GI : w3.grownBy wi none := grownBy_trans GX hG; have hb := (GI.block p (Array.getElem?_eq_some_iff.1 HB2.out.2.1).1 (by simp)).trans HB2.out.2.1; rw [HSC.out] at hb; exact ⟨G, rfl, by simp [World.cell?, World.frozen?, hb], GI, cur, hc1, hc2⟩
    have p2 : w3.cell? ⟨p, 2, none⟩ = some (.slice (some ⟨gs, 0, none⟩) ln sc) := by simp [World.cell?, HB2.out.2.1]
    have hpw : p < w3.heap.size := (Array.getElem?_eq_some_iff.1 HB2.out.2.1).1; go_wp2_with fail; refine (HIN.out _ (by exact ⟨rfl, rfl, rfl, rfl⟩)).mono ?_; rintro e wi ⟨Gs, rfl, ⟨q2, z2⟩, HI⟩; clear p2 HIN; go_wp2_with fail; obtain ⟨gn, hgn⟩ : ∃ gn, w3.heap.size + 1 = gn := ⟨_, rfl⟩; rw [hgn]; obtain ⟨W3, hW3⟩ : ∃ W3, W3 = wi.setCell ⟨p, 2, none⟩ (.slice (some ⟨gn, 0, none⟩) (ln + 1) Gs) := ⟨_, rfl⟩; have HGN : Hid (w.heap.size ≤ gn ∧ y < gn ∧ p < w.heap.size) := ⟨by have := HB2.out.2.2.1.size; omega, by have := (Array.getElem?_eq_some_iff.1 HB2.out.1).1; omega, (Array.getElem?_eq_some_iff.1 HA.out.2.2.2.2.2.1).1⟩
    have HB3 : Hid (W3.heap[y]? = some (.cells #[.int .i64 key, .int .i64 sq, .slice (some ⟨gx, 0, none⟩) (len - 8) cx] 32 (0, 0)) ∧ W3.heap[p]? = some (.cells #[.int .i64 b, .slice (some ⟨gk, 0, none⟩) kn kc, .slice (some ⟨gn, 0, none⟩) (ln + 1) Gs] 28 (0, 0)) ∧ Only (fun j => j = p) w W3 ∧ Own W3 5 gx (zs.drop 8)) := by
      have GI := HI.out.1; have hbp := (GI.block p (Array.getElem?_eq_some_iff.1 HB2.out.2.1).1 (by simp)).trans HB2.out.2.1; have hby := (GI.block y (Array.getElem?_eq_some_iff.1 HB2.out.1).1 (by simp)).trans HB2.out.1
      have hyp : y ≠ p := fun e => by rw [e, hbp] at hby; simp at hby
      have hgp : gx ≠ p := fun e => by subst e; exact absurd (own_type (HB2.out.2.2.2.grown GI (by simp)) hbp) (by decide)
      rw [hW3]; refine ⟨(heap_setCell_other _ _ _ _ hyp).trans hby, ?_, ?_, (HB2.out.2.2.2.grown GI (by simp)).of_block (heap_setCell_other _ _ _ _ hgp)⟩
      · rw [heap_setCell_same wi p 2 _ _ _ hbp]; rfl
      · exact (Only.of (grownBy_trans HB2.out.2.2.1 GI) (fun k e => by cases e)).set p 2 _ rfl
    have HGSC : Hid (∃ cur : Array Value, W3.heap[gn]? = some (.cells cur 74 (0, 0)) ∧ ∀ j, j < ln * 4 + 4 → cur[j]? = ((S.flatMap El.cells).take (k * 4) ++ sesZ ++ (S.flatMap El.cells).drop (k * 4))[j]?) := by
      obtain ⟨cur, h1, h2⟩ := HI.out.2; rw [hgn] at h1; refine ⟨cur, ?_, h2⟩; rw [hW3, heap_setCell_other wi ⟨p, 2, none⟩ gn _ (by show gn ≠ p; obtain ⟨h5, -, h6⟩ := HGN.out; omega)]; exact h1
    have HGSB : Hid (∃ cur : Array Value, W3.heap[gn]? = some (.cells cur 74 (0, 0)) ∧ k * 4 + 4 ≤ cur.size) := by
      obtain ⟨cur, h1, h2⟩ := HGSC.out; refine ⟨cur, h1, ?_⟩
      have hle : k ≤ ln := by have h1 := HA.out.2.2.2.1.le; have h2 := HA.out.2.2.2.2.1; omega
      have hfl := elflat_len 3 S HA.out.1.hds; have hll := HA.out.2.2.2.2.1; have h := h2 (k * 4 + 3) (by omega); rw [List.append_assoc, List.getElem?_append_right (by rw [List.length_take, hfl]; omega), List.length_take, hfl, show k * 4 + 3 - min (k * 4) (S.length * (3 + 1)) = 3 by omega] at h
      rcases Nat.lt_or_ge (k * 4 + 3) cur.size with h' | h'
      · omega
      · rw [Array.getElem?_eq_none h'] at h
        simp [sesZ] at h
    have hkl : k < ln + 1 := by have h1 := HA.out.2.2.2.1.le; have h2 := HA.out.2.2.2.2.1; omega
    rw [← hW3]; clear hW3 q2 z2 HI
    have hpg : p ≠ gn := by
      intro e; obtain ⟨cur, h1, -⟩ := HGSB.out; rw [← e, HB3.out.2.1] at h1
      simp at h1
    have hyg : y ≠ gn := by
      intro e; obtain ⟨cur, h1, -⟩ := HGSB.out; rw [← e, HB3.out.1] at h1
      simp at h1
    have HCL : Hid (∀ X : World, Same W3 X → Calls Tryd.prog 54 #[.slice (some ⟨gx, 0, none⟩) (len - 8) cx] X fun e w4 => ∃ gd cd, e = .returned (.slice (some ⟨gd, 0, none⟩) (len - 8) cd) ∧ (w4.cell? ⟨p, 2, none⟩ = some (.slice (some ⟨gn, 0, none⟩) (ln + 1) Gs) ∧ w4.cell? ⟨y, 0, none⟩ = some (.int .i64 key) ∧ w4.cell? ⟨y, 1, none⟩ = some (.int .i64 sq) ∧ w4.cell? ⟨y, 2, none⟩ = some (.slice (some ⟨gx, 0, none⟩) (len - 8) cx)) ∧ (∃ v0 v1 v2 v3 : Value, w4.cell? ⟨gn, k * 4, none⟩ = some v0 ∧ w4.cell? ⟨gn, k * 4 + 1, none⟩ = some v1 ∧ w4.cell? ⟨gn, k * 4 + 2, none⟩ = some v2 ∧ w4.cell? ⟨gn, k * 4 + 3, none⟩ = some v3 ∧ w4.frozen? ⟨gn, k * 4, none⟩ = false ∧ w4.frozen? ⟨gn, k * 4 + 1, none⟩ = false ∧ w4.frozen? ⟨gn, k * 4 + 2, none⟩ = false ∧ w4.frozen? ⟨gn, k * 4 + 3, none⟩ = false) ∧ Hid (W3.grownBy w4 none ∧ W3.heap.size ≤ gd ∧ Own w4 5 gd (zs.drop 8))) := by
      intro X hX; have GX : W3.grownBy X none := grownBy_same (grownBy_refl _ _) hX; refine (bclone_some ⟨gx, 0, none⟩ (len - 8) cx (zs.drop 8) X ((HB3.out.2.2.2.sl _ HL.out).grown0 GX) (by omega)).mono ?_; rintro e w4 ⟨gd, cd, rfl, hgd, hO, hG⟩; have G4 : W3.grownBy w4 none := grownBy_trans GX hG; have b1 := (G4.block _ (Array.getElem?_eq_some_iff.1 HB3.out.1).1 (by simp)).trans HB3.out.1; have b2 := (G4.block _ (Array.getElem?_eq_some_iff.1 HB3.out.2.1).1 (by simp)).trans HB3.out.2.1; obtain ⟨cur, h1, h2⟩ := HGSB.out; have b3 := (G4.block _ (Array.getElem?_eq_some_iff.1 h1).1 (by simp)).trans h1
      have l0 : k * 4 < cur.size := by omega
      have l1 : k * 4 + 1 < cur.size := by omega
      have l2 : k * 4 + 2 < cur.size := by omega
      have l3 : k * 4 + 3 < cur.size := by omega
      refine ⟨gd, cd, rfl, by simp [World.cell?, b1, b2], ?_, G4, by rw [← hX.1]; exact hgd, hO⟩; exact ⟨cur[k * 4], cur[k * 4 + 1], cur[k * 4 + 2], cur[k * 4 + 3], by simp [World.cell?, b3, l0], by simp [World.cell?, b3, l1], by simp [World.cell?, b3, l2], by simp [World.cell?, b3, l3], by simp [World.frozen?, b3], by simp [World.frozen?, b3], by simp [World.frozen?, b3], by simp [World.frozen?, b3]⟩
    have HC0 : Hid (W3.cell? ⟨p, 2, none⟩ = some (.slice (some ⟨gn, 0, none⟩) (ln + 1) Gs) ∧ W3.cell? ⟨y, 0, none⟩ = some (.int .i64 key) ∧ W3.cell? ⟨y, 1, none⟩ = some (.int .i64 sq) ∧ W3.cell? ⟨y, 2, none⟩ = some (.slice (some ⟨gx, 0, none⟩) (len - 8) cx)) := by show _ ∧ _; simp [World.cell?, HB3.out.1, HB3.out.2.1]
    have hC0 := HC0.out; obtain ⟨p2, y0, y1, y2⟩ := HC0.out
    have hkI : (k : Int) < ((ln + 1) : Int) := by omega
    have p0 : W3.cell? ⟨p, 0, none⟩ = some (.int .i64 b) := by simp [World.cell?, HB3.out.2.1]
    go_wp2_with fail
    go_region_held3 (fun W => W.cell? ⟨p, 2, none⟩ = some (.slice (some ⟨gn, 0, none⟩) (ln + 1) Gs) ∧ W.cell? ⟨y, 0, none⟩ = some (.int .i64 key) ∧ W.cell? ⟨y, 1, none⟩ = some (.int .i64 sq) ∧ W.cell? ⟨y, 2, none⟩ = some (.slice (some ⟨gx, 0, none⟩) (len - 8) cx)) (first | go_keep | exact hC0 | exact hC4 | (simp only [cell_set_ne _ _ _ _ _ _ hpg, cell_set_ne _ _ _ _ _ _ hyg]; exact hC4) | fail)
      (first
        | (go_at_call 54; refine (HCL.out _ (by exact ⟨rfl, rfl, rfl, rfl⟩)).mono ?_; rintro e w4 ⟨gd, cd, rfl, hC4, ⟨v0, v1, v2, v3, i0, i1, i2, i3, f0, f1, f2, f3⟩, HG6⟩)
        | fail)
    obtain ⟨W5, hW5⟩ : ∃ W5, W5 = put4 w4 gn k (.int .i64 key) (.int .i64 sq) (.int .i64 (b + (kn : Int))) (.slice (some ⟨gd, 0, none⟩) (len - 8) cd) := ⟨_, rfl⟩
    have HW5 : Hid (W5.heap[p]? = some (.cells #[.int .i64 b, .slice (some ⟨gk, 0, none⟩) kn kc, .slice (some ⟨gn, 0, none⟩) (ln + 1) Gs] 28 (0, 0)) ∧ W5.heap[y]? = some (.cells #[.int .i64 key, .int .i64 sq, .slice (some ⟨gx, 0, none⟩) (len - 8) cx] 32 (0, 0)) ∧ Own W5 5 gx (zs.drop 8) ∧ ElAt W5 74 3 gn (S.take k ++ ⟨[key, sq, b + (kn : Int)], zs.drop 8, some gd, cd⟩ :: S.drop k) ∧ W5.os = w4.os ∧ W5.tape = w4.tape ∧ W5.output = w4.output ∧ W5.heap.size = w4.heap.size ∧ ∀ j, j ≠ gn → W5.heap[j]? = w4.heap[j]?) := by
      have hoth : ∀ j, j ≠ gn → W5.heap[j]? = w4.heap[j]? := fun j hj => by rw [hW5]; exact put4_other _ _ _ _ _ _ _ _ hj
      refine ⟨?_, ?_, (HB3.out.2.2.2.grown HG6.out.1 (by simp)).of_block (hoth gx ?_), ?_, by rw [hW5]; rfl, by rw [hW5]; rfl, by rw [hW5]; rfl, by rw [hW5]; simp [put4], hoth⟩
      · exact (hoth p hpg).trans ((HG6.out.1.block _ (Array.getElem?_eq_some_iff.1 HB3.out.2.1).1 (by simp)).trans HB3.out.2.1)
      · exact (hoth y hyg).trans ((HG6.out.1.block _ (Array.getElem?_eq_some_iff.1 HB3.out.1).1 (by simp)).trans HB3.out.1)
      · intro e; obtain ⟨cur, h1, -⟩ := HGSB.out; rw [← e] at h1; have := own_type HB3.out.2.2.2 h1
        simp at this
      · obtain ⟨cur, h1, h2⟩ := HGSC.out; have h3 := (HG6.out.1.block _ (Array.getElem?_eq_some_iff.1 h1).1 (by simp)).trans h1; have hll := HA.out.2.2.2.2.1; have hgl := (Array.getElem?_eq_some_iff.1 h1).1; have h := el_insert (n0 := key) (n1 := sq) (n2 := b + (kn : Int)) (cd := cd) (k := k) HA.out.1 (by rw [hll]; omega) h3 HGN.out.1 (by rw [hll]; exact h2) (fun j hj hjx => ?_) (Nat.le_trans HB3.out.2.2.1.size HG6.out.2.1) (by have := HG6.out.2.1; omega) HG6.out.2.2
        · rw [HL.out] at h; rw [hW5]; exact h
        · rw [HG6.out.1.block j (Nat.lt_of_lt_of_le hj HB3.out.2.2.1.size) (by simp)]; refine HB3.out.2.2.1.block j hj ?_; rintro rfl; obtain ⟨x', hx', ho'⟩ := hjx; obtain ⟨i', hi'⟩ := List.getElem?_of_mem hx'; exact absurd (own_type (ownS_blk (HA.out.1.own i' x' hi').2.1 ho') HA.out.2.2.2.2.2.1) (by decide)
    rw [show (((w4.setCell ⟨gn, k * 4, none⟩ (.int .i64 key)).setCell ⟨gn, k * 4 + 1, none⟩ (.int .i64 sq)).setCell ⟨gn, k * 4 + 2, none⟩ (.int .i64 (b + (kn : Int)))).setCell ⟨gn, k * 4 + 3, none⟩ (.slice (some ⟨gd, 0, none⟩) (len - 8) cd) = W5 from hW5.symm]; clear hW5 i0 i1 i2 i3 f0 f1 f2 f3 hC0 hC4 p0 p2 y0 y1 y2
    have HAP : Hid (∀ X : World, Same (W5.alloc (.cells #[.int .i64 key, .int .i64 sq, .slice (some ⟨gx, 0, none⟩) (len - 8) cx] 32)) X → ∀ ty, ∃ (G : Nat) (w' : World), (Builtin.append_ #[25, 25] ty #[.slice (some ⟨gk, 0, none⟩) kn kc, .slice (some ⟨W5.heap.size, 0, none⟩) 1 1]).run Tryd.prog X = .ok (.slice (some ⟨W5.heap.size + 1, 0, none⟩) (kn + 1) G) w' ∧ (w'.cell? ⟨p, 1, none⟩ = some (.slice (some ⟨gk, 0, none⟩) kn kc) ∧ w'.frozen? ⟨p, 1, none⟩ = false) ∧ Hid (kn + 1 ≤ G ∧ W5.grownBy w' none ∧ W5.heap.size + 1 < w'.heap.size ∧ ∃ T : Array Value, w'.heap[W5.heap.size + 1]? = some (.cells ((K.flatMap El.cells).toArray ++ #[.int .i64 key, .int .i64 sq, .slice (some ⟨gx, 0, none⟩) (len - 8) cx] ++ T) 32 (0, 0)))) := by
      intro X hX ty; have GX : W5.grownBy X none := grownBy_same (World.grownBy_alloc _ _ _) hX
      have hz : X.heap.size = W5.heap.size + 1 := by rw [hX.1]; simp
      have hKX : ElAt X 32 2 gk K := HA.out.2.2.2.2.2.2.1.kept (fun j hj hjk => by
        rw [GX.block j (by rw [HW5.out.2.2.2.2.2.2.2.1]; exact Nat.lt_of_lt_of_le hj (Nat.le_trans HB3.out.2.2.1.size HG6.out.1.size)) (by simp), HW5.out.2.2.2.2.2.2.2.2 j ?_]
        · rw [HG6.out.1.block j (Nat.lt_of_lt_of_le hj HB3.out.2.2.1.size) (by simp)]; refine HB3.out.2.2.1.block j hj ?_; rintro rfl
          rcases hjk with rfl | ⟨x', hx', ho'⟩
          · obtain ⟨cur', h2, -⟩ := HA.out.2.2.2.2.2.2.1.row; rw [HA.out.2.2.2.2.2.1] at h2
            simp at h2
          · obtain ⟨i', hi'⟩ := List.getElem?_of_mem hx'; exact absurd (own_type (ownS_blk (HA.out.2.2.2.2.2.2.1.own i' x' hi').2.1 ho') HA.out.2.2.2.2.2.1) (by decide)
        · have := HGN.out.1; omega)
      obtain ⟨G, w', h1, h2, h3, T, h4⟩ := run_keep (u := W5.heap.size) hKX HA.out.2.2.2.2.2.2.2 (by rw [hX.1]; exact heap_alloc_new W5 _) (by have := HKNN.out; omega) ty; rw [hz] at h1 h4; refine ⟨G, w', ?_, ?_, h2, grownBy_trans GX h3, ?_, T, h4⟩
      · rw [HKC.out]; exact h1
      · have hb := ((grownBy_trans GX h3).block p (Array.getElem?_eq_some_iff.1 HW5.out.1).1 (by simp)).trans HW5.out.1
        simp [World.cell?, World.frozen?, hb]
      · exact (Array.getElem?_eq_some_iff.1 h4).1
    have p1 : W5.cell? ⟨p, 1, none⟩ = some (.slice (some ⟨gk, 0, none⟩) kn kc) := by simp [World.cell?, HW5.out.1]
    have y0 : W5.cell? ⟨y, 0, none⟩ = some (.int .i64 key) := by simp [World.cell?, HW5.out.2.1]
    have y1 : W5.cell? ⟨y, 1, none⟩ = some (.int .i64 sq) := by simp [World.cell?, HW5.out.2.1]
    have y2 : W5.cell? ⟨y, 2, none⟩ = some (.slice (some ⟨gx, 0, none⟩) (len - 8) cx) := by simp [World.cell?, HW5.out.2.1]
    have hpl : p < W5.heap.size := (Array.getElem?_eq_some_iff.1 HW5.out.1).1; have hyl : y < W5.heap.size := (Array.getElem?_eq_some_iff.1 HW5.out.2.1).1; go_wp2_with fail
    have mixed : Tryd.prog.follows .mixedOrders = true := by kernel_rfl
    go_region_law_o (first
      | (refine step_append_ex (by rfl) (.tmp 96) (.tmp 98) 25 (by rfl) _ _ (by rfl) (by rfl) (HAP.out _ (by exact ⟨rfl, rfl, rfl, rfl⟩)) ?_; rintro G w6 ⟨⟨q1, z1⟩, HW6⟩)
      | fail)
    all_goals
      go_wp2
      go_ret2
      refine ⟨rfl, ?_⟩; obtain ⟨hkk, h6, -, T, hrow⟩ := HW6.out; have hkey := HQ.out.1; have hsq := HQ.out.2.1; rw [hkey, hsq]
      obtain ⟨e1', e2', e3', e4', e5'⟩ := keep_end (kn := kn) (G := G) (n := len - 8) HA.out.2.2.2.2.2.1 HA.out.2.2.2.2.2.2.1 (fun j hj => by
        obtain ⟨x', hx', ho'⟩ := hj; obtain ⟨i', hi'⟩ := List.getElem?_of_mem hx'; have h1 := HA.out.2.2.2.2.2.2.1.blt hi' ho'; have h2 := HGN.out.1
        omega) (HB3.out.2.2.1.trans (Only.of HG6.out.1 (fun k e => by cases e))) HW5.out.2.2.2.2.1 HW5.out.2.2.2.2.2.1 HW5.out.2.2.2.2.2.2.1 HW5.out.2.2.2.2.2.2.2.1 HW5.out.2.2.2.2.2.2.2.2 HW5.out.1 HW5.out.2.2.1 HW5.out.2.2.2.1 h6 HYB.out.2.2.2 HL.out hrow
      refine ⟨W5.heap.size + 1, G, gx, cx, gd, cd, gn, Gs, ?_, hkk, e2', e3', e4', HYB.out.2.2.2, Nat.le_trans HB3.out.2.2.1.size HG6.out.2.1, ?_, .inr HGN.out.1, ⟨e5'.os, e5'.tape, e5'.output, e5'.size, fun j hj hn => e5'.block j hj (fun e => by rcases e with e | e; exact hn (.inl e); have := HGN.out.1; omega)⟩⟩
      · rw [show (S.take k ++ ⟨[key, sq, b + (kn : Int)], zs.drop 8, some gd, cd⟩ :: S.drop k).length = (ln + 1) from by have h1 := HA.out.2.2.2.1.le; have h2 := HA.out.2.2.2.2.1; simp; omega]; exact e1'
      · have h1 := HB3.out.2.2.2.lt; have h2 := HG6.out.2.1
        omega
/-- what apply tells of a service's kept items and sessions: the place, the code, what is kept then -/
def ApSays (b : Int) (K : List El) (S : List El) (zs : List Nat) (x0 : Int) (x1 : Int) (x2 : List (List Int × List Nat)) (x3 : List (List Int × List Nat)) : Prop :=
  ∀ P : Int → Int → List (List Int × List Nat) → List (List Int × List Nat) → Prop, (∀ (_h : zs = []), P 0 0 (K.map El.tell) (S.map El.tell)) →
    (∀ (_h : zs ≠ []) (_hd : ¬ decGood zs), P 0 5 (K.map El.tell) (S.map El.tell)) →
    (∀ (_hd : decGood zs) (k : Nat) (x : El) (_hk : Spot S (decCl zs : Int) k) (_hx : S[k]? = some x) (_hc : x.c = (decCl zs : Int)) (_hq : (decSq zs : Int) ≤ x.q) (_hs : sameItem x.q x.d (decSq zs : Int) (zs.drop 8)), P x.i 0 (K.map El.tell) (S.map El.tell)) →
    (∀ (_hd : decGood zs) (k : Nat) (x : El) (_hk : Spot S (decCl zs : Int) k) (_hx : S[k]? = some x) (_hc : x.c = (decCl zs : Int)) (_hq : (decSq zs : Int) ≤ x.q) (_hs : ¬ sameItem x.q x.d (decSq zs : Int) (zs.drop 8)), P 0 4 (K.map El.tell) (S.map El.tell)) →
    (∀ (_hd : decGood zs) (k : Nat) (_hk : Spot S (decCl zs : Int) k) (_hq : ∀ x, S[k]? = some x → x.c = (decCl zs : Int) → x.q < (decSq zs : Int)) (_hf : b + (K.length : Int) = 1000000), P 0 6 (K.map El.tell) (S.map El.tell)) →
    (∀ (_hd : decGood zs) (k : Nat) (x : El) (_hk : Spot S (decCl zs : Int) k) (_hx : S[k]? = some x) (_hc : x.c = (decCl zs : Int)) (_hq : x.q < (decSq zs : Int)) (_hf : b + (K.length : Int) ≠ 1000000), P (b + (K.length : Int)) 0 (K.map El.tell ++ [([(decCl zs : Int), (decSq zs : Int)], zs.drop 8)]) ((S.map El.tell).set k ([(decCl zs : Int), (decSq zs : Int), b + (K.length : Int)], zs.drop 8))) →
    (∀ (_hd : decGood zs) (k : Nat) (_hk : Spot S (decCl zs : Int) k) (_hu : knownAt S (decCl zs : Int) k = false) (_hf : b + (K.length : Int) ≠ 1000000), P (b + (K.length : Int)) 0 (K.map El.tell ++ [([(decCl zs : Int), (decSq zs : Int)], zs.drop 8)]) ((S.map El.tell).take k ++ ([(decCl zs : Int), (decSq zs : Int), b + (K.length : Int)], zs.drop 8) :: (S.map El.tell).drop k)) → P x0 x1 x2 x3
theorem ApSays.empty {b : Int} {K : List El} {S : List El} {zs : List Nat} (h : zs = []) : ApSays b K S zs 0 0 (K.map El.tell) (S.map El.tell) := fun _ c0 _ _ _ _ _ _ => c0 h
theorem ApSays.bad {b : Int} {K : List El} {S : List El} {zs : List Nat} (h : zs ≠ []) (hd : ¬ decGood zs) : ApSays b K S zs 0 5 (K.map El.tell) (S.map El.tell) := fun _ _ c1 _ _ _ _ _ => c1 h hd
theorem ApSays.again {b : Int} {K : List El} {S : List El} {zs : List Nat} (hd : decGood zs) (k : Nat) (x : El) (hk : Spot S (decCl zs : Int) k) (hx : S[k]? = some x) (hc : x.c = (decCl zs : Int)) (hq : (decSq zs : Int) ≤ x.q) (hs : sameItem x.q x.d (decSq zs : Int) (zs.drop 8)) : ApSays b K S zs x.i 0 (K.map El.tell) (S.map El.tell) := fun _ _ _ c2 _ _ _ _ => c2 hd k x hk hx hc hq hs
theorem ApSays.exist {b : Int} {K : List El} {S : List El} {zs : List Nat} (hd : decGood zs) (k : Nat) (x : El) (hk : Spot S (decCl zs : Int) k) (hx : S[k]? = some x) (hc : x.c = (decCl zs : Int)) (hq : (decSq zs : Int) ≤ x.q) (hs : ¬ sameItem x.q x.d (decSq zs : Int) (zs.drop 8)) : ApSays b K S zs 0 4 (K.map El.tell) (S.map El.tell) := fun _ _ _ _ c3 _ _ _ => c3 hd k x hk hx hc hq hs
theorem ApSays.full {b : Int} {K : List El} {S : List El} {zs : List Nat} (hd : decGood zs) (k : Nat) (hk : Spot S (decCl zs : Int) k) (hq : ∀ x, S[k]? = some x → x.c = (decCl zs : Int) → x.q < (decSq zs : Int)) (hf : b + (K.length : Int) = 1000000) : ApSays b K S zs 0 6 (K.map El.tell) (S.map El.tell) := fun _ _ _ _ _ c4 _ _ => c4 hd k hk hq hf
theorem ApSays.old {b : Int} {K : List El} {S : List El} {zs : List Nat} (hd : decGood zs) (k : Nat) (x : El) (hk : Spot S (decCl zs : Int) k) (hx : S[k]? = some x) (hc : x.c = (decCl zs : Int)) (hq : x.q < (decSq zs : Int)) (hf : b + (K.length : Int) ≠ 1000000) : ApSays b K S zs (b + (K.length : Int)) 0 (K.map El.tell ++ [([(decCl zs : Int), (decSq zs : Int)], zs.drop 8)]) ((S.map El.tell).set k ([(decCl zs : Int), (decSq zs : Int), b + (K.length : Int)], zs.drop 8)) := fun _ _ _ _ _ _ c5 _ => c5 hd k x hk hx hc hq hf
theorem ApSays.new {b : Int} {K : List El} {S : List El} {zs : List Nat} (hd : decGood zs) (k : Nat) (hk : Spot S (decCl zs : Int) k) (hu : knownAt S (decCl zs : Int) k = false) (hf : b + (K.length : Int) ≠ 1000000) : ApSays b K S zs (b + (K.length : Int)) 0 (K.map El.tell ++ [([(decCl zs : Int), (decSq zs : Int)], zs.drop 8)]) ((S.map El.tell).take k ++ ([(decCl zs : Int), (decSq zs : Int), b + (K.length : Int)], zs.drop 8) :: (S.map El.tell).drop k) := fun _ _ _ _ _ _ _ c6 => c6 hd k hk hu hf
theorem ApSays.elim {b : Int} {K : List El} {S : List El} {zs : List Nat} {motive : (x0 : Int) → (x1 : Int) → (x2 : List (List Int × List Nat)) → (x3 : List (List Int × List Nat)) → ApSays b K S zs x0 x1 x2 x3 → Prop}
    (empty : ∀ (h : zs = []), motive 0 0 (K.map El.tell) (S.map El.tell) (.empty h))
    (bad : ∀ (h : zs ≠ []) (hd : ¬ decGood zs), motive 0 5 (K.map El.tell) (S.map El.tell) (.bad h hd))
    (again : ∀ (hd : decGood zs) (k : Nat) (x : El) (hk : Spot S (decCl zs : Int) k) (hx : S[k]? = some x) (hc : x.c = (decCl zs : Int)) (hq : (decSq zs : Int) ≤ x.q) (hs : sameItem x.q x.d (decSq zs : Int) (zs.drop 8)), motive x.i 0 (K.map El.tell) (S.map El.tell) (.again hd k x hk hx hc hq hs))
    (exist : ∀ (hd : decGood zs) (k : Nat) (x : El) (hk : Spot S (decCl zs : Int) k) (hx : S[k]? = some x) (hc : x.c = (decCl zs : Int)) (hq : (decSq zs : Int) ≤ x.q) (hs : ¬ sameItem x.q x.d (decSq zs : Int) (zs.drop 8)), motive 0 4 (K.map El.tell) (S.map El.tell) (.exist hd k x hk hx hc hq hs))
    (full : ∀ (hd : decGood zs) (k : Nat) (hk : Spot S (decCl zs : Int) k) (hq : ∀ x, S[k]? = some x → x.c = (decCl zs : Int) → x.q < (decSq zs : Int)) (hf : b + (K.length : Int) = 1000000), motive 0 6 (K.map El.tell) (S.map El.tell) (.full hd k hk hq hf))
    (old : ∀ (hd : decGood zs) (k : Nat) (x : El) (hk : Spot S (decCl zs : Int) k) (hx : S[k]? = some x) (hc : x.c = (decCl zs : Int)) (hq : x.q < (decSq zs : Int)) (hf : b + (K.length : Int) ≠ 1000000), motive (b + (K.length : Int)) 0 (K.map El.tell ++ [([(decCl zs : Int), (decSq zs : Int)], zs.drop 8)]) ((S.map El.tell).set k ([(decCl zs : Int), (decSq zs : Int), b + (K.length : Int)], zs.drop 8)) (.old hd k x hk hx hc hq hf))
    (new : ∀ (hd : decGood zs) (k : Nat) (hk : Spot S (decCl zs : Int) k) (hu : knownAt S (decCl zs : Int) k = false) (hf : b + (K.length : Int) ≠ 1000000), motive (b + (K.length : Int)) 0 (K.map El.tell ++ [([(decCl zs : Int), (decSq zs : Int)], zs.drop 8)]) ((S.map El.tell).take k ++ ([(decCl zs : Int), (decSq zs : Int), b + (K.length : Int)], zs.drop 8) :: (S.map El.tell).drop k) (.new hd k hk hu hf))
    {x0 : Int} {x1 : Int} {x2 : List (List Int × List Nat)} {x3 : List (List Int × List Nat)} (h : ApSays b K S zs x0 x1 x2 x3) : motive x0 x1 x2 x3 h :=
  (h (fun x0 x1 x2 x3 => ∃ h : ApSays b K S zs x0 x1 x2 x3, motive x0 x1 x2 x3 h) (fun h => ⟨.empty h, empty h ⟩)
    (fun h hd => ⟨.bad h hd, bad h hd ⟩)
    (fun hd k x hk hx hc hq hs => ⟨.again hd k x hk hx hc hq hs, again hd k x hk hx hc hq hs ⟩)
    (fun hd k x hk hx hc hq hs => ⟨.exist hd k x hk hx hc hq hs, exist hd k x hk hx hc hq hs ⟩)
    (fun hd k hk hq hf => ⟨.full hd k hk hq hf, full hd k hk hq hf ⟩)
    (fun hd k x hk hx hc hq hf => ⟨.old hd k x hk hx hc hq hf, old hd k x hk hx hc hq hf ⟩)
    (fun hd k hk hu hf => ⟨.new hd k hk hu hf, new hd k hk hu hf ⟩)).elim fun _ b => b
/-- an error and its code -/
def ErrSays (ad : Nat → Addr) (er : Value) (c : Int) : Prop := (er = .nilIface ∧ c = 0) ∨ (er = .iface 150 (.pointer (some (ad 0))) ∧ c = 5) ∨ (er = .iface 150 (.pointer (some (ad 1))) ∧ c = 6) ∨ (er = .iface 150 (.pointer (some (ad 4))) ∧ c = 4)
theorem codeOf_says (ad : Nat → Addr) (er : Value) (c : Int) (w : World) (hE : ErrsAt w ad) (h : ErrSays ad er c) : Calls Tryd.prog 36 #[er] w fun e w' => e = .returned (.int .i64 c) ∧ w.grownBy w' none := by
  rcases h with ⟨rfl, rfl⟩ | ⟨rfl, rfl⟩ | ⟨rfl, rfl⟩ | ⟨rfl, rfl⟩
  · exact codeOf_nil w
  · exact codeOf_err0 ad w hE
  · exact codeOf_err1 ad w hE
  · exact codeOf_err4 ad w hE
theorem known_of (S : List El) (key : Int) (k : Nat) : knownAt S key k = false ∨ ∃ x, S[k]? = some x ∧ x.c = key := by
  unfold knownAt
  cases h : S[k]? with
  | none => exact .inl rfl
  | some x =>
    by_cases hx : x.c = key
    · exact .inr ⟨x, rfl, hx⟩
    · exact .inl (by simp [hx])
theorem apply_any (p gk gs : Nat) (b : Int) (K S : List El) (oa : Option Addr) (len cap : Nat) (zs : List Nat) (ad : Nat → Addr) (w : World) (hE : ErrsAt w ad) (hsl : SlB w oa len zs) (hcp : len ≤ cap) (hm : len ≤ 1073741824)
    (hp : w.heap[p]? = some (.cells #[.int .i64 b, .slice (some ⟨gk, 0, none⟩) K.length K.length, .slice (some ⟨gs, 0, none⟩) S.length S.length] 28 (0, 0))) (hK : ElAt w 32 2 gk K) (hS : ElAt w 74 3 gs S)
    (hfar : ∀ x ∈ K, ∀ y ∈ S, ∀ j, x.o = some j → y.o ≠ some j) (hr : risesE 0 S) (hn : S.length ≤ 1048576) (hkn : K.length ≤ 1048576) (hb : -1000000000000 ≤ b ∧ b ≤ 1000000000000) :
    Calls Tryd.prog 35 #[.pointer (some ⟨p, 0, none⟩), .slice oa len cap] w fun e w' => ∃ (pl c : Int) (er : Value) (gk' kc' gs' sc' : Nat) (K' S' : List El), e = .returned (.tuple #[.int .i64 pl, er]) ∧ ErrSays ad er c ∧ ApSays b K S zs pl c (K'.map El.tell) (S'.map El.tell) ∧
      w'.heap[p]? = some (.cells #[.int .i64 b, .slice (some ⟨gk', 0, none⟩) K'.length kc', .slice (some ⟨gs', 0, none⟩) S'.length sc'] 28 (0, 0)) ∧ ElAt w' 32 2 gk' K' ∧ ElAt w' 74 3 gs' S' ∧ (∀ x ∈ K', ∀ y ∈ S', ∀ j, x.o = some j → y.o ≠ some j) ∧ (∀ j, (ElB (some ⟨gk', 0, none⟩) K' j ∨ ElB (some ⟨gs', 0, none⟩) S' j) → (ElB (some ⟨gk, 0, none⟩) K j ∨ ElB (some ⟨gs, 0, none⟩) S j) ∨ w.heap.size ≤ j) ∧ Only (fun j => j = p ∨ j = gs) w w' := by
  have hl := hsl.1; have hpl := (Array.getElem?_eq_some_iff.1 hp).1; have same : ∀ {w' : World} {pl c : Int} {er : Value}, w.grownBy w' none → ErrSays ad er c → ApSays b K S zs pl c (K.map El.tell) (S.map El.tell) → ∃ (pl' c' : Int) (er' : Value) (gk' kc' gs' sc' : Nat) (K' S' : List El), Ending.returned (.tuple #[.int .i64 pl, er]) = .returned (.tuple #[.int .i64 pl', er']) ∧ ErrSays ad er' c' ∧ ApSays b K S zs pl' c' (K'.map El.tell) (S'.map El.tell) ∧
      w'.heap[p]? = some (.cells #[.int .i64 b, .slice (some ⟨gk', 0, none⟩) K'.length kc', .slice (some ⟨gs', 0, none⟩) S'.length sc'] 28 (0, 0)) ∧ ElAt w' 32 2 gk' K' ∧ ElAt w' 74 3 gs' S' ∧ (∀ x ∈ K', ∀ y ∈ S', ∀ j, x.o = some j → y.o ≠ some j) ∧ (∀ j, (ElB (some ⟨gk', 0, none⟩) K' j ∨ ElB (some ⟨gs', 0, none⟩) S' j) → (ElB (some ⟨gk, 0, none⟩) K j ∨ ElB (some ⟨gs, 0, none⟩) S j) ∨ w.heap.size ≤ j) ∧ Only (fun j => j = p ∨ j = gs) w w' := fun {w' pl c er} hg he ha =>
    ⟨pl, c, er, gk, K.length, gs, S.length, K, S, rfl, he, ha, (hg.block p hpl (by simp)).trans hp, hK.kept (fun j hj _ => hg.block j hj (by simp)), hS.kept (fun j hj _ => hg.block j hj (by simp)), hfar, fun j hj => .inl hj, Only.of hg (fun k e => by cases e)⟩
  by_cases h0 : len = 0
  · subst h0; refine (apply_empty _ oa cap w).mono ?_; rintro e w' ⟨rfl, hg⟩; exact same hg (.inl ⟨rfl, rfl⟩) (.empty (List.eq_nil_of_length_eq_zero hl))
  · have hz : zs ≠ [] := fun e => h0 (by rw [← hl, e]; rfl)
    by_cases hd : decGood zs
    · obtain ⟨k, hk⟩ := spot_ex S (decCl zs : Int) 0 hr; have hkeep : ∀ {w' : World} {SN : El → List El} {T : Nat → Prop}, (∀ j, T j → j = gs) → (∀ z, ∀ y ∈ SN z, y = z ∨ y ∈ S) → KeepOut w w' p b K.length K (decCl zs : Int) (decSq zs : Int) (zs.drop 8) SN T → (∀ z : El, z.tell = ([(decCl zs : Int), (decSq zs : Int), b + (K.length : Int)], zs.drop 8) → ApSays b K S zs (b + (K.length : Int)) 0 (K.map El.tell ++ [([(decCl zs : Int), (decSq zs : Int)], zs.drop 8)]) ((SN z).map El.tell)) →
          ∃ (pl' c' : Int) (er' : Value) (gk' kc' gs' sc' : Nat) (K' S' : List El), Ending.returned (.tuple #[.int .i64 (b + (K.length : Int)), .nilIface]) = .returned (.tuple #[.int .i64 pl', er']) ∧ ErrSays ad er' c' ∧ ApSays b K S zs pl' c' (K'.map El.tell) (S'.map El.tell) ∧
          w'.heap[p]? = some (.cells #[.int .i64 b, .slice (some ⟨gk', 0, none⟩) K'.length kc', .slice (some ⟨gs', 0, none⟩) S'.length sc'] 28 (0, 0)) ∧ ElAt w' 32 2 gk' K' ∧ ElAt w' 74 3 gs' S' ∧ (∀ x ∈ K', ∀ y ∈ S', ∀ j, x.o = some j → y.o ≠ some j) ∧ (∀ j, (ElB (some ⟨gk', 0, none⟩) K' j ∨ ElB (some ⟨gs', 0, none⟩) S' j) → (ElB (some ⟨gk, 0, none⟩) K j ∨ ElB (some ⟨gs, 0, none⟩) S j) ∨ w.heap.size ≤ j) ∧ Only (fun j => j = p ∨ j = gs) w w' := fun {w' SN T} hT hN hko hsay => by
        obtain ⟨gk', kc', gx, cx, gd, cd, gs', sc', h1, -, h3, h4, h5, h6, h7, h8, h9, h10⟩ := hko; refine ⟨b + (K.length : Int), 0, .nilIface, gk', kc', gs', sc', _, _, rfl, .inl ⟨rfl, rfl⟩, ?_, ?_, h3, h4, fun x hx y hy j hxj hyj => ?_, fun j hj => ?_, h10.mono (fun j hj => hj.imp id (hT j))⟩
        · rw [List.map_append]; exact hsay _ rfl
        · rw [List.length_append]; exact h1
        · have hb1 : ∀ x ∈ K, ∀ j, x.o = some j → j < w.heap.size := fun x hx j hj => by
            obtain ⟨i, hi⟩ := List.getElem?_of_mem hx; exact hK.blt hi hj
          have hb2 : ∀ x ∈ S, ∀ j, x.o = some j → j < w.heap.size := fun x hx j hj => by
            obtain ⟨i, hi⟩ := List.getElem?_of_mem hx; exact hS.blt hi hj
          rcases List.mem_append.1 hx with hx | hx
          · rcases hN _ y hy with rfl | hy
            · have h11 := hb1 x hx j hxj
              have h12 : gd = j := by simpa using hyj
              omega
            · exact hfar x hx y hy j hxj hyj
          · obtain rfl : x = _ := by simpa using hx
            have h12 : gx = j := by simpa using hxj
            rcases hN _ y hy with rfl | hy
            · have h13 : gd = j := by simpa using hyj
              omega
            · have h11 := hb2 y hy j hyj
              omega
        · rcases hj with (h | ⟨x, hx, ho⟩) | (h | ⟨x, hx, ho⟩)
          · have : gk' = j := by simpa using h
            exact .inr (by omega)
          · rcases List.mem_append.1 hx with hx | hx
            · exact .inl (.inl (.inr ⟨x, hx, ho⟩))
            · obtain rfl : x = _ := by simpa using hx
              have : gx = j := by simpa using ho
              exact .inr (by omega)
          · have hgj : gs' = j := by simpa using h
            rcases h9 with h9 | h9
            · have := hT _ h9; subst hgj this; exact .inl (.inr (.inl rfl))
            · exact .inr (by omega)
          · rcases hN _ x hx with rfl | hx
            · have : gd = j := by simpa using ho
              exact .inr (by omega)
            · exact .inl (.inr (.inr ⟨x, hx, ho⟩))
      rcases known_of S (decCl zs : Int) k with hu | ⟨x, hx, hc⟩
      · by_cases hf : b + (K.length : Int) = 1000000
        · refine (apply_full_new p gk K.length K.length gs S.length b S k oa len cap zs ad w hsl hcp hm hd hp hS hr hn hb hkn hk hu hE hf).mono ?_; rintro e w' ⟨rfl, hg⟩; refine same hg (.inr (.inr (.inl ⟨rfl, rfl⟩))) (.full hd k hk (fun x hx hc => ?_) hf)
          unfold knownAt at hu
          rw [hx] at hu
          simp [hc] at hu
        · refine (apply_new p gk K.length K.length gs S.length b S k oa len cap zs K w hsl hcp hm hd hp hS hr hn hb hkn hk hu rfl hK rfl rfl hf).mono ?_; rintro e w' ⟨rfl, hko⟩; refine hkeep (fun j h => h.elim) (fun z y hy => by rcases List.mem_append.1 hy with h | h; exact .inr (List.mem_of_mem_take h); rcases List.mem_cons.1 h with h | h; exact .inl h; exact .inr (List.mem_of_mem_drop h)) hko (fun z hz => ?_); have := ApSays.new (b := b) (K := K) hd k hk hu hf
          simpa [hz] using this
      · by_cases hq : (decSq zs : Int) ≤ x.q
        · refine (apply_again p gk K.length K.length gs S.length b S k x oa len cap zs ad w hE hsl hcp hm hd hp hS hr hn hk hx hc hq).mono ?_; rintro e w' ⟨⟨hs, rfl⟩ | ⟨hs, rfl⟩, hg⟩
          · exact same hg (.inl ⟨rfl, rfl⟩) (.again hd k x hk hx hc hq hs)
          · exact same hg (.inr (.inr (.inr ⟨rfl, rfl⟩))) (.exist hd k x hk hx hc hq hs)
        · by_cases hf : b + (K.length : Int) = 1000000
          · refine (apply_full_old p gk K.length K.length gs S.length b S k x oa len cap zs ad w hsl hcp hm hd hp hS hr hn hb hkn hk hx hc (by omega) hE hf).mono ?_; rintro e w' ⟨rfl, hg⟩; exact same hg (.inr (.inr (.inl ⟨rfl, rfl⟩))) (.full hd k hk (fun x' hx' _ => by rw [hx] at hx'; obtain rfl := Option.some.inj hx'; omega) hf)
          · refine (apply_old p gk K.length K.length gs S.length b S k x oa len cap zs K w hsl hcp hm hd hp hS hr hn hb hkn hk hx hc (by omega) rfl hK rfl hf).mono ?_; rintro e w' ⟨rfl, hko⟩; refine hkeep (fun j h => h) (fun z y hy => (List.mem_or_eq_of_mem_set hy).symm) hko (fun z hz => ?_); have := ApSays.old (b := b) (K := K) hd k x hk hx hc (by omega) hf
            simpa [List.map_set, hz] using this
    · refine (apply_bad _ oa len cap zs ad w hE hsl (by omega) hcp hm hd).mono ?_; rintro e w' ⟨rfl, hg⟩; exact same hg (.inr (.inl ⟨rfl, rfl⟩)) (.bad hz hd)
end Go.Proofs.YtdajcpcajdhplaaDoor
/-
  What apply tells is a matter of the tells alone, and it tells one thing.
-/
namespace Go.Proofs.YtdajcpcajdhplaaDoor

theorem tell_get {S S0 : List El} (h : S.map El.tell = S0.map El.tell) {i : Nat} {y : El} (hy : S[i]? = some y) : ∃ x, S0[i]? = some x ∧ x.tell = y.tell := by
  have h1 := congrArg (fun l => l[i]?) h; simp only [List.getElem?_map, hy, Option.map_some] at h1
  cases h2 : S0[i]? with
  | none => rw [h2] at h1; cases h1
  | some x => rw [h2] at h1; exact ⟨x, rfl, (Option.some.inj h1).symm⟩
theorem tell_eq {x y : El} (h : x.tell = y.tell) : x.c = y.c ∧ x.q = y.q ∧ x.i = y.i ∧ x.d = y.d := by
  have h1 := congrArg Prod.fst h; have h2 := congrArg Prod.snd h; simp only [El.tell] at h1 h2; simp only [El.c, El.q, El.i, h1, h2, and_self]
theorem Spot.tell {S S0 : List El} (h : S.map El.tell = S0.map El.tell) {key : Int} {k : Nat} (hk : Spot S key k) : Spot S0 key k := by
  have hl : S.length = S0.length := by have := congrArg List.length h; simpa using this
  refine ⟨by rw [← hl]; exact hk.le, fun i x hi hx => ?_, fun i x hi hx => ?_⟩
  · obtain ⟨y, hy, ht⟩ := tell_get h.symm hx; rw [← (tell_eq ht).1]; exact hk.lo i y hi hy
  · obtain ⟨y, hy, ht⟩ := tell_get h.symm hx; rw [← (tell_eq ht).1]; exact hk.hi i y hi hy
theorem known_tell {S S0 : List El} (h : S.map El.tell = S0.map El.tell) (key : Int) (k : Nat) : knownAt S key k = knownAt S0 key k := by
  unfold knownAt
  cases hs : S[k]? with
  | none =>
    cases h0 : S0[k]? with
    | none => rfl
    | some x => obtain ⟨y, hy, _⟩ := tell_get h.symm h0; rw [hs] at hy; cases hy
  | some x =>
    obtain ⟨y, hy, ht⟩ := tell_get h hs; rw [hy]; simp only [(tell_eq ht).1]
theorem ApSays.tell {b : Int} {K S K0 S0 : List El} {zs : List Nat} {pl c : Int} {KK SS : List (List Int × List Nat)} (hK : K.map El.tell = K0.map El.tell) (hS : S.map El.tell = S0.map El.tell) (h : ApSays b K S zs pl c KK SS) : ApSays b K0 S0 zs pl c KK SS := by
  have hl : K.length = K0.length := by have := congrArg List.length hK; simpa using this
  cases h using ApSays.elim with
  | empty h => rw [hK, hS]; exact .empty h
  | bad h hd => rw [hK, hS]; exact .bad h hd
  | again hd k x hk hx hc hq hs =>
    obtain ⟨y, hy, ht⟩ := tell_get hS hx; obtain ⟨t1, t2, t3, t4⟩ := tell_eq ht; rw [hK, hS, ← t3]; rw [← t1] at hc; rw [← t2] at hq; rw [← t2, ← t4] at hs; exact .again hd k y (hk.tell hS) hy hc hq hs
  | exist hd k x hk hx hc hq hs =>
    obtain ⟨y, hy, ht⟩ := tell_get hS hx; obtain ⟨t1, t2, t3, t4⟩ := tell_eq ht; rw [hK, hS]; rw [← t1] at hc; rw [← t2] at hq; rw [← t2, ← t4] at hs; exact .exist hd k y (hk.tell hS) hy hc hq hs
  | full hd k hk hq hf =>
    rw [hK, hS]; rw [hl] at hf; refine .full hd k (hk.tell hS) (fun x hx hc => ?_) hf; obtain ⟨y, hy, ht⟩ := tell_get hS.symm hx; obtain ⟨t1, t2, t3, t4⟩ := tell_eq ht; rw [← t2]; exact hq y hy (by rw [t1]; exact hc)
  | old hd k x hk hx hc hq hf =>
    obtain ⟨y, hy, ht⟩ := tell_get hS hx; obtain ⟨t1, t2, t3, t4⟩ := tell_eq ht; rw [hl] at hf ⊢; rw [hK, hS]; exact .old hd k y (hk.tell hS) hy (by rw [t1]; exact hc) (by rw [t2]; exact hq) hf
  | new hd k hk hu hf =>
    rw [hl] at hf ⊢; rw [hK, hS]; exact .new hd k (hk.tell hS) (by rw [← known_tell hS]; exact hu) hf
end Go.Proofs.YtdajcpcajdhplaaDoor
/-
  What apply tells is one thing.
-/
namespace Go.Proofs.YtdajcpcajdhplaaDoor

theorem ApSays.one {b : Int} {K S : List El} {zs : List Nat} {pl c pl' c' : Int} {KK SS KK' SS' : List (List Int × List Nat)} (h : ApSays b K S zs pl c KK SS) (h' : ApSays b K S zs pl' c' KK' SS') : pl = pl' ∧ c = c' ∧ KK = KK' ∧ SS = SS' := by
  have hnd : decGood zs → zs ≠ [] := fun hd e => by subst e; have := hd.1; simp at this
  have hkn : ∀ (k : Nat) (x : El), S[k]? = some x → x.c = (decCl zs : Int) → knownAt S (decCl zs : Int) k = true := fun k x hx hc => by unfold knownAt; rw [hx]; simp [hc]
  cases h using ApSays.elim with
  | empty h =>
    cases h' using ApSays.elim with
    | empty h' => exact ⟨rfl, rfl, rfl, rfl⟩
    | bad h' hd' => exact absurd h h'
    | again hd' k' x' hk' hx' hc' hq' hs' => exact absurd h (hnd hd')
    | exist hd' k' x' hk' hx' hc' hq' hs' => exact absurd h (hnd hd')
    | full hd' k' hk' hq' hf' => exact absurd h (hnd hd')
    | old hd' k' x' hk' hx' hc' hq' hf' => exact absurd h (hnd hd')
    | new hd' k' hk' hu' hf' => exact absurd h (hnd hd')
  | bad h hd =>
    cases h' using ApSays.elim with
    | empty h' => exact absurd h' h
    | bad h' hd' => exact ⟨rfl, rfl, rfl, rfl⟩
    | again hd' k' x' hk' hx' hc' hq' hs' => exact absurd hd' hd
    | exist hd' k' x' hk' hx' hc' hq' hs' => exact absurd hd' hd
    | full hd' k' hk' hq' hf' => exact absurd hd' hd
    | old hd' k' x' hk' hx' hc' hq' hf' => exact absurd hd' hd
    | new hd' k' hk' hu' hf' => exact absurd hd' hd
  | again hd k x hk hx hc hq hs =>
    cases h' using ApSays.elim with
    | empty h' => exact absurd h' (hnd hd)
    | bad h' hd' => exact absurd hd hd'
    | again hd' k' x' hk' hx' hc' hq' hs' => obtain rfl := hk.one hk'; rw [hx] at hx'; obtain rfl := Option.some.inj hx'; exact ⟨rfl, rfl, rfl, rfl⟩
    | exist hd' k' x' hk' hx' hc' hq' hs' => obtain rfl := hk.one hk'; rw [hx] at hx'; obtain rfl := Option.some.inj hx'; exact absurd hs hs'
    | full hd' k' hk' hq' hf' => obtain rfl := hk.one hk'; have := hq' _ hx hc; omega
    | old hd' k' x' hk' hx' hc' hq' hf' => obtain rfl := hk.one hk'; rw [hx] at hx'; obtain rfl := Option.some.inj hx'; omega
    | new hd' k' hk' hu' hf' => obtain rfl := hk.one hk'; exact absurd (hkn _ _ hx hc) (by rw [hu']; simp)
  | exist hd k x hk hx hc hq hs =>
    cases h' using ApSays.elim with
    | empty h' => exact absurd h' (hnd hd)
    | bad h' hd' => exact absurd hd hd'
    | again hd' k' x' hk' hx' hc' hq' hs' => obtain rfl := hk.one hk'; rw [hx] at hx'; obtain rfl := Option.some.inj hx'; exact absurd hs' hs
    | exist hd' k' x' hk' hx' hc' hq' hs' => obtain rfl := hk.one hk'; rw [hx] at hx'; obtain rfl := Option.some.inj hx'; exact ⟨rfl, rfl, rfl, rfl⟩
    | full hd' k' hk' hq' hf' => obtain rfl := hk.one hk'; have := hq' _ hx hc; omega
    | old hd' k' x' hk' hx' hc' hq' hf' => obtain rfl := hk.one hk'; rw [hx] at hx'; obtain rfl := Option.some.inj hx'; omega
    | new hd' k' hk' hu' hf' => obtain rfl := hk.one hk'; exact absurd (hkn _ _ hx hc) (by rw [hu']; simp)
  | full hd k hk hq hf =>
    cases h' using ApSays.elim with
    | empty h' => exact absurd h' (hnd hd)
    | bad h' hd' => exact absurd hd hd'
    | again hd' k' x' hk' hx' hc' hq' hs' => obtain rfl := hk.one hk'; have := hq _ hx' hc'; omega
    | exist hd' k' x' hk' hx' hc' hq' hs' => obtain rfl := hk.one hk'; have := hq _ hx' hc'; omega
    | full hd' k' hk' hq' hf' => obtain rfl := hk.one hk'; exact ⟨rfl, rfl, rfl, rfl⟩
    | old hd' k' x' hk' hx' hc' hq' hf' => obtain rfl := hk.one hk'; exact absurd hf hf'
    | new hd' k' hk' hu' hf' => obtain rfl := hk.one hk'; exact absurd hf hf'
  | old hd k x hk hx hc hq hf =>
    cases h' using ApSays.elim with
    | empty h' => exact absurd h' (hnd hd)
    | bad h' hd' => exact absurd hd hd'
    | again hd' k' x' hk' hx' hc' hq' hs' => obtain rfl := hk.one hk'; rw [hx] at hx'; obtain rfl := Option.some.inj hx'; omega
    | exist hd' k' x' hk' hx' hc' hq' hs' => obtain rfl := hk.one hk'; rw [hx] at hx'; obtain rfl := Option.some.inj hx'; omega
    | full hd' k' hk' hq' hf' => obtain rfl := hk.one hk'; exact absurd hf' hf
    | old hd' k' x' hk' hx' hc' hq' hf' => obtain rfl := hk.one hk'; rw [hx] at hx'; obtain rfl := Option.some.inj hx'; exact ⟨rfl, rfl, rfl, rfl⟩
    | new hd' k' hk' hu' hf' => obtain rfl := hk.one hk'; exact absurd (hkn _ _ hx hc) (by rw [hu']; simp)
  | new hd k hk hu hf =>
    cases h' using ApSays.elim with
    | empty h' => exact absurd h' (hnd hd)
    | bad h' hd' => exact absurd hd hd'
    | again hd' k' x' hk' hx' hc' hq' hs' => obtain rfl := hk.one hk'; exact absurd (hkn _ _ hx' hc') (by rw [hu]; simp)
    | exist hd' k' x' hk' hx' hc' hq' hs' => obtain rfl := hk.one hk'; exact absurd (hkn _ _ hx' hc') (by rw [hu]; simp)
    | full hd' k' hk' hq' hf' => obtain rfl := hk.one hk'; exact absurd hf' hf
    | old hd' k' x' hk' hx' hc' hq' hf' => obtain rfl := hk.one hk'; exact absurd (hkn _ _ hx' hc') (by rw [hu]; simp)
    | new hd' k' hk' hu' hf' => obtain rfl := hk.one hk'; exact ⟨rfl, rfl, rfl, rfl⟩
end Go.Proofs.YtdajcpcajdhplaaDoor
/-
  The sessions as the model lays them anew, client by client.
-/
namespace Go.Proofs.YtdajcpcajdhplaaDoor

theorem risesE_gt (S : List El) (b : Int) (h : risesE b S) : ∀ x ∈ S, b < x.c := fun x hx => by
  obtain ⟨i, hi⟩ := List.getElem?_of_mem hx; exact risesE_lt S b h i x hi
/-- those of one client more -/
theorem filt_split (p : El → Bool) (c : Int) (hp : ∀ x : El, x.c = c + 1 → p x = true) (S : List El) : ∀ b, risesE b S → S.filter (fun x => p x && decide (x.c ≤ c + 1)) = S.filter (fun x => p x && decide (x.c ≤ c)) ++ S.filter (fun x => decide (x.c = c + 1)) := by
  induction S with
  | nil => intro b _; rfl
  | cons y S ih =>
    intro b h; obtain ⟨h1, h2⟩ := h; have hgt := risesE_gt S y.c h2; have hi := ih y.c h2
    rcases Int.lt_or_le y.c (c + 1) with hy | hy
    · have e1 : decide (y.c ≤ c + 1) = true := by simp; omega
      have e2 : decide (y.c ≤ c) = true := by simp; omega
      have e3 : decide (y.c = c + 1) = false := by simp; omega
      cases hpy : p y <;> simp [e1, e2, e3, hpy, hi]
    · have f1 : S.filter (fun x => p x && decide (x.c ≤ c + 1)) = [] := List.filter_eq_nil_iff.2 (fun x hx => by have := hgt x hx; simp; intro _; omega); have f2 : S.filter (fun x => p x && decide (x.c ≤ c)) = [] := List.filter_eq_nil_iff.2 (fun x hx => by have := hgt x hx; simp; intro _; omega); have f3 : S.filter (fun x => decide (x.c = c + 1)) = [] := List.filter_eq_nil_iff.2 (fun x hx => by have := hgt x hx; simp; omega)
      have e2 : decide (y.c ≤ c) = false := by simp; omega
      by_cases he : y.c = c + 1
      · have e1 : decide (y.c ≤ c + 1) = true := by simp; omega
        have e3 : decide (y.c = c + 1) = true := by simp [he]
        simp only [List.filter_cons, e1, e2, e3, hp y he, f1, f2, f3]
        simp
      · have e1 : decide (y.c ≤ c + 1) = false := by simp; omega
        have e3 : decide (y.c = c + 1) = false := by simp [he]
        simp [e1, e2, e3, f1, f2, f3]
/-- the sessions up to a client, with a new one in its place -/
def upTo (S : List El) (key : Int) (z : El) (c : Int) : List El := S.filter (fun x => decide (x.c < key) && decide (x.c ≤ c)) ++ ((if key ≤ c then [z] else []) ++ S.filter (fun x => decide (key < x.c) && decide (x.c ≤ c)))
theorem upTo_zero (S : List El) (key : Int) (z : El) (h : risesE 0 S) (hk : 0 < key) : upTo S key z 0 = [] := by
  have hgt := risesE_gt S 0 h
  have f1 : ∀ p : El → Bool, S.filter (fun x => p x && decide (x.c ≤ 0)) = [] := fun p => List.filter_eq_nil_iff.2 (fun x hx => by have := hgt x hx; simp; intro _; omega)
  unfold upTo
  rw [f1, f1, if_neg (by omega)]
  rfl
theorem upTo_key (S : List El) (key : Int) (z : El) (c : Int) (hc : c + 1 = key) : upTo S key z (c + 1) = upTo S key z c ++ [z] := by
  subst hc
  have f3 : ∀ d : Int, d ≤ c + 1 → S.filter (fun x => decide (c + 1 < x.c) && decide (x.c ≤ d)) = [] := fun d hd => List.filter_eq_nil_iff.2 (fun x _ => by simp; intro _; omega)
  have f1 : S.filter (fun x => decide (x.c < c + 1) && decide (x.c ≤ c + 1)) = S.filter (fun x => decide (x.c < c + 1) && decide (x.c ≤ c)) := by
    congr 1
    funext x
    rw [Bool.eq_iff_iff]
    simp
    omega
  unfold upTo
  rw [f3 _ (Int.le_refl _), f3 c (by omega), f1, if_pos (Int.le_refl _), if_neg (by omega)]
  simp
theorem upTo_other (S : List El) (key : Int) (z : El) (c : Int) (h : risesE 0 S) (hc : c + 1 ≠ key) : upTo S key z (c + 1) = upTo S key z c ++ S.filter (fun x => decide (x.c = c + 1)) := by
  unfold upTo
  by_cases hlt : c + 1 < key
  · have f3 : ∀ d : Int, d ≤ c + 1 → S.filter (fun x => decide (key < x.c) && decide (x.c ≤ d)) = [] := fun d hd => List.filter_eq_nil_iff.2 (fun x _ => by simp; intro _; omega)
    rw [filt_split (fun x => decide (x.c < key)) c (fun x hx => by simp; omega) S 0 h, f3 _ (Int.le_refl _), f3 c (by omega), if_neg (by omega), if_neg (by omega)]
    simp
  · have f1 : S.filter (fun x => decide (x.c < key) && decide (x.c ≤ c + 1)) = S.filter (fun x => decide (x.c < key) && decide (x.c ≤ c)) := by
      congr 1
      funext x
      rw [Bool.eq_iff_iff]
      simp
      omega
    rw [f1, filt_split (fun x => decide (key < x.c)) c (fun x hx => by simp; omega) S 0 h, if_pos (by omega), if_pos (by omega)]
    simp [List.append_assoc]
theorem spot_at {S : List El} {k : Nat} {x : El} (h : risesE 0 S) (hx : S[k]? = some x) : Spot S x.c k := by
  refine ⟨by have := (List.getElem?_eq_some_iff.1 hx).1; omega, fun i y hi hy => risesE_mono S 0 h i k y x hi hy hx, fun i y hi hy => ?_⟩
  rcases Nat.lt_or_eq_of_le hi with hlt | rfl
  · have := risesE_mono S 0 h k i x y hlt hx hy; omega
  · rw [hx] at hy; obtain rfl := Option.some.inj hy; exact Int.le_refl _
theorem take_lo {S : List El} {key : Int} {k : Nat} (hk : Spot S key k) : ∀ x ∈ S.take k, x.c < key := fun x hx => by
  obtain ⟨i, hi⟩ := List.getElem?_of_mem hx; rw [List.getElem?_take] at hi
  by_cases hik : i < k
  · rw [if_pos hik] at hi; exact hk.lo i x hik hi
  · rw [if_neg hik] at hi; cases hi
theorem drop_hi {S : List El} {key : Int} {k : Nat} (hk : Spot S key k) : ∀ x ∈ S.drop k, key ≤ x.c := fun x hx => by
  obtain ⟨i, hi⟩ := List.getElem?_of_mem hx; rw [List.getElem?_drop] at hi; exact hk.hi (k + i) x (by omega) hi
theorem upTo_lo {S : List El} {key : Int} {k : Nat} (hk : Spot S key k) (h50 : ∀ x ∈ S, x.c ≤ 50) : S.filter (fun x => decide (x.c < key) && decide (x.c ≤ 50)) = S.take k := by
  have e : S = S.take k ++ S.drop k := (List.take_append_drop k S).symm; have f1 : (S.take k).filter (fun x => decide (x.c < key) && decide (x.c ≤ 50)) = S.take k := List.filter_eq_self.2 (fun x hx => by have := take_lo hk x hx; have := h50 x (List.mem_of_mem_take hx); simp; omega); have f2 : (S.drop k).filter (fun x => decide (x.c < key) && decide (x.c ≤ 50)) = [] := List.filter_eq_nil_iff.2 (fun x hx => by have := drop_hi hk x hx; simp; intro _; omega)
  calc S.filter (fun x => decide (x.c < key) && decide (x.c ≤ 50)) = (S.take k ++ S.drop k).filter (fun x => decide (x.c < key) && decide (x.c ≤ 50)) := by rw [← e]
    _ = S.take k := by rw [List.filter_append, f1, f2, List.append_nil]
theorem upTo_hi {S : List El} {key : Int} {k : Nat} (hk : Spot S key k) (h50 : ∀ x ∈ S, x.c ≤ 50) {T : List El} (hT : (S.drop k).filter (fun x => decide (key < x.c)) = T) : S.filter (fun x => decide (key < x.c) && decide (x.c ≤ 50)) = T := by
  have e : S = S.take k ++ S.drop k := (List.take_append_drop k S).symm; have f1 : (S.take k).filter (fun x => decide (key < x.c) && decide (x.c ≤ 50)) = [] := List.filter_eq_nil_iff.2 (fun x hx => by have := take_lo hk x hx; simp; intro _; omega)
  have f2 : (S.drop k).filter (fun x => decide (key < x.c) && decide (x.c ≤ 50)) = (S.drop k).filter (fun x => decide (key < x.c)) := by
    refine List.filter_congr (fun x hx => ?_); have := h50 x (List.mem_of_mem_drop hx)
    simp [this]
  calc S.filter (fun x => decide (key < x.c) && decide (x.c ≤ 50)) = (S.take k ++ S.drop k).filter (fun x => decide (key < x.c) && decide (x.c ≤ 50)) := by rw [← e]
    _ = T := by rw [List.filter_append, f1, f2, hT, List.nil_append]
theorem upTo_known {S : List El} {key : Int} {k : Nat} {x z : El} (h : risesE 0 S) (hk : Spot S key k) (hx : S[k]? = some x) (hc : x.c = key) (h50 : ∀ x ∈ S, x.c ≤ 50) (hkey : key ≤ 50) : upTo S key z 50 = S.set k z := by
  obtain ⟨hkl, hxe⟩ := List.getElem?_eq_some_iff.1 hx
  have hT : (S.drop k).filter (fun x => decide (key < x.c)) = S.drop (k + 1) := by
    rw [List.drop_eq_getElem_cons hkl, hxe, List.filter_cons, if_neg (by simp [hc])]; refine List.filter_eq_self.2 (fun y hy => ?_); obtain ⟨i, hi⟩ := List.getElem?_of_mem hy; rw [List.getElem?_drop] at hi; have := risesE_mono S 0 h k (k + 1 + i) x y (by omega) hx hi
    simp
    omega
  unfold upTo
  rw [upTo_lo hk h50, upTo_hi hk h50 hT, if_pos hkey, List.set_eq_take_append_cons_drop, if_pos hkl]
  rfl
theorem upTo_new {S : List El} {key : Int} {k : Nat} {z : El} (h : risesE 0 S) (hk : Spot S key k) (hu : knownAt S key k = false) (h50 : ∀ x ∈ S, x.c ≤ 50) (hkey : key ≤ 50) : upTo S key z 50 = S.take k ++ z :: S.drop k := by
  have hT : (S.drop k).filter (fun x => decide (key < x.c)) = S.drop k := by
    refine List.filter_eq_self.2 (fun y hy => ?_); obtain ⟨i, hi⟩ := List.getElem?_of_mem hy; rw [List.getElem?_drop] at hi
    have hkl : k < S.length := by have := (List.getElem?_eq_some_iff.1 hi).1; omega
    have h0 := List.getElem?_eq_getElem hkl
    have hne : S[k].c ≠ key := by
      unfold knownAt at hu
      rw [h0] at hu
      simpa using hu
    have hge := hk.hi k _ (Nat.le_refl _) h0
    have : S[k].c ≤ y.c := by
      cases i with
      | zero => rw [Nat.add_zero, h0] at hi; rw [Option.some.inj hi]; exact Int.le_refl _
      | succ i => exact Int.le_of_lt (risesE_mono S 0 h k (k + (i + 1)) _ y (by omega) h0 hi)
    simp
    omega
  unfold upTo
  rw [upTo_lo hk h50, upTo_hi hk h50 hT, if_pos hkey]
  rfl
/-- one session more is looked at -/
theorem filt_take {S : List El} {k : Nat} {x : El} (p : El → Bool) (hx : S[k]? = some x) : (S.take (k + 1)).filter p = (S.take k).filter p ++ (if p x then [x] else []) := by
  rw [List.take_add_one, hx, List.filter_append]
  cases hp : p x <;> simp [hp]
/-- whatever is laid is a session or the new one -/
theorem upTo_mem {S : List El} {key : Int} {z : El} {c : Int} : ∀ x ∈ upTo S key z c, x = z ∨ x ∈ S := fun x hx => by
  unfold upTo at hx
  rcases List.mem_append.1 hx with h | h
  · exact .inr (List.mem_filter.1 h).1
  · rcases List.mem_append.1 h with h | h
    · split at h
      · exact .inl (by simpa using h)
      · cases h
    · exact .inr (List.mem_filter.1 h).1
theorem upTo_len (S : List El) (key : Int) (z : El) (c : Int) : (upTo S key z c).length ≤ 2 * S.length + 1 := by
  unfold upTo
  have h1 := List.length_filter_le (fun x : El => decide (x.c < key) && decide (x.c ≤ c)) S; have h2 := List.length_filter_le (fun x : El => decide (key < x.c) && decide (x.c ≤ c)) S
  have h3 : (if key ≤ c then [z] else ([] : List El)).length ≤ 1 := by split <;> simp
  simp only [List.length_append]
  omega
end Go.Proofs.YtdajcpcajdhplaaDoor
/-
  The model's Apply, walked: the roads that end before the sessions are looked at.
-/
namespace Go.Proofs.YtdajcpcajdhplaaDoor
open Go.RowKit

set_option maxRecDepth 4000 in
set_option maxHeartbeats 2000000 in
theorem specApply_no (s : Sv) (v : Value) (w : World) (h : SvAt w s) (hs : SvSmall s) (hno : ¬ ValidV s.b s.K s.S) :
    Calls Tryd.prog 18 #[.agg #[.int .i64 s.b, .slice s.ko s.K.length s.kc, .slice s.so s.S.length s.sc], v] w fun e w' => e = .returned (.tuple #[.agg #[.int .i64 0, .slice none 0 0, .slice none 0 0], .int .i64 0, .int .i64 5]) ∧ w.grownBy w' none := by
  have HV : Hid (∀ X : World, w.grownBy X none → Calls Tryd.prog 43 #[.agg #[.int .i64 s.b, .slice s.ko s.K.length s.kc, .slice s.so s.S.length s.sc]] X fun e w' => e = .returned (.bool false) ∧ X.grownBy w' none) := fun X hX => by
    refine (l5validE_any s.b s.ko s.kc s.K s.so s.sc s.S X (h.kk.grown0 hX) (h.ss.grown0 hX) hs.1 hs.2.1 hs.2.2.1 hs.2.2.2).mono ?_; rintro e w' ⟨r, rfl, hr, hG⟩
    cases r with
    | true => exact absurd (hr.1 rfl) hno
    | false => exact ⟨rfl, hG⟩
  clear h hs hno; obtain ⟨b, ko, kc, K, so, sc, S⟩ := s; simp only at HV ⊢; generalize K.length = kn at *; generalize S.length = sn at *
  go_enter Tryd.func18, Tryd.ntmps18
  go_wp2_with fail; refine (HV.out _ (grownBy_alloc (World.grownBy_alloc _ _ _) _)).mono ?_; rintro e w1 ⟨rfl, hG1⟩; have hb := (hG1.block (w.heap.size + 1) (by simp) (by simp)).trans (heap_two w _ _)
  have r0 : w1.cell? ⟨w.heap.size + 1, 0, none⟩ = some (.int .i64 0) := by simp [World.cell?, hb]
  have r1 : w1.cell? ⟨w.heap.size + 1, 1, none⟩ = some (.slice none 0 0) := by simp [World.cell?, hb]
  have r2 : w1.cell? ⟨w.heap.size + 1, 2, none⟩ = some (.slice none 0 0) := by simp [World.cell?, hb]
  have y0 : w1.frozen? ⟨w.heap.size + 1, 0, none⟩ = false := by simp [World.frozen?, hb]
  have y1 : w1.frozen? ⟨w.heap.size + 1, 1, none⟩ = false := by simp [World.frozen?, hb]
  have y2 : w1.frozen? ⟨w.heap.size + 1, 2, none⟩ = false := by simp [World.frozen?, hb]
  have HG : Hid (w.grownBy w1 none) := grownBy_trans (grownBy_alloc (World.grownBy_alloc _ _ _) _) hG1; clear hb hG1; go_wp2; refine bodyPost_ret (v := .tuple #[.agg #[.int .i64 0, .slice none 0 0, .slice none 0 0], .int .i64 0, .int .i64 5]) (by simp [results, Tryd.results18, go_sem, r0, r1, r2]) rfl ⟨rfl, ?_⟩; exact grownBy_setNew (grownBy_setNew (grownBy_setNew HG.out (by simp)) (by simp)) (by simp)
/-- what Apply hands back, with the service's copy -/
def ApPost (s : Sv) (zs : List Nat) (w : World) (e : Ending) (w' : World) : Prop :=
  ∃ (q r : Sv) (pl c : Int), e = .returned (.tuple #[r.val, .int .i64 pl, .int .i64 c]) ∧ q.tell = s.tell ∧ r.b = s.b ∧ ApSays s.b q.K q.S zs pl c (r.K.map El.tell) (r.S.map El.tell) ∧ SvAt w' r ∧ (∀ k, SvB r k → w.heap.size ≤ k) ∧ w.grownBy w' none
/-- the service is copied into the parameter's own memory -/
structure AC (s : Sv) (w wl : World) (vk vs : Value) (K S : List El) : Prop where
  cd : CD w wl w.heap.size (w.heap.size + 2) s.b vk vs K S
  res : wl.heap[w.heap.size + 1]? = some (.cells #[.int .i64 0, .slice none 0 0, .slice none 0 0] 28 (0, 0))
  tk : K.map El.tell = s.K.map El.tell
  ts : S.map El.tell = s.S.map El.tell
theorem AC.more {s : Sv} {w wl wx : World} {vk vs : Value} {K S : List El} (h : AC s w wl vk vs K S) (hg : wl.grownBy wx none) : AC s w wx vk vs K S :=
  ⟨h.cd.more hg, (hg.block _ (Array.getElem?_eq_some_iff.1 h.res).1 (by simp)).trans h.res, h.tk, h.ts⟩
theorem AC.resC {s : Sv} {w wl : World} {vk vs : Value} {K S : List El} (h : AC s w wl vk vs K S) : (wl.cell? ⟨w.heap.size + 1, 0, none⟩ = some (.int .i64 0) ∧ wl.cell? ⟨w.heap.size + 1, 1, none⟩ = some (.slice none 0 0) ∧ wl.cell? ⟨w.heap.size + 1, 2, none⟩ = some (.slice none 0 0)) ∧ wl.frozen? ⟨w.heap.size + 1, 0, none⟩ = false ∧ wl.frozen? ⟨w.heap.size + 1, 1, none⟩ = false ∧ wl.frozen? ⟨w.heap.size + 1, 2, none⟩ = false := by
  have := h.res
  simp [World.cell?, World.frozen?, this]
/-- handed back as it is -/
theorem AC.post {s : Sv} {zs : List Nat} {w wl : World} {vk vs : Value} {K S : List El} {pl c : Int} {a0 a1 a2 : Value} (h : AC s w wl vk vs K S) (ha : ApSays s.b K S zs pl c (K.map El.tell) (S.map El.tell)) : ApPost s zs w (.returned (.tuple #[.agg #[.int .i64 s.b, vk, vs], .int .i64 pl, .int .i64 c])) (((wl.setCell ⟨w.heap.size + 1, 0, none⟩ a0).setCell ⟨w.heap.size + 1, 1, none⟩ a1).setCell ⟨w.heap.size + 1, 2, none⟩ a2) := by
  obtain ⟨r, e, hb, rfl, rfl, h1, h2, h3⟩ := h.cd.done a0 a1 a2; exact ⟨⟨s.b, none, 0, r.K, none, 0, r.S⟩, r, pl, c, by rw [e], by simp [Sv.tell, h.tk, h.ts], hb, ha, h1, h2, h3⟩
/-- the copy's ground: the box is turned, all else grows -/
theorem ac_start {s : Sv} {w w1 w2 : World} {vk vs : Value} {K S : List El} {x0 x1 x2 : Value} (hp : w1.heap[w.heap.size]? = some (.cells #[x0, x1, x2] 28 (0, 0))) (hr : w1.heap[w.heap.size + 1]? = some (.cells #[.int .i64 0, .slice none 0 0, .slice none 0 0] 28 (0, 0))) (hg : w.grownBy w1 none) (hg2 : w1.grownBy w2 none)
    (tk : K.map El.tell = s.K.map El.tell) (ts : S.map El.tell = s.S.map El.tell) (rk : ElRow w2 w1.heap.size 32 2 vk K) (rs : ElRow w2 w1.heap.size 74 3 vs S) (far : ∀ g ∈ K.filterMap El.o, g ∉ S.filterMap El.o) :
    AC s w (((w2.setCell ⟨w.heap.size, 0, none⟩ (.int .i64 s.b)).setCell ⟨w.heap.size, 1, none⟩ vk).setCell ⟨w.heap.size, 2, none⟩ vs) vk vs K S := by
  have hl := (Array.getElem?_eq_some_iff.1 hr).1; have hp2 := (hg2.block _ (Array.getElem?_eq_some_iff.1 hp).1 (by simp)).trans hp; have hr2 := (hg2.block _ hl (by simp)).trans hr
  have hG : ∀ (X : World) (j : Nat) (u : Value), X.grownBy (X.setCell ⟨w.heap.size, j, none⟩ u) (some w.heap.size) := fun X j u => grownBy_setCell (grownBy_refl _ _)
  have hlt : ∀ k, some w.heap.size = some k → k < w1.heap.size := fun k e => by simp only [Option.some.injEq] at e; omega
  refine ⟨⟨?_, ?_, ?_, ?_, far, Nat.le_refl _, by omega⟩, ?_, tk, ts⟩
  · exact grownBy_setNew (grownBy_setNew (grownBy_setNew (grownBy_trans hg hg2) (Nat.le_refl _)) (Nat.le_refl _)) (Nat.le_refl _)
  · exact heap_setCell_same _ _ 2 _ _ _ (heap_setCell_same _ _ 1 _ _ _ (heap_setCell_same _ _ 0 _ _ _ hp2))
  · exact (((rk.grown (hG _ _ _) hlt).grown (hG _ _ _) hlt).grown (hG _ _ _) hlt).lower (by omega)
  · exact (((rs.grown (hG _ _ _) hlt).grown (hG _ _ _) hlt).grown (hG _ _ _) hlt).lower (by omega)
  · exact (heap_setCell_other _ _ _ _ (by show w.heap.size + 1 ≠ w.heap.size; omega)).trans ((heap_setCell_other _ _ _ _ (by show w.heap.size + 1 ≠ w.heap.size; omega)).trans ((heap_setCell_other _ _ _ _ (by show w.heap.size + 1 ≠ w.heap.size; omega)).trans hr2))
/-- what Apply's first two calls want and give -/
def ApCalls (s : Sv) (w : World) : Prop :=
  (∀ X : World, w.grownBy X none → Calls Tryd.prog 43 #[.agg #[.int .i64 s.b, .slice s.ko s.K.length s.kc, .slice s.so s.S.length s.sc]] X fun e w' => e = .returned (.bool true) ∧ X.grownBy w' none) ∧
  (∀ X : World, w.grownBy X none → Calls Tryd.prog 44 #[.agg #[.int .i64 s.b, .slice s.ko s.K.length s.kc, .slice s.so s.S.length s.sc]] X fun e w' => ∃ (vk vs : Value) (K S : List El), e = .returned (.agg #[.int .i64 s.b, vk, vs]) ∧ Hid (K.map El.tell = s.K.map El.tell ∧ S.map El.tell = s.S.map El.tell ∧ ElRow w' X.heap.size 32 2 vk K ∧ ElRow w' X.heap.size 74 3 vs S ∧ (∀ g ∈ K.filterMap El.o, g ∉ S.filterMap El.o) ∧ X.grownBy w' none))
theorem apCalls {s : Sv} {w : World} (h : SvAt w s) (hs : SvSmall s) (hv : ValidV s.b s.K s.S) : ApCalls s w := by
  refine ⟨fun X hX => ?_, fun X hX => ?_⟩
  · refine (l5validE_any s.b s.ko s.kc s.K s.so s.sc s.S X (h.kk.grown0 hX) (h.ss.grown0 hX) hs.1 hs.2.1 hs.2.2.1 hs.2.2.2).mono ?_; rintro e w' ⟨r, rfl, hr, hG⟩
    cases r with
    | true => exact ⟨rfl, hG⟩
    | false => exact absurd (hr.2 hv) (by simp)
  · refine (l5Copy_any s X (h.grown0 hX) hs).mono ?_; rintro e w' ⟨vk, vs, K, S, rfl, h1, h2, h3, h4, h5, h6⟩; exact ⟨vk, vs, K, S, rfl, h1, h2, h3, h4, h5, h6⟩
set_option maxRecDepth 4000 in
set_option maxHeartbeats 4000000 in
theorem specApply_empty (s : Sv) (oa : Option Addr) (cap : Nat) (w : World) (hC : ApCalls s w) :
    Calls Tryd.prog 18 #[.agg #[.int .i64 s.b, .slice s.ko s.K.length s.kc, .slice s.so s.S.length s.sc], .slice oa 0 cap] w (ApPost s [] w) := by
  have HC : Hid (ApCalls s w) := hC; clear hC
  unfold ApCalls at HC
  obtain ⟨b, ko, kc, K0, so, sc, S0⟩ := s; simp only at HC ⊢; obtain ⟨sv, hsv⟩ : ∃ sv : Sv, sv = ⟨b, ko, kc, K0, so, sc, S0⟩ := ⟨_, rfl⟩; have HSV : Hid (sv = ⟨b, ko, kc, K0, so, sc, S0⟩) := hsv; rw [← hsv]
  have hbs : sv.b = b := by rw [hsv]
  have HBS : Hid (sv.b = b) := hbs; clear hsv hbs; generalize K0.length = kn0 at *; generalize S0.length = sn0 at *
  go_enter Tryd.func18, Tryd.ntmps18
  go_wp2_with fail; refine (HC.out.1 _ (grownBy_alloc (World.grownBy_alloc _ _ _) _)).mono ?_; rintro e w1 ⟨rfl, hG1⟩; have hb0 := (hG1.block w.heap.size (by simp; omega) (by simp)).trans ((Below.heap_alloc _ _ _ (by simp)).trans (heap_alloc_new w _)); have hb1 := (hG1.block (w.heap.size + 1) (by simp) (by simp)).trans (heap_two w _ _)
  have a0 : w1.cell? ⟨w.heap.size, 0, none⟩ = some (.int .i64 b) := by simp [World.cell?, hb0]
  have a1 : w1.cell? ⟨w.heap.size, 1, none⟩ = some (.slice ko kn0 kc) := by simp [World.cell?, hb0]
  have a2 : w1.cell? ⟨w.heap.size, 2, none⟩ = some (.slice so sn0 sc) := by simp [World.cell?, hb0]
  have HG1 : Hid (w.grownBy w1 none ∧ w1.heap[w.heap.size]? = some (.cells #[.int .i64 b, .slice ko kn0 kc, .slice so sn0 sc] 28 (0, 0)) ∧ w1.heap[w.heap.size + 1]? = some (.cells #[.int .i64 0, .slice none 0 0, .slice none 0 0] 28 (0, 0))) := ⟨grownBy_trans (grownBy_alloc (World.grownBy_alloc _ _ _) _) hG1, hb0, hb1⟩; clear hb0 hb1 hG1; go_wp2_with fail; refine (HC.out.2 _ HG1.out.1).mono ?_; rintro e w2 ⟨vk, vs, K, S, rfl, HR⟩; obtain ⟨oa1, ca1, hf1, -, -, -, -⟩ := HR.out.2.2.1.elO; obtain ⟨oa2, ca2, hf2, -, -, -, -⟩ := HR.out.2.2.2.1.elO; subst hf1; subst hf2; have hb2 := (HR.out.2.2.2.2.2.block w.heap.size (Array.getElem?_eq_some_iff.1 HG1.out.2.1).1 (by simp)).trans HG1.out.2.1
  have b0 : w2.cell? ⟨w.heap.size, 0, none⟩ = some (.int .i64 b) := by simp [World.cell?, hb2]
  have b1 : w2.cell? ⟨w.heap.size, 1, none⟩ = some (.slice ko kn0 kc) := by simp [World.cell?, hb2]
  have b2 : w2.cell? ⟨w.heap.size, 2, none⟩ = some (.slice so sn0 sc) := by simp [World.cell?, hb2]
  have f0 : w2.frozen? ⟨w.heap.size, 0, none⟩ = false := by simp [World.frozen?, hb2]
  have f1 : w2.frozen? ⟨w.heap.size, 1, none⟩ = false := by simp [World.frozen?, hb2]
  have f2 : w2.frozen? ⟨w.heap.size, 2, none⟩ = false := by simp [World.frozen?, hb2]
  obtain ⟨W3, hW3⟩ : ∃ W3, W3 = ((w2.setCell ⟨w.heap.size, 0, none⟩ (.int .i64 b)).setCell ⟨w.heap.size, 1, none⟩ (.slice oa1 K.length ca1)).setCell ⟨w.heap.size, 2, none⟩ (.slice oa2 S.length ca2) := ⟨_, rfl⟩
  have HA : Hid (AC sv w W3 (.slice oa1 K.length ca1) (.slice oa2 S.length ca2) K S) := by
    have hts := HSV.out; have e1 := HR.out.1; have e2 := HR.out.2.1; have := ac_start (s := sv) HG1.out.2.1 HG1.out.2.2 HG1.out.1 HR.out.2.2.2.2.2 (by rw [hts]; exact e1) (by rw [hts]; exact e2) HR.out.2.2.1 HR.out.2.2.2.1 HR.out.2.2.2.2.1; rw [hW3]; rw [HBS.out] at this; exact this
  have HW3 : Hid (W3 = ((w2.setCell ⟨w.heap.size, 0, none⟩ (.int .i64 b)).setCell ⟨w.heap.size, 1, none⟩ (.slice oa1 K.length ca1)).setCell ⟨w.heap.size, 2, none⟩ (.slice oa2 S.length ca2)) := hW3; clear HR HG1 HC hb2 hW3 a0 a1 a2
  go_upto_region 4 with fail
  rw [← HW3.out]; clear b0 b1 b2 f0 f1 f2 HW3; clear w1 w2; obtain ⟨q0, q1, q2, q3, q4⟩ := HA.out.cd.cells; rw [HBS.out] at q0; obtain ⟨⟨r0, r1, r2⟩, y0, y1, y2⟩ := HA.out.resC; go_wp2; refine bodyPost_ret (v := .tuple #[.agg #[.int .i64 b, .slice oa1 K.length ca1, .slice oa2 S.length ca2], .int .i64 0, .int .i64 0]) (by simp [results, Tryd.results18, go_sem, r0, r1, r2]) rfl ?_; have h := HA.out.post (pl := 0) (c := 0) (a0 := .int .i64 b) (a1 := .slice oa1 K.length ca1) (a2 := .slice oa2 S.length ca2) (zs := []) (.empty rfl); rw [HBS.out] at h; exact h
theorem specDec_bad (oa : Option Addr) (len : Nat) (zs : List Nat) (w : World) (hsl : SlB w oa len zs) (hm : len ≤ 1073741824) (hd : ¬ decGood zs) :
    Calls Tryd.prog 45 #[.slice oa len len] w fun e w' => e = .returned (.tuple #[.agg #[.int .i64 0, .int .i64 0, .slice none 0 0], .int .i64 5]) ∧ w.grownBy w' none := by
  have hl := hsl.1
  by_cases h8 : 8 ≤ len
  · have hp : Calls Tryd.prog 45 #[.slice oa len len] w (DecPost w len zs) := by
      by_cases h9 : len = 8
      · subst h9; exact specDecodeItem_eight oa zs w hsl
      · exact specDecodeItem_long oa len len zs w hsl h8 (Nat.le_refl _) hm h9
    refine hp.mono ?_; rintro e w' (⟨hk, h⟩ | ⟨hk, h⟩)
    · exact absurd ⟨by omega, by rw [hl]; exact hk⟩ hd
    · exact h
  · exact specDecodeItem_short oa len len w (by omega)
theorem specDec_good (oa : Option Addr) (len : Nat) (zs : List Nat) (w : World) (hsl : SlB w oa len zs) (hm : len ≤ 1073741824) (hd : decGood zs) :
    Calls Tryd.prog 45 #[.slice oa len len] w fun e w' => ∃ g cp, e = .returned (.tuple #[.agg #[.int .i64 (decCl zs : Int), .int .i64 (decSq zs : Int), .slice (some ⟨g, 0, none⟩) (len - 8) cp], .int .i64 0]) ∧ w.heap.size ≤ g ∧ Own w' 5 g (zs.drop 8) ∧ w.grownBy w' none := by
  have hl := hsl.1
  have h8 : 8 ≤ len := by have := hd.1; omega
  have hp : Calls Tryd.prog 45 #[.slice oa len len] w (DecPost w len zs) := by
    by_cases h9 : len = 8
    · subst h9; exact specDecodeItem_eight oa zs w hsl
    · exact specDecodeItem_long oa len len zs w hsl h8 (Nat.le_refl _) hm h9
  refine hp.mono ?_; rintro e w' (⟨hk, h⟩ | ⟨hk, h⟩)
  · exact h
  · exact absurd (by have := hd.2; rwa [hl] at this) hk
set_option maxRecDepth 4000 in
set_option maxHeartbeats 4000000 in
theorem specApply_bad (s : Sv) (oa : Option Addr) (len : Nat) (zs : List Nat) (w : World) (hsl : SlB w oa len zs) (hm : len ≤ 1073741824) (h0 : len ≠ 0) (hd : ¬ decGood zs) (hC : ApCalls s w) :
    Calls Tryd.prog 18 #[.agg #[.int .i64 s.b, .slice s.ko s.K.length s.kc, .slice s.so s.S.length s.sc], .slice oa len len] w (ApPost s zs w) := by
  have HZ : Hid (zs ≠ [] ∧ ¬ decGood zs) := ⟨fun e => h0 (by rw [← hsl.1, e]; rfl), hd⟩
  have HD : Hid (∀ X : World, w.grownBy X none → Calls Tryd.prog 45 #[.slice oa len len] X fun e w' => e = .returned (.tuple #[.agg #[.int .i64 0, .int .i64 0, .slice none 0 0], .int .i64 5]) ∧ X.grownBy w' none) := fun X hX => specDec_bad oa len zs X (hsl.grown0 hX) hm hd
  clear hsl hd
  have hz0 : ((len : Int) == 0) = false := by simp [h0]
  have HC : Hid (ApCalls s w) := hC; clear hC
  unfold ApCalls at HC
  obtain ⟨b, ko, kc, K0, so, sc, S0⟩ := s; simp only at HC ⊢; obtain ⟨sv, hsv⟩ : ∃ sv : Sv, sv = ⟨b, ko, kc, K0, so, sc, S0⟩ := ⟨_, rfl⟩; have HSV : Hid (sv = ⟨b, ko, kc, K0, so, sc, S0⟩) := hsv; rw [← hsv]
  have hbs : sv.b = b := by rw [hsv]
  have HBS : Hid (sv.b = b) := hbs; clear hsv hbs; generalize K0.length = kn0 at *; generalize S0.length = sn0 at *
  go_enter Tryd.func18, Tryd.ntmps18
  go_wp2_with fail; refine (HC.out.1 _ (grownBy_alloc (World.grownBy_alloc _ _ _) _)).mono ?_; rintro e w1 ⟨rfl, hG1⟩; have hb0 := (hG1.block w.heap.size (by simp; omega) (by simp)).trans ((Below.heap_alloc _ _ _ (by simp)).trans (heap_alloc_new w _)); have hb1 := (hG1.block (w.heap.size + 1) (by simp) (by simp)).trans (heap_two w _ _)
  have a0 : w1.cell? ⟨w.heap.size, 0, none⟩ = some (.int .i64 b) := by simp [World.cell?, hb0]
  have a1 : w1.cell? ⟨w.heap.size, 1, none⟩ = some (.slice ko kn0 kc) := by simp [World.cell?, hb0]
  have a2 : w1.cell? ⟨w.heap.size, 2, none⟩ = some (.slice so sn0 sc) := by simp [World.cell?, hb0]
  have HG1 : Hid (w.grownBy w1 none ∧ w1.heap[w.heap.size]? = some (.cells #[.int .i64 b, .slice ko kn0 kc, .slice so sn0 sc] 28 (0, 0)) ∧ w1.heap[w.heap.size + 1]? = some (.cells #[.int .i64 0, .slice none 0 0, .slice none 0 0] 28 (0, 0))) := ⟨grownBy_trans (grownBy_alloc (World.grownBy_alloc _ _ _) _) hG1, hb0, hb1⟩; clear hb0 hb1 hG1; go_wp2_with fail; refine (HC.out.2 _ HG1.out.1).mono ?_; rintro e w2 ⟨vk, vs, K, S, rfl, HR⟩; obtain ⟨oa1, ca1, hf1, -, -, -, -⟩ := HR.out.2.2.1.elO; obtain ⟨oa2, ca2, hf2, -, -, -, -⟩ := HR.out.2.2.2.1.elO; subst hf1; subst hf2; have hb2 := (HR.out.2.2.2.2.2.block w.heap.size (Array.getElem?_eq_some_iff.1 HG1.out.2.1).1 (by simp)).trans HG1.out.2.1
  have b0 : w2.cell? ⟨w.heap.size, 0, none⟩ = some (.int .i64 b) := by simp [World.cell?, hb2]
  have b1 : w2.cell? ⟨w.heap.size, 1, none⟩ = some (.slice ko kn0 kc) := by simp [World.cell?, hb2]
  have b2 : w2.cell? ⟨w.heap.size, 2, none⟩ = some (.slice so sn0 sc) := by simp [World.cell?, hb2]
  have f0 : w2.frozen? ⟨w.heap.size, 0, none⟩ = false := by simp [World.frozen?, hb2]
  have f1 : w2.frozen? ⟨w.heap.size, 1, none⟩ = false := by simp [World.frozen?, hb2]
  have f2 : w2.frozen? ⟨w.heap.size, 2, none⟩ = false := by simp [World.frozen?, hb2]
  obtain ⟨W3, hW3⟩ : ∃ W3, W3 = ((w2.setCell ⟨w.heap.size, 0, none⟩ (.int .i64 b)).setCell ⟨w.heap.size, 1, none⟩ (.slice oa1 K.length ca1)).setCell ⟨w.heap.size, 2, none⟩ (.slice oa2 S.length ca2) := ⟨_, rfl⟩
  have HA : Hid (AC sv w W3 (.slice oa1 K.length ca1) (.slice oa2 S.length ca2) K S) := by
    have hts := HSV.out; have e1 := HR.out.1; have e2 := HR.out.2.1; have := ac_start (s := sv) HG1.out.2.1 HG1.out.2.2 HG1.out.1 HR.out.2.2.2.2.2 (by rw [hts]; exact e1) (by rw [hts]; exact e2) HR.out.2.2.1 HR.out.2.2.2.1 HR.out.2.2.2.2.1; rw [hW3]; rw [HBS.out] at this; exact this
  have HW3 : Hid (W3 = ((w2.setCell ⟨w.heap.size, 0, none⟩ (.int .i64 b)).setCell ⟨w.heap.size, 1, none⟩ (.slice oa1 K.length ca1)).setCell ⟨w.heap.size, 2, none⟩ (.slice oa2 S.length ca2)) := hW3; clear HR HG1 HC hb2 hW3 a0 a1 a2
  go_upto_region 4 with fail
  rw [← HW3.out]; clear b0 b1 b2 f0 f1 f2 HW3; clear w1 w2; go_wp2_with fail; refine (HD.out _ HA.out.cd.grown).mono ?_; rintro e w4 ⟨rfl, hG4⟩; have HA4 : Hid (AC sv w (w4.alloc (.cells #[.int .i64 0, .int .i64 0, .slice none 0 0] 32)) (.slice oa1 K.length ca1) (.slice oa2 S.length ca2) K S) := HA.out.more (grownBy_trans hG4 (World.grownBy_alloc _ _ _)); clear hG4 HA HD
  go_upto_region 7 with fail
  generalize w4.alloc (.cells #[.int .i64 0, .int .i64 0, .slice none 0 0] 32) = W5 at *; obtain ⟨q0, q1, q2, q3, q4⟩ := HA4.out.cd.cells; rw [HBS.out] at q0; obtain ⟨⟨r0, r1, r2⟩, y0, y1, y2⟩ := HA4.out.resC; go_wp2; refine bodyPost_ret (v := .tuple #[.agg #[.int .i64 b, .slice oa1 K.length ca1, .slice oa2 S.length ca2], .int .i64 0, .int .i64 5]) (by simp [results, Tryd.results18, go_sem, r0, r1, r2]) rfl ?_; have h := HA4.out.post (pl := 0) (c := 5) (a0 := .int .i64 b) (a1 := .slice oa1 K.length ca1) (a2 := .slice oa2 S.length ca2) (.bad HZ.out.1 HZ.out.2); rw [HBS.out] at h; exact h
set_option maxRecDepth 4000 in
set_option maxHeartbeats 2000000 in
theorem implApply_no (s : Sv) (v : Value) (w : World) (h : SvFull w s) (hs : SvSmall s) (hno : ¬ ValidV s.b s.K s.S) :
    Calls Tryd.prog 13 #[.agg #[.int .i64 s.b, .slice s.ko s.K.length s.kc, .slice s.so s.S.length s.sc], v] w fun e w' => e = .returned (.tuple #[.agg #[.int .i64 0, .slice none 0 0, .slice none 0 0], .int .i64 0, .int .i64 5]) ∧ w.grownBy w' none := by
  have HV : Hid (∀ X : World, w.grownBy X none → Calls Tryd.prog 33 #[.agg #[.int .i64 s.b, .slice s.ko s.K.length s.kc, .slice s.so s.S.length s.sc]] X fun e w' => e = .returned (.bool false) ∧ X.grownBy w' none) := fun X hX => by
    refine (svalidE_any s.b s.ko s.kc s.K s.so s.sc s.S X (h.at_.kk.grown0 hX) (h.at_.ss.grown0 hX) hs.1 hs.2.1 hs.2.2.1 hs.2.2.2).mono ?_; rintro e w' ⟨r, rfl, hr, hG⟩
    cases r with
    | true => exact absurd (hr.1 rfl) hno
    | false => exact ⟨rfl, hG⟩
  clear h hs hno; obtain ⟨b, ko, kc, K, so, sc, S⟩ := s; simp only at HV ⊢; generalize K.length = kn at *; generalize S.length = sn at *
  go_enter Tryd.func13, Tryd.ntmps13
  go_wp2_with fail; refine (HV.out _ (grownBy_alloc (World.grownBy_alloc _ _ _) _)).mono ?_; rintro e w1 ⟨rfl, hG1⟩; have hb := (hG1.block (w.heap.size + 1) (by simp) (by simp)).trans (heap_two w _ _)
  have r0 : w1.cell? ⟨w.heap.size + 1, 0, none⟩ = some (.int .i64 0) := by simp [World.cell?, hb]
  have r1 : w1.cell? ⟨w.heap.size + 1, 1, none⟩ = some (.slice none 0 0) := by simp [World.cell?, hb]
  have r2 : w1.cell? ⟨w.heap.size + 1, 2, none⟩ = some (.slice none 0 0) := by simp [World.cell?, hb]
  have y0 : w1.frozen? ⟨w.heap.size + 1, 0, none⟩ = false := by simp [World.frozen?, hb]
  have y1 : w1.frozen? ⟨w.heap.size + 1, 1, none⟩ = false := by simp [World.frozen?, hb]
  have y2 : w1.frozen? ⟨w.heap.size + 1, 2, none⟩ = false := by simp [World.frozen?, hb]
  have HG : Hid (w.grownBy w1 none) := grownBy_trans (grownBy_alloc (World.grownBy_alloc _ _ _) _) hG1; clear hb hG1; go_wp2; refine bodyPost_ret (v := .tuple #[.agg #[.int .i64 0, .slice none 0 0, .slice none 0 0], .int .i64 0, .int .i64 5]) (by simp [results, Tryd.results13, go_sem, r0, r1, r2]) rfl ⟨rfl, ?_⟩; exact grownBy_setNew (grownBy_setNew (grownBy_setNew HG.out (by simp)) (by simp)) (by simp)
theorem risesE_tell (S : List El) : ∀ (S0 : List El) (b : Int), S.map El.tell = S0.map El.tell → risesE b S0 → risesE b S := by
  induction S with
  | nil => intro S0 b h _; exact trivial
  | cons x S ih =>
    intro S0 b h hr
    cases S0 with
    | nil => simp at h
    | cons y S0 =>
      simp only [List.map_cons, List.cons.injEq] at h
      have hc : x.c = y.c := by have := congrArg Prod.fst h.1; simp only [El.tell] at this; simp only [El.c, this]
      exact ⟨by rw [hc]; exact hr.1, by rw [hc]; exact ih S0 _ h.2 hr.2⟩
set_option maxRecDepth 4000 in
set_option maxHeartbeats 4000000 in
theorem implApply_ok (s : Sv) (oa : Option Addr) (len cap : Nat) (zs : List Nat) (ad : Nat → Addr) (w : World) (hE : ErrsAt w ad) (hsl : SlB w oa len zs) (hcp : len ≤ cap) (hm : len ≤ 1073741824) (h : SvFull w s) (hs : SvSmall s) (hv : ValidV s.b s.K s.S) :
    Calls Tryd.prog 13 #[.agg #[.int .i64 s.b, .slice s.ko s.K.length s.kc, .slice s.so s.S.length s.sc], .slice oa len cap] w fun e w' => ∃ (q r : Sv) (pl c : Int), e = .returned (.tuple #[r.val, .int .i64 pl, .int .i64 c]) ∧ q.tell = s.tell ∧ r.b = s.b ∧ ApSays s.b q.K q.S zs pl c (r.K.map El.tell) (r.S.map El.tell) ∧ SvAt w' r ∧ (∀ k, SvB r k → w.heap.size ≤ k) ∧ w.grownBy w' none := by
  have HV : Hid (∀ X : World, w.grownBy X none → Calls Tryd.prog 33 #[.agg #[.int .i64 s.b, .slice s.ko s.K.length s.kc, .slice s.so s.S.length s.sc]] X fun e w' => e = .returned (.bool true) ∧ X.grownBy w' none) := fun X hX => by
    refine (svalidE_any s.b s.ko s.kc s.K s.so s.sc s.S X (h.at_.kk.grown0 hX) (h.at_.ss.grown0 hX) hs.1 hs.2.1 hs.2.2.1 hs.2.2.2).mono ?_; rintro e w' ⟨r, rfl, hr, hG⟩
    cases r with
    | true => exact ⟨rfl, hG⟩
    | false => exact absurd (hr.2 hv) (by simp)
  have HC : Hid (∀ X : World, w.grownBy X none → Calls Tryd.prog 34 #[.agg #[.int .i64 s.b, .slice s.ko s.K.length s.kc, .slice s.so s.S.length s.sc]] X fun e w' => ∃ (gk gs kn sn : Nat) (K S : List El), e = .returned (.agg #[.int .i64 s.b, .slice (some ⟨gk, 0, none⟩) kn kn, .slice (some ⟨gs, 0, none⟩) sn sn]) ∧ Hid (K.length = kn ∧ S.length = sn ∧ K.map El.tell = s.K.map El.tell ∧ S.map El.tell = s.S.map El.tell ∧ ElAt w' 32 2 gk K ∧ ElAt w' 74 3 gs S ∧ (∀ x ∈ K, ∀ y ∈ S, ∀ j, x.o = some j → y.o ≠ some j) ∧ (∀ j, (ElB (some ⟨gk, 0, none⟩) K j ∨ ElB (some ⟨gs, 0, none⟩) S j) → X.heap.size ≤ j)) ∧ X.grownBy w' none) := fun X hX => by
    refine (svClone_any s X (h.grown0 hX) hs).mono ?_; rintro e w' ⟨⟨b', ko', kc', K', so', sc', S'⟩, rfl, ht, hF, hk1, hk2, hB, hG⟩; obtain ⟨gk, hgk⟩ := hF.kb; obtain ⟨gs, hgs⟩ := hF.sb; simp only [Sv.tell, Prod.mk.injEq] at ht hgk hgs hk1 hk2; subst hgk hgs; obtain ⟨rfl, htk, hts⟩ := ht; exact ⟨gk, gs, K'.length, S'.length, K', S', by simp [hk1, hk2], ⟨rfl, rfl, htk, hts, hF.at_.kk.here, hF.at_.ss.here, hF.at_.far, fun j hj => hB j hj⟩, hG⟩
  have HE : Hid (ErrsAt w ad ∧ SlB w oa len zs) := ⟨hE, hsl⟩; have HS : Hid (SvSmall s ∧ ValidV s.b s.K s.S) := ⟨hs, hv⟩; clear h hs hv hE hsl; obtain ⟨b, ko, kc, K0, so, sc, S0⟩ := s; simp only at HV HC HS ⊢; obtain ⟨kn0, hkn0⟩ : ∃ n, K0.length = n := ⟨_, rfl⟩; obtain ⟨sn0, hsn0⟩ : ∃ n, S0.length = n := ⟨_, rfl⟩; have HN0 : Hid (K0.length = kn0 ∧ S0.length = sn0) := ⟨hkn0, hsn0⟩; rw [hkn0, hsn0] at HV HC ⊢; clear hkn0 hsn0
  go_enter Tryd.func13, Tryd.ntmps13
  go_wp2_with fail; refine (HV.out _ (grownBy_alloc (World.grownBy_alloc _ _ _) _)).mono ?_; rintro e w1 ⟨rfl, hG1⟩; have hb0 := (hG1.block w.heap.size (by simp; omega) (by simp)).trans ((Below.heap_alloc _ _ _ (by simp)).trans (heap_alloc_new w _)); have hb1 := (hG1.block (w.heap.size + 1) (by simp) (by simp)).trans (heap_two w _ _)
  have a0 : w1.cell? ⟨w.heap.size, 0, none⟩ = some (.int .i64 b) := by simp [World.cell?, hb0]
  have a1 : w1.cell? ⟨w.heap.size, 1, none⟩ = some (.slice ko kn0 kc) := by simp [World.cell?, hb0]
  have a2 : w1.cell? ⟨w.heap.size, 2, none⟩ = some (.slice so sn0 sc) := by simp [World.cell?, hb0]
  have HG1 : Hid (w.grownBy w1 none ∧ w1.heap[w.heap.size + 1]? = some (.cells #[.int .i64 0, .slice none 0 0, .slice none 0 0] 28 (0, 0))) := ⟨grownBy_trans (grownBy_alloc (World.grownBy_alloc _ _ _) _) hG1, hb1⟩; clear hb0 hb1 hG1 HV; go_wp2_with fail; refine (HC.out _ HG1.out.1).mono ?_; rintro e w2 ⟨gk, gs, kn, sn, K, S, rfl, HF, hG2⟩; have HG2 : Hid (w1.grownBy w2 none) := hG2; clear hG2 HC a0 a1 a2; go_wp2_with fail
  have HAP : Hid (Calls Tryd.prog 35 #[.pointer (some ⟨w2.heap.size, 0, none⟩), .slice oa len cap] (w2.alloc (.cells #[.int .i64 b, .slice (some ⟨gk, 0, none⟩) kn kn, .slice (some ⟨gs, 0, none⟩) sn sn] 28)) fun e w3 => ∃ (pl c : Int) (er : Value) (gk' kc' gs' sc' kn' sn' : Nat) (K' S' : List El), e = .returned (.tuple #[.int .i64 pl, er]) ∧ (w3.cell? ⟨w2.heap.size, 0, none⟩ = some (.int .i64 b) ∧ w3.cell? ⟨w2.heap.size, 1, none⟩ = some (.slice (some ⟨gk', 0, none⟩) kn' kc') ∧ w3.cell? ⟨w2.heap.size, 2, none⟩ = some (.slice (some ⟨gs', 0, none⟩) sn' sc')) ∧
      Hid (ErrSays ad er c ∧ ErrsAt w3 ad ∧ K'.length = kn' ∧ S'.length = sn' ∧ ApSays b K S zs pl c (K'.map El.tell) (S'.map El.tell) ∧ ElAt w3 32 2 gk' K' ∧ ElAt w3 74 3 gs' S' ∧ (∀ x ∈ K', ∀ y ∈ S', ∀ j, x.o = some j → y.o ≠ some j) ∧ (∀ j, (ElB (some ⟨gk', 0, none⟩) K' j ∨ ElB (some ⟨gs', 0, none⟩) S' j) → w.heap.size + 2 ≤ j) ∧ w.grownBy w3 none ∧ w2.heap.size < w3.heap.size ∧ w3.heap[w.heap.size + 1]? = some (.cells #[.int .i64 0, .slice none 0 0, .slice none 0 0] 28 (0, 0)))) := by
    obtain ⟨hl1, hl2, ht1, ht2, hK, hS, hfar, hB⟩ := HF.out
    have hz1 : w.heap.size + 2 ≤ w1.heap.size := by have := (Array.getElem?_eq_some_iff.1 HG1.out.2).1; omega
    have GA : w2.grownBy (w2.alloc (.cells #[.int .i64 b, .slice (some ⟨gk, 0, none⟩) kn kn, .slice (some ⟨gs, 0, none⟩) sn sn] 28)) none := World.grownBy_alloc _ _ _; have GW := grownBy_trans (grownBy_trans HG1.out.1 HG2.out) GA
    have hkl : K.length ≤ 1048576 := by have h1 := congrArg List.length ht1; simp at h1; have := HS.out.1.1; simp at this; omega
    have hsl' : S.length ≤ 1048576 := by have h1 := congrArg List.length ht2; simp at h1; have := HS.out.1.2.1; simp at this; omega
    have hrs : risesE 0 S := risesE_tell S S0 0 ht2 HS.out.2.2.2.2.2.2; refine (apply_any w2.heap.size gk gs b K S oa len cap zs ad _ (HE.out.1.grown GW) (HE.out.2.grown0 GW) hcp hm (by rw [hl1, hl2]; exact heap_alloc_new w2 _) (hK.kept (fun j hj _ => GA.block j hj (by simp))) (hS.kept (fun j hj _ => GA.block j hj (by simp))) hfar hrs hsl' hkl (by have h1 := HS.out.2.1; have h2 := HS.out.2.2.1; omega)).mono ?_; rintro e w3 ⟨pl, c, er, gk', kc', gs', sc', K', S', rfl, h1, h2, h3, h4, h5, h6, h7, h8⟩; have hgs : w1.heap.size ≤ gs := hB gs (.inr (.inl rfl)); have hz2 := HG2.out.size; have hg3 : w.grownBy w3 none := h8.grown GW (fun k hk => by rcases hk with rfl | rfl <;> omega); refine ⟨pl, c, er, gk', kc', gs', sc', K'.length, S'.length, K', S', rfl, by simp [World.cell?, h3], h1, HE.out.1.grown hg3, rfl, rfl, h2, h4, h5, h6, fun j hj => ?_, hg3, (Array.getElem?_eq_some_iff.1 h3).1, ?_⟩
    · rcases h7 j hj with h | h
      · have := hB j h; omega
      · simp at h; omega
    · have e1 := h8.block (w.heap.size + 1) (by simp; omega) (by intro h; rcases h with h | h <;> omega); exact e1.trans ((grownBy_trans HG2.out GA).block _ (by omega) (by simp) |>.trans HG1.out.2)
  refine HAP.out.mono ?_; rintro e w3 ⟨pl, c, er, gk', kc', gs', sc', kn', sn', K', S', rfl, hD, HR⟩
  have HB7 : Hid (w.heap.size + 1 < w2.heap.size) := by show _ < _; have h1 := (Array.getElem?_eq_some_iff.1 HG1.out.2).1; have h2 := HG2.out.size; omega
  have hne : w2.heap.size ≠ w.heap.size + 1 := by have := HB7.out; omega
  have HCO : Hid (∀ X : World, Same w3 X → Calls Tryd.prog 36 #[er] X fun e w4 => e = .returned (.int .i64 c) ∧ (w4.cell? ⟨w2.heap.size, 0, none⟩ = some (.int .i64 b) ∧ w4.cell? ⟨w2.heap.size, 1, none⟩ = some (.slice (some ⟨gk', 0, none⟩) kn' kc') ∧ w4.cell? ⟨w2.heap.size, 2, none⟩ = some (.slice (some ⟨gs', 0, none⟩) sn' sc')) ∧ (w4.cell? ⟨w.heap.size + 1, 0, none⟩ = some (.int .i64 0) ∧ w4.cell? ⟨w.heap.size + 1, 1, none⟩ = some (.slice none 0 0) ∧ w4.cell? ⟨w.heap.size + 1, 2, none⟩ = some (.slice none 0 0)) ∧ (w4.frozen? ⟨w.heap.size + 1, 0, none⟩ = false ∧ w4.frozen? ⟨w.heap.size + 1, 1, none⟩ = false ∧ w4.frozen? ⟨w.heap.size + 1, 2, none⟩ = false) ∧ Hid (w3.grownBy w4 none)) := by
    intro X hX; have GX : w3.grownBy X none := grownBy_same (grownBy_refl _ _) hX; refine (codeOf_says ad er c X (HR.out.2.1.grown GX) HR.out.1).mono ?_; rintro e w4 ⟨rfl, hG⟩; have G4 : w3.grownBy w4 none := grownBy_trans GX hG
    have hc : ∀ {a o v}, w3.cell? ⟨a, o, none⟩ = some v → w4.cell? ⟨a, o, none⟩ = some v := fun h => ((bcell G4).1 _ _ (cell_block_lt h)).trans h
    have hb := (G4.block _ (Array.getElem?_eq_some_iff.1 HR.out.2.2.2.2.2.2.2.2.2.2.2).1 (by simp)).trans HR.out.2.2.2.2.2.2.2.2.2.2.2; exact ⟨rfl, ⟨hc hD.1, hc hD.2.1, hc hD.2.2⟩, by simp [World.cell?, hb], by simp [World.frozen?, hb], G4⟩
  obtain ⟨d0, d1, d2⟩ := hD; clear HAP; go_wp2_with fail
  go_region_held3 (fun W => W.cell? ⟨w2.heap.size, 0, none⟩ = some (.int .i64 b) ∧ W.cell? ⟨w2.heap.size, 1, none⟩ = some (.slice (some ⟨gk', 0, none⟩) kn' kc') ∧ W.cell? ⟨w2.heap.size, 2, none⟩ = some (.slice (some ⟨gs', 0, none⟩) sn' sc')) (first | go_keep | exact ⟨d0, d1, d2⟩ | exact hD4 | (simp only [cell_set_ne _ _ _ _ _ _ hne]; exact hD4) | fail)
    (first
      | (go_at_call 36; refine (HCO.out _ (by exact ⟨rfl, rfl, rfl, rfl⟩)).mono ?_; rintro e w4 ⟨rfl, hD4, ⟨r0, r1, r2⟩, ⟨y0, y1, y2⟩, HG4⟩)
      | fail)
  all_goals
    go_wp2; refine bodyPost_ret (v := .tuple #[.agg #[.int .i64 b, .slice (some ⟨gk', 0, none⟩) kn' kc', .slice (some ⟨gs', 0, none⟩) sn' sc'], .int .i64 pl, .int .i64 c]) (by simp [results, Tryd.results13, go_sem, r0, r1, r2]) rfl ?_; obtain ⟨-, -, hl1', hl2', hsay, hK', hS', hfar', hB', hg3, -, -⟩ := HR.out; have hl1 := HF.out.2.2.1; have hl2 := HF.out.2.2.2.1
    have hk : ∀ {t : TypeId} {m g : Nat} {L : List El} {X : World} (p : Addr) (v : Value), ElAt X t m g L → (∀ k, (k = g ∨ ∃ x ∈ L, x.o = some k) → k ≠ p.block) → ElAt (X.setCell p v) t m g L := fun p v h hk => h.kept (fun k _ hkk => heap_setCell_other _ _ _ _ (hk k hkk))
    have nK : ∀ k, (k = gk' ∨ ∃ x ∈ K', x.o = some k) → k ≠ w.heap.size + 1 := fun k hk => by
      have := hB' k (.inl (by rcases hk with rfl | hk; exact .inl rfl; exact .inr hk))
      omega
    have nS : ∀ k, (k = gs' ∨ ∃ x ∈ S', x.o = some k) → k ≠ w.heap.size + 1 := fun k hk => by
      have := hB' k (.inr (by rcases hk with rfl | hk; exact .inl rfl; exact .inr hk))
      omega
    refine ⟨⟨b, some ⟨gk, 0, none⟩, kn, K, some ⟨gs, 0, none⟩, sn, S⟩, ⟨b, some ⟨gk', 0, none⟩, kc', K', some ⟨gs', 0, none⟩, sc', S'⟩, pl, c, by simp [Sv.val, hl1', hl2'], by simp [Sv.tell, hl1, hl2], rfl, hsay, ⟨.inr ⟨gk', rfl, ?_⟩, .inr ⟨gs', rfl, ?_⟩, hfar'⟩, fun k hkk => by have := hB' k hkk; omega, ?_⟩
    · exact hk _ _ (hk _ _ (hk _ _ (hK'.kept (fun j hj _ => HG4.out.block j hj (by simp))) nK) nK) nK
    · exact hk _ _ (hk _ _ (hk _ _ (hS'.kept (fun j hj _ => HG4.out.block j hj (by simp))) nS) nS) nS
    · exact grownBy_setNew (grownBy_setNew (grownBy_setNew (grownBy_trans hg3 HG4.out) (by simp)) (by simp)) (by simp)
theorem ElRow.at {w : World} {base m : Nat} {t : TypeId} {oa : Option Addr} {n cap : Nat} {L : List El} (h : ElRow w base t m (.slice oa n cap) L) {i : Nat} {x : El} (hx : L[i]? = some x) : ∃ g, oa = some ⟨g, 0, none⟩ ∧ ElAt w t m g L := by
  obtain ⟨oa', cap', e, ho, -, -, -⟩ := h.elO; simp only [Value.slice.injEq] at e; obtain ⟨rfl, -, rfl⟩ := e
  rcases ho with ⟨_, _, h0⟩ | h
  · rw [h0] at hx; simp at hx
  · exact h
theorem drew_cell (X : World) (a : Addr) : X.drew.cell? a = X.cell? a := rfl
theorem set3_cell {X : World} {a c q : Nat} {u0 u1 u2 v : Value} (h : X.cell? ⟨c, q, none⟩ = some v) (hne : c ≠ a) : (((X.setCell ⟨a, 0, none⟩ u0).setCell ⟨a, 1, none⟩ u1).setCell ⟨a, 2, none⟩ u2).drew.cell? ⟨c, q, none⟩ = some v := by
  rw [drew_cell, cell_set_ne _ _ _ _ _ _ hne, cell_set_ne _ _ _ _ _ _ hne, cell_set_ne _ _ _ _ _ _ hne]; exact h
theorem set3_cell' {X : World} {a c q : Nat} {u0 u1 u2 v : Value} (h : X.cell? ⟨c, q, none⟩ = some v) (hne : c ≠ a) : (((X.setCell ⟨a, 0, none⟩ u0).setCell ⟨a, 1, none⟩ u1).setCell ⟨a, 2, none⟩ u2).cell? ⟨c, q, none⟩ = some v := by
  rw [cell_set_ne _ _ _ _ _ _ hne, cell_set_ne _ _ _ _ _ _ hne, cell_set_ne _ _ _ _ _ _ hne]; exact h
theorem ApPost.same {s : Sv} {zs : List Nat} {w X Y : World} {e : Ending} (h : ApPost s zs w e X) (hs : Same X Y) : ApPost s zs w e Y := by
  obtain ⟨q, r, pl, c, h1, h2, h3, h4, h5, h6, h7⟩ := h; exact ⟨q, r, pl, c, h1, h2, h3, h4, h5.grown0 (grownBy_same (grownBy_refl _ _) hs), h6, grownBy_same h7 hs⟩
/-- .. and the item read -/
structure AI (s : Sv) (w wl : World) (vk vs : Value) (K S : List El) (ix gx n cx : Nat) (cl sq : Int) (dd : List Nat) : Prop where
  ac : AC s w wl vk vs K S
  it : wl.heap[ix]? = some (.cells #[.int .i64 cl, .int .i64 sq, .slice (some ⟨gx, 0, none⟩) n cx] 32 (0, 0))
  xo : Own wl 5 gx dd
  xl : dd.length = n
  lo : w.heap.size + 2 ≤ gx ∧ w.heap.size + 2 ≤ ix
  nk : gx ∉ K.filterMap El.o ∧ gx ∉ S.filterMap El.o
  ni : vk.ownBlock ≠ some ix
theorem AI.more {s : Sv} {w wl wx : World} {vk vs : Value} {K S : List El} {ix gx n cx : Nat} {cl sq : Int} {dd : List Nat} (h : AI s w wl vk vs K S ix gx n cx cl sq dd) (hg : wl.grownBy wx none) : AI s w wx vk vs K S ix gx n cx cl sq dd :=
  ⟨h.ac.more hg, (hg.block _ (Array.getElem?_eq_some_iff.1 h.it).1 (by simp)).trans h.it, h.xo.grown hg (by simp), h.xl, h.lo, h.nk, h.ni⟩
theorem AI.itC {s : Sv} {w wl : World} {vk vs : Value} {K S : List El} {ix gx n cx : Nat} {cl sq : Int} {dd : List Nat} (h : AI s w wl vk vs K S ix gx n cx cl sq dd) : wl.cell? ⟨ix, 0, none⟩ = some (.int .i64 cl) ∧ wl.cell? ⟨ix, 1, none⟩ = some (.int .i64 sq) ∧ wl.cell? ⟨ix, 2, none⟩ = some (.slice (some ⟨gx, 0, none⟩) n cx) := by
  have := h.it
  simp [World.cell?, this]
theorem risesE_len (S : List El) (m : Int) : ∀ b, b ≤ m → risesE b S → (∀ x ∈ S, x.c ≤ m) → (S.length : Int) ≤ m - b := by
  induction S with
  | nil => intro b hb _ _; simp; omega
  | cons y S ih =>
    intro b hb h hm; have h1 := ih y.c (hm y (by simp)) h.2 (fun x hx => hm x (by simp [hx])); have h2 := h.1; simp only [List.length_cons]
    omega
/-- a valid service's copy -/
theorem ac_bounds {s : Sv} {w wl : World} {vk vs : Value} {K S : List El} (h : AC s w wl vk vs K S) (hv : ValidV s.b s.K s.S) : 0 ≤ s.b ∧ s.b ≤ 1000000 ∧ K.length ≤ 1000000 ∧ S.length ≤ 50 ∧ risesE 0 S ∧ (∀ x ∈ S, x.c ≤ 50) := by
  have hk : K.length = s.K.length := by have := congrArg List.length h.tk; simpa using this
  have hr := risesE_tell S s.S 0 h.ts hv.2.2.2.2.2
  have h50 : ∀ x ∈ S, x.c ≤ 50 := fun x hx => by
    obtain ⟨i, hi⟩ := List.getElem?_of_mem hx; obtain ⟨y, hy, ht⟩ := tell_get h.ts hi; have h1 := (hv.2.2.2.2.1 y (List.mem_of_getElem? hy)).1
    unfold okE itemOk at h1
    have h2 := (tell_eq ht).1
    omega
  have hl := risesE_len S 50 0 (by omega) hr h50; exact ⟨hv.1, hv.2.1, by rw [hk]; exact hv.2.2.1, by omega, hr, h50⟩
/-- the item's session, laid -/
def MineLaid (W wx : World) (p : Value) (cl sq ct : Int) (n : Nat) (dd : List Nat) : Prop :=
  ∃ im gd cd, p = .pointer (some ⟨im, 0, none⟩) ∧ wx.heap[im]? = some (.cells #[.int .i64 cl, .int .i64 sq, .int .i64 ct, .slice (some ⟨gd, 0, none⟩) n cd] 74 (0, 0)) ∧ W.heap.size ≤ im ∧ W.heap.size ≤ gd ∧ Own wx 5 gd dd ∧ W.grownBy wx none
theorem mineLaid_alloc (W w3 : World) (g3 c3 n : Nat) (cl sq ct : Int) (dd : List Nat) (hg : W.heap.size ≤ g3) (hO : Own w3 5 g3 dd) (hG : W.grownBy w3 none) :
    MineLaid W (w3.alloc (.cells #[.int .i64 cl, .int .i64 sq, .int .i64 ct, .slice (some ⟨g3, 0, none⟩) n c3] 74)) (.pointer (some ⟨w3.heap.size, 0, none⟩)) cl sq ct n dd :=
  ⟨w3.heap.size, g3, c3, rfl, heap_alloc_new _ _, hG.size, hg, hO.grown (World.grownBy_alloc _ _ none) (by simp), grownBy_alloc hG _⟩
theorem mineLaid_set (W w3 : World) (k g3 c3 n : Nat) (cl sq ct : Int) (dd : List Nat) (hk : W.heap.size ≤ k) (hg : W.heap.size ≤ g3) (hne : k ≠ g3) (hkb : w3.heap[k]? = some (.cells #[.int .i64 0, .int .i64 0, .int .i64 0, .slice none 0 0] 74 (0, 0))) (hO : Own w3 5 g3 dd) (hG : W.grownBy w3 none) :
    MineLaid W ((((w3.setCell ⟨k, 0, none⟩ (.int .i64 cl)).setCell ⟨k, 1, none⟩ (.int .i64 sq)).setCell ⟨k, 2, none⟩ (.int .i64 ct)).setCell ⟨k, 3, none⟩ (.slice (some ⟨g3, 0, none⟩) n c3)) (.pointer (some ⟨k, 0, none⟩)) cl sq ct n dd := by
  have h1 := heap_setCell_same w3 k 0 _ _ (.int .i64 cl) hkb; have h2 := heap_setCell_same _ k 1 _ _ (.int .i64 sq) h1; have h3 := heap_setCell_same _ k 2 _ _ (.int .i64 ct) h2; have h4 := heap_setCell_same _ k 3 _ _ (.slice (some ⟨g3, 0, none⟩) n c3) h3; have hn : g3 ≠ k := hne.symm; exact ⟨k, g3, c3, rfl, h4.trans rfl, hk, hg, (((hO.setOther hn).setOther hn).setOther hn).setOther hn, grownBy_setNew (grownBy_setNew (grownBy_setNew (grownBy_setNew hG hk) hk) hk) hk⟩
theorem far4 {X w3 : World} {g k : Nat} {a b c d : Value} {t : TypeId} (hgr : X.grownBy w3 (some g)) (hne : k ≠ g) (hb : X.heap[k]? = some (.cells #[a, b, c, d] t (0, 0))) :
    w3.heap[k]? = some (.cells #[a, b, c, d] t (0, 0)) ∧ w3.cell? ⟨k, 0, none⟩ = some a ∧ w3.cell? ⟨k, 1, none⟩ = some b ∧ w3.cell? ⟨k, 2, none⟩ = some c ∧ w3.cell? ⟨k, 3, none⟩ = some d ∧ w3.frozen? ⟨k, 0, none⟩ = false ∧ w3.frozen? ⟨k, 1, none⟩ = false ∧ w3.frozen? ⟨k, 2, none⟩ = false ∧ w3.frozen? ⟨k, 3, none⟩ = false := by
  have hk := (Array.getElem?_eq_some_iff.1 hb).1; have h := (hgr.block k hk (by simpa using hne)).trans hb
  simp [World.cell?, World.frozen?, h]
/-- the item is kept: what lies then -/
structure AK (s : Sv) (w wl : World) (vk vs : Value) (K S : List El) (ix gx n cx : Nat) (cl sq : Int) (dd : List Nat) : Prop where
  cd : CD w wl w.heap.size (w.heap.size + 2) s.b vk vs (K ++ [⟨[cl, sq], dd, some gx, cx⟩]) S
  res : wl.heap[w.heap.size + 1]? = some (.cells #[.int .i64 0, .slice none 0 0, .slice none 0 0] 28 (0, 0))
  it : wl.heap[ix]? = some (.cells #[.int .i64 cl, .int .i64 sq, .slice (some ⟨gx, 0, none⟩) n cx] 32 (0, 0))
  xo : Own wl 5 gx dd
  xl : dd.length = n
  tk : K.map El.tell = s.K.map El.tell
  ts : S.map El.tell = s.S.map El.tell
theorem AK.more {s : Sv} {w wl wx : World} {vk vs : Value} {K S : List El} {ix gx n cx : Nat} {cl sq : Int} {dd : List Nat} (h : AK s w wl vk vs K S ix gx n cx cl sq dd) (hg : wl.grownBy wx none) : AK s w wx vk vs K S ix gx n cx cl sq dd :=
  ⟨h.cd.more hg, (hg.block _ (Array.getElem?_eq_some_iff.1 h.res).1 (by simp)).trans h.res, (hg.block _ (Array.getElem?_eq_some_iff.1 h.it).1 (by simp)).trans h.it, h.xo.grown hg (by simp), h.xl, h.tk, h.ts⟩
theorem AK.itC {s : Sv} {w wl : World} {vk vs : Value} {K S : List El} {ix gx n cx : Nat} {cl sq : Int} {dd : List Nat} (h : AK s w wl vk vs K S ix gx n cx cl sq dd) : wl.cell? ⟨ix, 0, none⟩ = some (.int .i64 cl) ∧ wl.cell? ⟨ix, 1, none⟩ = some (.int .i64 sq) ∧ wl.cell? ⟨ix, 2, none⟩ = some (.slice (some ⟨gx, 0, none⟩) n cx) := by
  have := h.it
  simp [World.cell?, this]
theorem AK.resC {s : Sv} {w wl : World} {vk vs : Value} {K S : List El} {ix gx n cx : Nat} {cl sq : Int} {dd : List Nat} (h : AK s w wl vk vs K S ix gx n cx cl sq dd) : (wl.cell? ⟨w.heap.size + 1, 0, none⟩ = some (.int .i64 0) ∧ wl.cell? ⟨w.heap.size + 1, 1, none⟩ = some (.slice none 0 0) ∧ wl.cell? ⟨w.heap.size + 1, 2, none⟩ = some (.slice none 0 0)) ∧ wl.frozen? ⟨w.heap.size + 1, 0, none⟩ = false ∧ wl.frozen? ⟨w.heap.size + 1, 1, none⟩ = false ∧ wl.frozen? ⟨w.heap.size + 1, 2, none⟩ = false := by
  have := h.res
  simp [World.cell?, World.frozen?, this]
theorem AI.keep {s : Sv} {w wl wx wa : World} {vk vs v' : Value} {K S : List El} {ix gx n cx : Nat} {cl sq : Int} {dd : List Nat} (h : AI s w wl vk vs K S ix gx n cx cl sq dd) (hx : wl.grownBy wx none)
    (hown : wa.ownsRow (w.heap.size + 2) 32 3 v' (K.length + 1) (K.flatMap El.cells ++ [.int .i64 cl, .int .i64 sq, .slice (some ⟨gx, 0, none⟩) n cx])) (hg : wx.grownBy wa vk.ownBlock) : AK s w (wa.setCell ⟨w.heap.size, 1, none⟩ v') v' vs K S ix gx n cx cl sq dd := by
  have hX := h.more hx; have hzo : ElOwn wx (w.heap.size + 2) 2 ⟨[cl, sq], dd, some gx, cx⟩ := ⟨rfl, hX.xo.s rfl, by simp, fun g e => by simp only [Option.some.injEq] at e; have := h.lo.1; omega⟩; have hcd := hX.ac.cd.putK ⟨[cl, sq], dd, some gx, cx⟩ hzo (fun g e => by simp only [Option.some.injEq] at e; subst e; exact h.nk) (by simpa [El.cells, h.xl, oad] using hown) hg; have hset : wa.grownBy (wa.setCell ⟨w.heap.size, 1, none⟩ v') (some w.heap.size) := grownBy_setCell (grownBy_refl _ _); have hlo := h.lo; have hil := (Array.getElem?_eq_some_iff.1 hX.it).1; refine ⟨hcd, ?_, ?_, ?_, h.xl, h.ac.tk, h.ac.ts⟩
  · exact (hX.ac.cd.restK hg (by omega) (by omega) (Array.getElem?_eq_some_iff.1 hX.ac.res).1).trans hX.ac.res
  · exact (heap_setCell_other _ _ _ _ (by show ix ≠ w.heap.size; omega)).trans ((hg.block ix hil (fun e => h.ni e.symm)).trans hX.it)
  · have h1 : Own wa 5 gx dd := hX.xo.grown hg (fun e => hX.ac.cd.rk.ne (by decide) hzo gx rfl e); exact h1.setOther (by show gx ≠ w.heap.size; omega)
/-- the end: the sessions laid anew are handed back -/
theorem AK.post {s : Sv} {zs : List Nat} {w wl wr : World} {vk vs va a0 a1 a2 : Value} {K S : List El} {ix gx n cx B gd cd : Nat} (h : AK s w wl vk vs K S ix gx n cx (decCl zs : Int) (decSq zs : Int) (zs.drop 8)) (hd : decGood zs) (hG : wl.grownBy wr none) (hB : wl.heap.size ≤ B)
    (hrow : wr.ownsRow B 74 4 va (upTo S (decCl zs : Int) ⟨[(decCl zs : Int), (decSq zs : Int), s.b + (K.length : Int)], zs.drop 8, some gd, cd⟩ 50).length ((upTo S (decCl zs : Int) ⟨[(decCl zs : Int), (decSq zs : Int), s.b + (K.length : Int)], zs.drop 8, some gd, cd⟩ 50).flatMap El.cells))
    (hO : Own wr 5 gd (zs.drop 8)) (hgd : wl.heap.size ≤ gd) (hno : ∀ (j : Nat) (x : El), S[j]? = some x → x.c = (decCl zs : Int) → x.q < (decSq zs : Int)) (hf : s.b + (K.length : Int) ≠ 1000000) (hr : risesE 0 S) (h50 : ∀ x ∈ S, x.c ≤ 50) :
    ApPost s zs w (.returned (.tuple #[.agg #[.int .i64 s.b, vk, va], .int .i64 (s.b + (K.length : Int)), .int .i64 0])) ((((wr.setCell ⟨w.heap.size, 2, none⟩ va).setCell ⟨w.heap.size + 1, 0, none⟩ a0).setCell ⟨w.heap.size + 1, 1, none⟩ a1).setCell ⟨w.heap.size + 1, 2, none⟩ a2) := by
  obtain ⟨z, hz⟩ : ∃ z : El, z = ⟨[(decCl zs : Int), (decSq zs : Int), s.b + (K.length : Int)], zs.drop 8, some gd, cd⟩ := ⟨_, rfl⟩; obtain ⟨zi, hzi⟩ : ∃ z : El, z = ⟨[(decCl zs : Int), (decSq zs : Int)], zs.drop 8, some gx, cx⟩ := ⟨_, rfl⟩; rw [← hz] at hrow; have hcd := h.cd; rw [← hzi] at hcd; obtain ⟨k, hk⟩ := spot_ex S (decCl zs : Int) 0 hr
  have hkey : (decCl zs : Int) ≤ 50 := by have := hd.2; unfold itemOk at this; omega
  have hcr := hcd.more hG; have hslt := hcr.slt
  have hpB : w.heap.size + 2 ≤ wl.heap.size := by have := (Array.getElem?_eq_some_iff.1 h.res).1; omega
  -- the worlds' steps
  have g0 : wr.grownBy (wr.setCell ⟨w.heap.size, 2, none⟩ va) (some w.heap.size) := grownBy_setCell (grownBy_refl _ _)
  have gN : ∀ (X : World) (j : Nat) (u : Value), X.grownBy (X.setCell ⟨w.heap.size + 1, j, none⟩ u) (some (w.heap.size + 1)) := fun X j u => grownBy_setCell (grownBy_refl _ _)
  have step : ∀ {P : World → Prop}, (∀ (X Y : World) (r : Nat), w.heap.size ≤ r → r < w.heap.size + 2 → X.grownBy Y (some r) → P X → P Y) → P wr → P ((((wr.setCell ⟨w.heap.size, 2, none⟩ va).setCell ⟨w.heap.size + 1, 0, none⟩ a0).setCell ⟨w.heap.size + 1, 1, none⟩ a1).setCell ⟨w.heap.size + 1, 2, none⟩ a2) := fun hP h0 =>
    hP _ _ (w.heap.size + 1) (by omega) (by omega) (gN _ _ _) (hP _ _ (w.heap.size + 1) (by omega) (by omega) (gN _ _ _) (hP _ _ (w.heap.size + 1) (by omega) (by omega) (gN _ _ _) (hP _ _ w.heap.size (by omega) (by omega) g0 h0)))
  generalize ((((wr.setCell ⟨w.heap.size, 2, none⟩ va).setCell ⟨w.heap.size + 1, 0, none⟩ a0).setCell ⟨w.heap.size + 1, 1, none⟩ a1).setCell ⟨w.heap.size + 1, 2, none⟩ a2) = F at step ⊢; have hrkF : ElRow F (w.heap.size + 2) 32 2 vk (K ++ [zi]) := step (P := fun X => ElRow X (w.heap.size + 2) 32 2 vk (K ++ [zi])) (fun X Y r hr0 hr hg hX => hX.grown hg (fun k e => by simp only [Option.some.injEq] at e; omega)) hcr.rk; have hrsF : ElRow F (w.heap.size + 2) 74 3 vs S := step (P := fun X => ElRow X (w.heap.size + 2) 74 3 vs S) (fun X Y r hr0 hr hg hX => hX.grown hg (fun k e => by simp only [Option.some.injEq] at e; omega)) hcr.rs; have hOF : Own F 5 gd (zs.drop 8) := step (P := fun X => Own X 5 gd (zs.drop 8)) (fun X Y r hr0 hr hg hX => hX.grown hg (fun e => by simp only [Option.some.injEq] at e; omega)) hO
  have hrowF : F.ownsRow B 74 4 va (upTo S (decCl zs : Int) z 50).length ((upTo S (decCl zs : Int) z 50).flatMap El.cells) := step (P := fun X => X.ownsRow B 74 4 va (upTo S (decCl zs : Int) z 50).length ((upTo S (decCl zs : Int) z 50).flatMap El.cells)) (fun X Y r hr0 hr hg hX => hX.kept hg (by
    cases hv : va.ownBlock with
    | none => exact .inl rfl
    | some b =>
      refine .inr fun e => ?_
      have := (hX.lt b hv).1; simp only [Option.some.injEq] at e
      omega)) hrow
  have hGF : w.grownBy F none := step (P := fun X => w.grownBy X none ) (fun X Y r hr0 hr hg hX => grownBy_new hX hg hr0) hcr.grown
  -- the sessions laid anew
  have hfreshS : ∀ x ∈ S, ∀ g, x.o = some g → g < wl.heap.size := fun x hx g e => (hcd.rs.own x hx).lt g e
  have hAown : ∀ x ∈ upTo S (decCl zs : Int) z 50, x.hd.length = 3 ∧ OwnS F 5 (oad x.o) x.d.length x.d ∧ (x.o = none → x.cp = 0) := fun x hx => by
    rcases upTo_mem x hx with rfl | hx
    · subst hz; exact ⟨rfl, hOF.s rfl, by simp⟩
    · have := hrsF.own x hx; exact ⟨this.1, this.2.1, this.2.2.1⟩
  have hins : ∀ (T1 T2 : List El), (∀ x ∈ T1, x ∈ S) → (∀ x ∈ T2, x ∈ S) → ((T1 ++ T2).filterMap El.o).Nodup → ((T1 ++ z :: T2).filterMap El.o).Nodup := fun T1 T2 h1 h2 hn => by
    have hzo : z.o = some gd := by rw [hz]
    have hnot : ∀ T : List El, (∀ x ∈ T, x ∈ S) → gd ∉ T.filterMap El.o := fun T hT hm => by
      obtain ⟨y, hy, e⟩ := List.mem_filterMap.1 hm; have := hfreshS y (hT y hy) gd e
      omega
    rw [List.filterMap_append] at hn ⊢; rw [List.filterMap_cons_some hzo]; rw [List.nodup_append] at hn ⊢; refine ⟨hn.1, List.nodup_cons.2 ⟨hnot T2 h2, hn.2.1⟩, fun a ha b hb e => ?_⟩; subst e
    rcases List.mem_cons.1 hb with e | hb
    · subst e; exact hnot T1 h1 ha
    · exact hn.2.2 a ha a hb rfl
  have hAsay : ((upTo S (decCl zs : Int) z 50).filterMap El.o).Nodup ∧ ApSays s.b K S zs (s.b + (K.length : Int)) 0 ((K ++ [zi]).map El.tell) ((upTo S (decCl zs : Int) z 50).map El.tell) := by
    have hzt : z.tell = ([(decCl zs : Int), (decSq zs : Int), s.b + (K.length : Int)], zs.drop 8) := by rw [hz]; rfl
    have hzit : zi.tell = ([(decCl zs : Int), (decSq zs : Int)], zs.drop 8) := by rw [hzi]; rfl
    rcases known_of S (decCl zs : Int) k with hu | ⟨x, hx, hc⟩
    · rw [upTo_new hr hk hu h50 hkey]; refine ⟨hins _ _ (fun x hx => List.mem_of_mem_take hx) (fun x hx => List.mem_of_mem_drop hx) (by rw [List.take_append_drop]; exact hcd.rs.nod), ?_⟩; have := ApSays.new (b := s.b) (K := K) hd k hk hu hf
      simpa [hzt, hzit] using this
    · have hkl := (List.getElem?_eq_some_iff.1 hx).1
      have hset : S.set k z = S.take k ++ z :: S.drop (k + 1) := by rw [List.set_eq_take_append_cons_drop, if_pos hkl]
      rw [upTo_known hr hk hx hc h50 hkey]; refine ⟨?_, ?_⟩
      · rw [hset]; refine hins _ _ (fun x hx => List.mem_of_mem_take hx) (fun x hx => List.mem_of_mem_drop hx) ?_
        have hsub : (S.take k ++ S.drop (k + 1)).Sublist S := by
          have h1 : (S.drop (k + 1)).Sublist (S.drop k) := by rw [← List.drop_drop]; exact List.drop_sublist _ _
          have h2 := (List.Sublist.refl (S.take k)).append h1
          rwa [List.take_append_drop] at h2
        exact (hsub.filterMap _).nodup hcd.rs.nod
      · have := ApSays.old (b := s.b) (K := K) hd k x hk hx hc (hno k x hx hc) hf
        simpa [List.map_set, hzt, hzit] using this
  obtain ⟨ko, kc, e1, o1, b1, -, -⟩ := hrkF.elO; obtain ⟨so, sc, e2, o2, b2, -, -⟩ := elO_of_row hrowF hAown (nod_far _ hAsay.1); refine ⟨⟨s.b, none, 0, K, none, 0, S⟩, ⟨s.b, ko, kc, K ++ [zi], so, sc, upTo S (decCl zs : Int) z 50⟩, s.b + (K.length : Int), 0, ?_, by simp [Sv.tell, h.tk, h.ts], rfl, hAsay.2, ⟨o1, o2, fun x hx y hy j hxj hyj => ?_⟩, fun k hk => ?_, hGF⟩
  · simp only [Sv.val]; rw [e1, e2]
  · rcases upTo_mem y hy with rfl | hy
    · have h1 := (hcd.rk.lt j (List.mem_filterMap.2 ⟨x, hx, hxj⟩)).2; rw [hz] at hyj; simp only [Option.some.injEq] at hyj
      omega
    · exact hcd.far j (List.mem_filterMap.2 ⟨x, hx, hxj⟩) (List.mem_filterMap.2 ⟨y, hy, hyj⟩)
  · rcases hk with hk | hk | ⟨x, hx, ho⟩
    · have := b1 k hk; omega
    · have := (b2 k hk).1; omega
    · rcases upTo_mem x hx with rfl | hx
      · rw [hz] at ho; simp only [Option.some.injEq] at ho
        omega
      · have := (hcd.rs.own x hx).2.2.2 k ho; omega
end Go.Proofs.YtdajcpcajdhplaaDoor
