/-
  The program's apply where the item is kept, of a client without a session (written by tools/gen_apply.py).
-/
import Derived.Test.YtdajcpcajdhplaaDoorElPut3
namespace Go.Proofs.YtdajcpcajdhplaaDoor
open Go.RowKit

set_option maxRecDepth 4000 in
set_option maxHeartbeats 4000000 in
theorem apply_new (p gk kn kc gs sc : Nat) (b : Int) (S : List El) (k : Nat) (oa : Option Addr) (len cap : Nat) (zs : List Nat) (K : List El) (w : World) (hsl : SlB w oa len zs) (hcp : len ≤ cap) (hm : len ≤ 1073741824) (hd : decGood zs)
    (hp : w.heap[p]? = some (.cells #[.int .i64 b, .slice (some ⟨gk, 0, none⟩) kn kc, .slice (some ⟨gs, 0, none⟩) S.length sc] 28 (0, 0))) (hS : ElAt w 74 3 gs S) (hr : risesE 0 S) (hn : S.length ≤ 1048576) (hb : -1000000000000 ≤ b ∧ b ≤ 1000000000000) (hkn : kn ≤ 1048576)
    (hk : Spot S (decCl zs : Int) k) (hku : knownAt S (decCl zs : Int) k = false) (hKl : K.length = kn) (hK : ElAt w 32 2 gk K) (hkc : kc = kn) (hsc : sc = S.length) (hnf : b + (kn : Int) ≠ 1000000) :
    Calls Tryd.prog 35 #[.pointer (some ⟨p, 0, none⟩), .slice oa len cap] w fun e w' => e = .returned (.tuple #[.int .i64 (b + (kn : Int)), .nilIface]) ∧ KeepOut w w' p b kn K (decCl zs : Int) (decSq zs : Int) (zs.drop 8) (fun z => S.take k ++ z :: S.drop k) (fun _ => False) := by
  have h8 : 8 ≤ len := by have h1 := hd.1; have h2 := hsl.1; omega
  have e0 : ((len : Int) == 0) = false := by have : (len : Int) ≠ 0 := by omega
                                             simpa using this
  have HD : Hid (Calls Tryd.prog 11 #[.slice oa len cap] w fun e w' => ∃ g cp, e = .returned (.tuple #[.agg #[.int .i64 (decCl zs : Int), .int .i64 (decSq zs : Int), .slice (some ⟨g, 0, none⟩) (len - 8) cp], .int .i64 0]) ∧ w.heap.size ≤ g ∧ Own w' 5 g (zs.drop 8) ∧ w.grownBy w' none) := decItem_good oa len cap zs w hsl hcp hm hd
  have HL : Hid ((zs.drop 8).length = len - 8) := by have := hsl.1; show _ = _; simp; omega
  obtain ⟨key, hkey⟩ : ∃ key : Int, (decCl zs : Int) = key := ⟨_, rfl⟩
  obtain ⟨sq, hsq⟩ : ∃ sq : Int, (decSq zs : Int) = sq := ⟨_, rfl⟩
  obtain ⟨ln, hln⟩ : ∃ ln, S.length = ln := ⟨_, rfl⟩
  rw [hln] at hp
  have HQ : Hid ((decCl zs : Int) = key ∧ (decSq zs : Int) = sq ∧ zs.length = len) := ⟨hkey, hsq, hsl.1⟩
  rw [hkey] at HD hk hku
  rw [hsq] at HD
  have HK : Hid (knownAt S key k = false) := hku
  clear hku
  have e1 : (b + (kn : Int) == 1000000) = false := by simpa using hnf
  have HKC : Hid (kc = kn) := hkc
  have HSC : Hid (sc = ln) := hsc.trans hln
  have HKNN : Hid (kn ≤ 1048576) := hkn
  have HA : Hid (ElAt w 74 3 gs S ∧ risesE 0 S ∧ S.length ≤ 1048576 ∧ Spot S key k ∧ S.length = ln ∧ w.heap[p]? = some (.cells #[.int .i64 b, .slice (some ⟨gk, 0, none⟩) kn kc, .slice (some ⟨gs, 0, none⟩) ln sc] 28 (0, 0)) ∧ ElAt w 32 2 gk K ∧ K.length = kn) := ⟨hS, hr, hn, hk, hln, hp, hK, hKl⟩
  have HLN : Hid (ln ≤ 1048576) := by show _ ≤ _; omega
  have HCN : Hid (∀ X : World, Calls Tryd.prog 38 #[.agg #[.int .i64 b, .slice (some ⟨gk, 0, none⟩) kn kc, .slice (some ⟨gs, 0, none⟩) ln sc]] X fun e w' => e = .returned (.int .i64 (b + (kn : Int))) ∧ X.grownBy w' none) := fun X => countE_any b _ kn kc _ X hb hkn
  clear hKl hK hnf hkc hsc hsl hd hp hS hr hn hk hkey hsq hln hb hkn
  go_enter Tryd.func35, Tryd.ntmps35
  go_wp2_with fail
  refine HD.out.mono ?_
  rintro e w1 ⟨gx, cx, rfl, hgx, hO1, hG1⟩
  have HX : Hid (w.heap.size ≤ gx ∧ Own w1 5 gx (zs.drop 8) ∧ w.grownBy w1 none) := ⟨hgx, hO1, hG1⟩
  clear hgx hO1 hG1
  go_wp2_with fail
  obtain ⟨W2, hW2⟩ : ∃ W2, W2 = w1.alloc (.cells #[.int .i64 key, .int .i64 sq, .slice (some ⟨gx, 0, none⟩) (len - 8) cx] 32) := ⟨_, rfl⟩
  obtain ⟨y, hy⟩ : ∃ y, w1.heap.size = y := ⟨_, rfl⟩
  have HG2 : Hid (w.grownBy W2 none ∧ W2.heap[y]? = some (.cells #[.int .i64 key, .int .i64 sq, .slice (some ⟨gx, 0, none⟩) (len - 8) cx] 32 (0, 0)) ∧ Own W2 5 gx (zs.drop 8) ∧ w.heap.size ≤ gx ∧ gx < y) := by
    subst hW2 hy
    exact ⟨grownBy_alloc HX.out.2.2 _, heap_alloc_new w1 _, HX.out.2.1.grown (World.grownBy_alloc _ _ none) (by simp), HX.out.1, HX.out.2.1.lt⟩
  rw [← hW2, hy]
  have HPB : Hid (W2.heap[p]? = some (.cells #[.int .i64 b, .slice (some ⟨gk, 0, none⟩) kn kc, .slice (some ⟨gs, 0, none⟩) ln sc] 28 (0, 0))) := (HG2.out.1.block p (Array.getElem?_eq_some_iff.1 HA.out.2.2.2.2.2.1).1 (by simp)).trans HA.out.2.2.2.2.2.1
  have p2 : W2.cell? ⟨p, 2, none⟩ = some (.slice (some ⟨gs, 0, none⟩) ln sc) := by simp [World.cell?, HPB.out]
  have y0 : W2.cell? ⟨y, 0, none⟩ = some (.int .i64 key) := by simp [World.cell?, HG2.out.2.1]
  have HS : Hid (∀ X : World, Same W2 X → Calls Tryd.prog 59 #[.slice (some ⟨gs, 0, none⟩) ln sc, .int .i64 key, .func (.func 60) #[] #[]] X fun e w2 => e = .returned (.tuple #[.int .i64 (k : Int), .bool false]) ∧ (w2.cell? ⟨p, 2, none⟩ = some (.slice (some ⟨gs, 0, none⟩) ln sc) ∧ w2.cell? ⟨y, 0, none⟩ = some (.int .i64 key)) ∧ Hid (W2.grownBy w2 none)) := by
    intro X hX
    obtain ⟨hS, hr, hn, hk, hln, -⟩ := HA.out
    have GX : W2.grownBy X none := grownBy_same (grownBy_refl _ _) hX
    have hSX : ElAt X 74 3 gs S := hS.kept (fun j hj _ => (grownBy_trans HG2.out.1 GX).block j hj (by simp))
    have h := search_any gs sc S key X hSX hr hn
    rw [hln] at h
    refine h.mono ?_
    rintro e w2 ⟨k', rfl, hk', hG2⟩
    obtain rfl := hk.one hk'
    have G3 : W2.grownBy w2 none := grownBy_trans GX hG2
    exact ⟨by rw [HK.out], ⟨((bcell G3).1 _ _ (cell_block_lt p2)).trans p2, ((bcell G3).1 _ _ (cell_block_lt y0)).trans y0⟩, G3⟩
  clear hW2 hy
  go_region_held3 (fun w' => w'.cell? ⟨p, 2, none⟩ = some (.slice (some ⟨gs, 0, none⟩) ln sc) ∧ w'.cell? ⟨y, 0, none⟩ = some (.int .i64 key)) (first | go_keep | exact ⟨p2, y0⟩ | exact hD | fail)
    (first
      | (go_at_call 59; refine (HS.out _ (by exact ⟨rfl, rfl, rfl, rfl⟩)).mono ?_; rintro e w2 ⟨rfl, hD, HG3⟩)
      | fail)
  all_goals
    clear p2 y0
    obtain ⟨p2, y0⟩ := hD
    have HYB : Hid (w2.heap[y]? = some (.cells #[.int .i64 key, .int .i64 sq, .slice (some ⟨gx, 0, none⟩) (len - 8) cx] 32 (0, 0)) ∧ w2.heap[p]? = some (.cells #[.int .i64 b, .slice (some ⟨gk, 0, none⟩) kn kc, .slice (some ⟨gs, 0, none⟩) ln sc] 28 (0, 0)) ∧ gx < y ∧ w.heap.size ≤ gx) := ⟨(HG3.out.block _ (Array.getElem?_eq_some_iff.1 HG2.out.2.1).1 (by simp)).trans HG2.out.2.1, (HG3.out.block _ (Array.getElem?_eq_some_iff.1 HPB.out).1 (by simp)).trans HPB.out, HG2.out.2.2.2.2, HG2.out.2.2.2.1⟩
    have y1 : w2.cell? ⟨y, 1, none⟩ = some (.int .i64 sq) := by simp [World.cell?, HYB.out.1]
    have p0 : w2.cell? ⟨p, 0, none⟩ = some (.int .i64 b) := by simp [World.cell?, HYB.out.2.1]
    have p1 : w2.cell? ⟨p, 1, none⟩ = some (.slice (some ⟨gk, 0, none⟩) kn kc) := by simp [World.cell?, HYB.out.2.1]
    have HG4 : Hid (w.grownBy w2 none ∧ Own w2 5 gx (zs.drop 8)) := ⟨grownBy_trans HG2.out.1 HG3.out, HG2.out.2.2.1.grown HG3.out (by simp)⟩
    clear HD HX HS HPB
    go_wp2
    go_quiet (fail)
    go_wp2_with fail
    refine (HCN.out _).mono ?_
    rintro e w3 ⟨rfl, hG5⟩
    have HG5 : Hid (w2.grownBy w3 none) := ⟨hG5.os, hG5.tape, hG5.output, hG5.size, hG5.block⟩
    clear hG5 HCN
    have HB2 : Hid (w3.heap[y]? = some (.cells #[.int .i64 key, .int .i64 sq, .slice (some ⟨gx, 0, none⟩) (len - 8) cx] 32 (0, 0)) ∧ w3.heap[p]? = some (.cells #[.int .i64 b, .slice (some ⟨gk, 0, none⟩) kn kc, .slice (some ⟨gs, 0, none⟩) ln sc] 28 (0, 0)) ∧ w.grownBy w3 none ∧ Own w3 5 gx (zs.drop 8)) := ⟨(HG5.out.block _ (Array.getElem?_eq_some_iff.1 HYB.out.1).1 (by simp)).trans HYB.out.1, (HG5.out.block _ (Array.getElem?_eq_some_iff.1 HYB.out.2.1).1 (by simp)).trans HYB.out.2.1, grownBy_trans HG4.out.1 HG5.out, HG4.out.2.grown HG5.out (by simp)⟩
    clear p0 p1 p2 y0 y1 HG2 HG3 HG5
    have HIN : Hid (∀ X : World, Same (w3.alloc (.cells #[.int .i64 0, .int .i64 0, .int .i64 0, .slice none 0 0] 74)) X → Calls Tryd.prog 62 #[.slice (some ⟨gs, 0, none⟩) ln sc, .int .i64 (k : Int), .slice (some ⟨w3.heap.size, 0, none⟩) 1 1] X fun e wi => ∃ Gs, e = .returned (.slice (some ⟨w3.heap.size + 1, 0, none⟩) (ln + 1) Gs) ∧ (wi.cell? ⟨p, 2, none⟩ = some (.slice (some ⟨gs, 0, none⟩) ln sc) ∧ wi.frozen? ⟨p, 2, none⟩ = false) ∧ Hid (w3.grownBy wi none ∧ ∃ cur : Array Value, wi.heap[w3.heap.size + 1]? = some (.cells cur 74 (0, 0)) ∧ ∀ j, j < ln * 4 + 4 → cur[j]? = ((S.flatMap El.cells).take (k * 4) ++ sesZ ++ (S.flatMap El.cells).drop (k * 4))[j]?)) := by
      intro X hX
      have GX : w3.grownBy X none := grownBy_same (World.grownBy_alloc _ _ _) hX
      have hz : X.heap.size = w3.heap.size + 1 := by rw [hX.1]; simp
      have hSX : ElAt X 74 3 gs S := HA.out.1.kept (fun j hj _ => (grownBy_trans HB2.out.2.2.1 GX).block j hj (by simp))
      have hvb : X.heap[w3.heap.size]? = some (.cells #[.int .i64 0, .int .i64 0, .int .i64 0, .slice none 0 0] 74 (0, 0)) := by rw [hX.1]; exact heap_alloc_new w3 _
      have hfl := elflat_len 3 S hSX.hds
      have h := insert_any gs ln k w3.heap.size 1 (S.flatMap El.cells) X (by have h1 := HA.out.2.2.2.1.le; have h2 := HA.out.2.2.2.2.1; omega) HLN.out (by rw [hfl, HA.out.2.2.2.2.1]) hSX.lt (by omega) (elflat_one S) hSX.flat (fun j v hj => by
        simp only [World.cell?, hvb]
        rw [← Array.getElem?_toList]
        exact hj)
      rw [hz] at h
      rw [HSC.out]
      refine h.mono ?_
      rintro e wi ⟨G, cur, rfl, -, hc1, hc2, hG⟩
      have GI : w3.grownBy wi none := grownBy_trans GX hG
      have hb := (GI.block p (Array.getElem?_eq_some_iff.1 HB2.out.2.1).1 (by simp)).trans HB2.out.2.1
      rw [HSC.out] at hb
      exact ⟨G, rfl, by simp [World.cell?, World.frozen?, hb], GI, cur, hc1, hc2⟩
    have p2 : w3.cell? ⟨p, 2, none⟩ = some (.slice (some ⟨gs, 0, none⟩) ln sc) := by simp [World.cell?, HB2.out.2.1]
    have hpw : p < w3.heap.size := (Array.getElem?_eq_some_iff.1 HB2.out.2.1).1
    go_wp2_with fail
    refine (HIN.out _ (by exact ⟨rfl, rfl, rfl, rfl⟩)).mono ?_
    rintro e wi ⟨Gs, rfl, ⟨q2, z2⟩, HI⟩
    clear p2 HIN
    go_wp2_with fail
    obtain ⟨gn, hgn⟩ : ∃ gn, w3.heap.size + 1 = gn := ⟨_, rfl⟩
    rw [hgn]
    obtain ⟨W3, hW3⟩ : ∃ W3, W3 = wi.setCell ⟨p, 2, none⟩ (.slice (some ⟨gn, 0, none⟩) (ln + 1) Gs) := ⟨_, rfl⟩
    have HGN : Hid (w.heap.size ≤ gn ∧ y < gn ∧ p < w.heap.size) := ⟨by have := HB2.out.2.2.1.size; omega, by have := (Array.getElem?_eq_some_iff.1 HB2.out.1).1; omega, (Array.getElem?_eq_some_iff.1 HA.out.2.2.2.2.2.1).1⟩
    have HB3 : Hid (W3.heap[y]? = some (.cells #[.int .i64 key, .int .i64 sq, .slice (some ⟨gx, 0, none⟩) (len - 8) cx] 32 (0, 0)) ∧ W3.heap[p]? = some (.cells #[.int .i64 b, .slice (some ⟨gk, 0, none⟩) kn kc, .slice (some ⟨gn, 0, none⟩) (ln + 1) Gs] 28 (0, 0)) ∧ Only (fun j => j = p) w W3 ∧ Own W3 5 gx (zs.drop 8)) := by
      have GI := HI.out.1
      have hbp := (GI.block p (Array.getElem?_eq_some_iff.1 HB2.out.2.1).1 (by simp)).trans HB2.out.2.1
      have hby := (GI.block y (Array.getElem?_eq_some_iff.1 HB2.out.1).1 (by simp)).trans HB2.out.1
      have hyp : y ≠ p := fun e => by rw [e, hbp] at hby; simp at hby
      have hgp : gx ≠ p := fun e => by subst e; exact absurd (own_type (HB2.out.2.2.2.grown GI (by simp)) hbp) (by decide)
      rw [hW3]
      refine ⟨(heap_setCell_other _ _ _ _ hyp).trans hby, ?_, ?_, (HB2.out.2.2.2.grown GI (by simp)).of_block (heap_setCell_other _ _ _ _ hgp)⟩
      · rw [heap_setCell_same wi p 2 _ _ _ hbp]; rfl
      · exact (Only.of (grownBy_trans HB2.out.2.2.1 GI) (fun k e => by cases e)).set p 2 _ rfl
    have HGSC : Hid (∃ cur : Array Value, W3.heap[gn]? = some (.cells cur 74 (0, 0)) ∧ ∀ j, j < ln * 4 + 4 → cur[j]? = ((S.flatMap El.cells).take (k * 4) ++ sesZ ++ (S.flatMap El.cells).drop (k * 4))[j]?) := by
      obtain ⟨cur, h1, h2⟩ := HI.out.2
      rw [hgn] at h1
      refine ⟨cur, ?_, h2⟩
      rw [hW3, heap_setCell_other wi ⟨p, 2, none⟩ gn _ (by show gn ≠ p; obtain ⟨h5, -, h6⟩ := HGN.out; omega)]
      exact h1
    have HGSB : Hid (∃ cur : Array Value, W3.heap[gn]? = some (.cells cur 74 (0, 0)) ∧ k * 4 + 4 ≤ cur.size) := by
      obtain ⟨cur, h1, h2⟩ := HGSC.out
      refine ⟨cur, h1, ?_⟩
      have hle : k ≤ ln := by have h1 := HA.out.2.2.2.1.le; have h2 := HA.out.2.2.2.2.1; omega
      have hfl := elflat_len 3 S HA.out.1.hds
      have hll := HA.out.2.2.2.2.1
      have h := h2 (k * 4 + 3) (by omega)
      rw [List.append_assoc, List.getElem?_append_right (by rw [List.length_take, hfl]; omega), List.length_take, hfl, show k * 4 + 3 - min (k * 4) (S.length * (3 + 1)) = 3 by omega] at h
      rcases Nat.lt_or_ge (k * 4 + 3) cur.size with h' | h'
      · omega
      · rw [Array.getElem?_eq_none h'] at h
        simp [sesZ] at h
    have hkl : k < ln + 1 := by have h1 := HA.out.2.2.2.1.le; have h2 := HA.out.2.2.2.2.1; omega
    rw [← hW3]
    clear hW3 q2 z2 HI
    have hpg : p ≠ gn := by
      intro e
      obtain ⟨cur, h1, -⟩ := HGSB.out
      rw [← e, HB3.out.2.1] at h1
      simp at h1
    have hyg : y ≠ gn := by
      intro e
      obtain ⟨cur, h1, -⟩ := HGSB.out
      rw [← e, HB3.out.1] at h1
      simp at h1
    have HCL : Hid (∀ X : World, Same W3 X → Calls Tryd.prog 54 #[.slice (some ⟨gx, 0, none⟩) (len - 8) cx] X fun e w4 => ∃ gd cd, e = .returned (.slice (some ⟨gd, 0, none⟩) (len - 8) cd) ∧ (w4.cell? ⟨p, 2, none⟩ = some (.slice (some ⟨gn, 0, none⟩) (ln + 1) Gs) ∧ w4.cell? ⟨y, 0, none⟩ = some (.int .i64 key) ∧ w4.cell? ⟨y, 1, none⟩ = some (.int .i64 sq) ∧ w4.cell? ⟨y, 2, none⟩ = some (.slice (some ⟨gx, 0, none⟩) (len - 8) cx)) ∧ (∃ v0 v1 v2 v3 : Value, w4.cell? ⟨gn, k * 4, none⟩ = some v0 ∧ w4.cell? ⟨gn, k * 4 + 1, none⟩ = some v1 ∧ w4.cell? ⟨gn, k * 4 + 2, none⟩ = some v2 ∧ w4.cell? ⟨gn, k * 4 + 3, none⟩ = some v3 ∧ w4.frozen? ⟨gn, k * 4, none⟩ = false ∧ w4.frozen? ⟨gn, k * 4 + 1, none⟩ = false ∧ w4.frozen? ⟨gn, k * 4 + 2, none⟩ = false ∧ w4.frozen? ⟨gn, k * 4 + 3, none⟩ = false) ∧ Hid (W3.grownBy w4 none ∧ W3.heap.size ≤ gd ∧ Own w4 5 gd (zs.drop 8))) := by
      intro X hX
      have GX : W3.grownBy X none := grownBy_same (grownBy_refl _ _) hX
      refine (bclone_some ⟨gx, 0, none⟩ (len - 8) cx (zs.drop 8) X ((HB3.out.2.2.2.sl _ HL.out).grown0 GX) (by omega)).mono ?_
      rintro e w4 ⟨gd, cd, rfl, hgd, hO, hG⟩
      have G4 : W3.grownBy w4 none := grownBy_trans GX hG
      have b1 := (G4.block _ (Array.getElem?_eq_some_iff.1 HB3.out.1).1 (by simp)).trans HB3.out.1
      have b2 := (G4.block _ (Array.getElem?_eq_some_iff.1 HB3.out.2.1).1 (by simp)).trans HB3.out.2.1
      obtain ⟨cur, h1, h2⟩ := HGSB.out
      have b3 := (G4.block _ (Array.getElem?_eq_some_iff.1 h1).1 (by simp)).trans h1
      have l0 : k * 4 < cur.size := by omega
      have l1 : k * 4 + 1 < cur.size := by omega
      have l2 : k * 4 + 2 < cur.size := by omega
      have l3 : k * 4 + 3 < cur.size := by omega
      refine ⟨gd, cd, rfl, by simp [World.cell?, b1, b2], ?_, G4, by rw [← hX.1]; exact hgd, hO⟩
      exact ⟨cur[k * 4], cur[k * 4 + 1], cur[k * 4 + 2], cur[k * 4 + 3], by simp [World.cell?, b3, l0], by simp [World.cell?, b3, l1], by simp [World.cell?, b3, l2], by simp [World.cell?, b3, l3], by simp [World.frozen?, b3], by simp [World.frozen?, b3], by simp [World.frozen?, b3], by simp [World.frozen?, b3]⟩
    have HC0 : Hid (W3.cell? ⟨p, 2, none⟩ = some (.slice (some ⟨gn, 0, none⟩) (ln + 1) Gs) ∧ W3.cell? ⟨y, 0, none⟩ = some (.int .i64 key) ∧ W3.cell? ⟨y, 1, none⟩ = some (.int .i64 sq) ∧ W3.cell? ⟨y, 2, none⟩ = some (.slice (some ⟨gx, 0, none⟩) (len - 8) cx)) := by show _ ∧ _; simp [World.cell?, HB3.out.1, HB3.out.2.1]
    have hC0 := HC0.out
    obtain ⟨p2, y0, y1, y2⟩ := HC0.out
    have hkI : (k : Int) < ((ln + 1) : Int) := by omega
    have p0 : W3.cell? ⟨p, 0, none⟩ = some (.int .i64 b) := by simp [World.cell?, HB3.out.2.1]
    go_wp2_with fail
    go_region_held3 (fun W => W.cell? ⟨p, 2, none⟩ = some (.slice (some ⟨gn, 0, none⟩) (ln + 1) Gs) ∧ W.cell? ⟨y, 0, none⟩ = some (.int .i64 key) ∧ W.cell? ⟨y, 1, none⟩ = some (.int .i64 sq) ∧ W.cell? ⟨y, 2, none⟩ = some (.slice (some ⟨gx, 0, none⟩) (len - 8) cx)) (first | go_keep | exact hC0 | exact hC4 | (simp only [cell_set_ne _ _ _ _ _ _ hpg, cell_set_ne _ _ _ _ _ _ hyg]; exact hC4) | fail)
      (first
        | (go_at_call 54; refine (HCL.out _ (by exact ⟨rfl, rfl, rfl, rfl⟩)).mono ?_; rintro e w4 ⟨gd, cd, rfl, hC4, ⟨v0, v1, v2, v3, i0, i1, i2, i3, f0, f1, f2, f3⟩, HG6⟩)
        | fail)
    obtain ⟨W5, hW5⟩ : ∃ W5, W5 = put4 w4 gn k (.int .i64 key) (.int .i64 sq) (.int .i64 (b + (kn : Int))) (.slice (some ⟨gd, 0, none⟩) (len - 8) cd) := ⟨_, rfl⟩
    have HW5 : Hid (W5.heap[p]? = some (.cells #[.int .i64 b, .slice (some ⟨gk, 0, none⟩) kn kc, .slice (some ⟨gn, 0, none⟩) (ln + 1) Gs] 28 (0, 0)) ∧ W5.heap[y]? = some (.cells #[.int .i64 key, .int .i64 sq, .slice (some ⟨gx, 0, none⟩) (len - 8) cx] 32 (0, 0)) ∧ Own W5 5 gx (zs.drop 8) ∧ ElAt W5 74 3 gn (S.take k ++ ⟨[key, sq, b + (kn : Int)], zs.drop 8, some gd, cd⟩ :: S.drop k) ∧ W5.os = w4.os ∧ W5.tape = w4.tape ∧ W5.output = w4.output ∧ W5.heap.size = w4.heap.size ∧ ∀ j, j ≠ gn → W5.heap[j]? = w4.heap[j]?) := by
      have hoth : ∀ j, j ≠ gn → W5.heap[j]? = w4.heap[j]? := fun j hj => by rw [hW5]; exact put4_other _ _ _ _ _ _ _ _ hj
      refine ⟨?_, ?_, (HB3.out.2.2.2.grown HG6.out.1 (by simp)).of_block (hoth gx ?_), ?_, by rw [hW5]; rfl, by rw [hW5]; rfl, by rw [hW5]; rfl, by rw [hW5]; simp [put4], hoth⟩
      · exact (hoth p hpg).trans ((HG6.out.1.block _ (Array.getElem?_eq_some_iff.1 HB3.out.2.1).1 (by simp)).trans HB3.out.2.1)
      · exact (hoth y hyg).trans ((HG6.out.1.block _ (Array.getElem?_eq_some_iff.1 HB3.out.1).1 (by simp)).trans HB3.out.1)
      · intro e
        obtain ⟨cur, h1, -⟩ := HGSB.out
        rw [← e] at h1
        have := own_type HB3.out.2.2.2 h1
        simp at this
      · obtain ⟨cur, h1, h2⟩ := HGSC.out
        have h3 := (HG6.out.1.block _ (Array.getElem?_eq_some_iff.1 h1).1 (by simp)).trans h1
        have hll := HA.out.2.2.2.2.1
        have hgl := (Array.getElem?_eq_some_iff.1 h1).1
        have h := el_insert (n0 := key) (n1 := sq) (n2 := b + (kn : Int)) (cd := cd) (k := k) HA.out.1 (by rw [hll]; omega) h3 HGN.out.1 (by rw [hll]; exact h2) (fun j hj hjx => ?_) (Nat.le_trans HB3.out.2.2.1.size HG6.out.2.1) (by have := HG6.out.2.1; omega) HG6.out.2.2
        · rw [HL.out] at h; rw [hW5]; exact h
        · rw [HG6.out.1.block j (Nat.lt_of_lt_of_le hj HB3.out.2.2.1.size) (by simp)]
          refine HB3.out.2.2.1.block j hj ?_
          rintro rfl
          obtain ⟨x', hx', ho'⟩ := hjx
          obtain ⟨i', hi'⟩ := List.getElem?_of_mem hx'
          exact absurd (own_type (ownS_blk (HA.out.1.own i' x' hi').2.1 ho') HA.out.2.2.2.2.2.1) (by decide)
    rw [show (((w4.setCell ⟨gn, k * 4, none⟩ (.int .i64 key)).setCell ⟨gn, k * 4 + 1, none⟩ (.int .i64 sq)).setCell ⟨gn, k * 4 + 2, none⟩ (.int .i64 (b + (kn : Int)))).setCell ⟨gn, k * 4 + 3, none⟩ (.slice (some ⟨gd, 0, none⟩) (len - 8) cd) = W5 from hW5.symm]
    clear hW5 i0 i1 i2 i3 f0 f1 f2 f3 hC0 hC4 p0 p2 y0 y1 y2
    have HAP : Hid (∀ X : World, Same (W5.alloc (.cells #[.int .i64 key, .int .i64 sq, .slice (some ⟨gx, 0, none⟩) (len - 8) cx] 32)) X → ∀ ty, ∃ (G : Nat) (w' : World), (Builtin.append_ #[25, 25] ty #[.slice (some ⟨gk, 0, none⟩) kn kc, .slice (some ⟨W5.heap.size, 0, none⟩) 1 1]).run Tryd.prog X = .ok (.slice (some ⟨W5.heap.size + 1, 0, none⟩) (kn + 1) G) w' ∧ (w'.cell? ⟨p, 1, none⟩ = some (.slice (some ⟨gk, 0, none⟩) kn kc) ∧ w'.frozen? ⟨p, 1, none⟩ = false) ∧ Hid (kn + 1 ≤ G ∧ W5.grownBy w' none ∧ W5.heap.size + 1 < w'.heap.size ∧ ∃ T : Array Value, w'.heap[W5.heap.size + 1]? = some (.cells ((K.flatMap El.cells).toArray ++ #[.int .i64 key, .int .i64 sq, .slice (some ⟨gx, 0, none⟩) (len - 8) cx] ++ T) 32 (0, 0)))) := by
      intro X hX ty
      have GX : W5.grownBy X none := grownBy_same (World.grownBy_alloc _ _ _) hX
      have hz : X.heap.size = W5.heap.size + 1 := by rw [hX.1]; simp
      have hKX : ElAt X 32 2 gk K := HA.out.2.2.2.2.2.2.1.kept (fun j hj hjk => by
        rw [GX.block j (by rw [HW5.out.2.2.2.2.2.2.2.1]; exact Nat.lt_of_lt_of_le hj (Nat.le_trans HB3.out.2.2.1.size HG6.out.1.size)) (by simp), HW5.out.2.2.2.2.2.2.2.2 j ?_]
        · rw [HG6.out.1.block j (Nat.lt_of_lt_of_le hj HB3.out.2.2.1.size) (by simp)]
          refine HB3.out.2.2.1.block j hj ?_
          rintro rfl
          rcases hjk with rfl | ⟨x', hx', ho'⟩
          · obtain ⟨cur', h2, -⟩ := HA.out.2.2.2.2.2.2.1.row
            rw [HA.out.2.2.2.2.2.1] at h2
            simp at h2
          · obtain ⟨i', hi'⟩ := List.getElem?_of_mem hx'
            exact absurd (own_type (ownS_blk (HA.out.2.2.2.2.2.2.1.own i' x' hi').2.1 ho') HA.out.2.2.2.2.2.1) (by decide)
        · have := HGN.out.1; omega)
      obtain ⟨G, w', h1, h2, h3, T, h4⟩ := run_keep (u := W5.heap.size) hKX HA.out.2.2.2.2.2.2.2 (by rw [hX.1]; exact heap_alloc_new W5 _) (by have := HKNN.out; omega) ty
      rw [hz] at h1 h4
      refine ⟨G, w', ?_, ?_, h2, grownBy_trans GX h3, ?_, T, h4⟩
      · rw [HKC.out]; exact h1
      · have hb := ((grownBy_trans GX h3).block p (Array.getElem?_eq_some_iff.1 HW5.out.1).1 (by simp)).trans HW5.out.1
        simp [World.cell?, World.frozen?, hb]
      · exact (Array.getElem?_eq_some_iff.1 h4).1
    have p1 : W5.cell? ⟨p, 1, none⟩ = some (.slice (some ⟨gk, 0, none⟩) kn kc) := by simp [World.cell?, HW5.out.1]
    have y0 : W5.cell? ⟨y, 0, none⟩ = some (.int .i64 key) := by simp [World.cell?, HW5.out.2.1]
    have y1 : W5.cell? ⟨y, 1, none⟩ = some (.int .i64 sq) := by simp [World.cell?, HW5.out.2.1]
    have y2 : W5.cell? ⟨y, 2, none⟩ = some (.slice (some ⟨gx, 0, none⟩) (len - 8) cx) := by simp [World.cell?, HW5.out.2.1]
    have hpl : p < W5.heap.size := (Array.getElem?_eq_some_iff.1 HW5.out.1).1
    have hyl : y < W5.heap.size := (Array.getElem?_eq_some_iff.1 HW5.out.2.1).1
    go_wp2_with fail
    have mixed : Tryd.prog.follows .mixedOrders = true := by kernel_rfl
    go_region_law_o (first
      | (refine step_append_ex (by rfl) (.tmp 96) (.tmp 98) 25 (by rfl) _ _ (by rfl) (by rfl) (HAP.out _ (by exact ⟨rfl, rfl, rfl, rfl⟩)) ?_; rintro G w6 ⟨⟨q1, z1⟩, HW6⟩)
      | fail)
    all_goals
      go_wp2
      go_ret2
      refine ⟨rfl, ?_⟩
      obtain ⟨hkk, h6, -, T, hrow⟩ := HW6.out
      have hkey := HQ.out.1
      have hsq := HQ.out.2.1
      rw [hkey, hsq]
      obtain ⟨e1', e2', e3', e4', e5'⟩ := keep_end (kn := kn) (G := G) (n := len - 8) HA.out.2.2.2.2.2.1 HA.out.2.2.2.2.2.2.1 (fun j hj => by
        obtain ⟨x', hx', ho'⟩ := hj
        obtain ⟨i', hi'⟩ := List.getElem?_of_mem hx'
        have h1 := HA.out.2.2.2.2.2.2.1.blt hi' ho'
        have h2 := HGN.out.1
        omega) (HB3.out.2.2.1.trans (Only.of HG6.out.1 (fun k e => by cases e))) HW5.out.2.2.2.2.1 HW5.out.2.2.2.2.2.1 HW5.out.2.2.2.2.2.2.1 HW5.out.2.2.2.2.2.2.2.1 HW5.out.2.2.2.2.2.2.2.2 HW5.out.1 HW5.out.2.2.1 HW5.out.2.2.2.1 h6 HYB.out.2.2.2 HL.out hrow
      refine ⟨W5.heap.size + 1, G, gx, cx, gd, cd, gn, Gs, ?_, hkk, e2', e3', e4', HYB.out.2.2.2, Nat.le_trans HB3.out.2.2.1.size HG6.out.2.1, ?_, .inr HGN.out.1, ⟨e5'.os, e5'.tape, e5'.output, e5'.size, fun j hj hn => e5'.block j hj (fun e => by rcases e with e | e; exact hn (.inl e); have := HGN.out.1; omega)⟩⟩
      · rw [show (S.take k ++ ⟨[key, sq, b + (kn : Int)], zs.drop 8, some gd, cd⟩ :: S.drop k).length = (ln + 1) from by have h1 := HA.out.2.2.2.1.le; have h2 := HA.out.2.2.2.2.1; simp; omega]
        exact e1'
      · have h1 := HB3.out.2.2.2.lt
        have h2 := HG6.out.2.1
        omega
end Go.Proofs.YtdajcpcajdhplaaDoor
