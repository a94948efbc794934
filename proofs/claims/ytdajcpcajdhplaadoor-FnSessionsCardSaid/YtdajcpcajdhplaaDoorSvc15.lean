/-
  Ap3, ElPut3
-/
import Derived.Test.YtdajcpcajdhplaaDoorSvc13
/-
  The program's apply where the item is kept (written by tools/gen_apply.py).
-/
namespace Go.Proofs.YtdajcpcajdhplaaDoor
open Go.RowKit

set_option maxRecDepth 4000 in
set_option maxHeartbeats 4000000 in
theorem apply_old (p gk kn kc gs sc : Nat) (b : Int) (S : List El) (k : Nat) (x : El) (oa : Option Addr) (len cap : Nat) (zs : List Nat) (K : List El) (w : World) (hsl : SlB w oa len zs) (hcp : len ≤ cap) (hm : len ≤ 1073741824) (hd : decGood zs)
    (hp : w.heap[p]? = some (.cells #[.int .i64 b, .slice (some ⟨gk, 0, none⟩) kn kc, .slice (some ⟨gs, 0, none⟩) S.length sc] 28 (0, 0))) (hS : ElAt w 74 3 gs S) (hr : risesE 0 S) (hn : S.length ≤ 1048576) (hb : -1000000000000 ≤ b ∧ b ≤ 1000000000000) (hkn : kn ≤ 1048576)
    (hk : Spot S (decCl zs : Int) k) (hx : S[k]? = some x) (hxc : x.c = (decCl zs : Int)) (hq : x.q < (decSq zs : Int)) (hKl : K.length = kn) (hK : ElAt w 32 2 gk K) (hkc : kc = kn) (hnf : b + (kn : Int) ≠ 1000000) :
    Calls Tryd.prog 35 #[.pointer (some ⟨p, 0, none⟩), .slice oa len cap] w fun e w' => e = .returned (.tuple #[.int .i64 (b + (kn : Int)), .nilIface]) ∧ KeepOut w w' p b kn K (decCl zs : Int) (decSq zs : Int) (zs.drop 8) (fun z => S.set k z) (fun j => j = gs) := by
  have h8 : 8 ≤ len := by have h1 := hd.1; have h2 := hsl.1; omega
  have e0 : ((len : Int) == 0) = false := by have : (len : Int) ≠ 0 := by omega
                                             simpa using this
  have HD : Hid (Calls Tryd.prog 11 #[.slice oa len cap] w fun e w' => ∃ g cp, e = .returned (.tuple #[.agg #[.int .i64 (decCl zs : Int), .int .i64 (decSq zs : Int), .slice (some ⟨g, 0, none⟩) (len - 8) cp], .int .i64 0]) ∧ w.heap.size ≤ g ∧ Own w' 5 g (zs.drop 8) ∧ w.grownBy w' none) := decItem_good oa len cap zs w hsl hcp hm hd
  have HL : Hid ((zs.drop 8).length = len - 8) := by have := hsl.1; show _ = _; simp; omega
  obtain ⟨key, hkey⟩ : ∃ key : Int, (decCl zs : Int) = key := ⟨_, rfl⟩; obtain ⟨sq, hsq⟩ : ∃ sq : Int, (decSq zs : Int) = sq := ⟨_, rfl⟩; obtain ⟨ln, hln⟩ : ∃ ln, S.length = ln := ⟨_, rfl⟩; rw [hln] at hp; have HQ : Hid ((decCl zs : Int) = key ∧ (decSq zs : Int) = sq ∧ zs.length = len) := ⟨hkey, hsq, hsl.1⟩; obtain ⟨n0, n1, n2, hhd, -⟩ := hS.get3 hx; obtain ⟨q0, q1, q2⟩ := El.hd3 hhd; rw [q1, hsq] at hq; rw [q0, hkey] at hxc; rw [hkey] at HD hk; rw [hsq] at HD
  have hkl : k < ln := by have := (List.getElem?_eq_some_iff.1 hx).1; omega
  have HK : Hid (knownAt S key k = true) := by show _ = _; unfold knownAt; rw [hx]; simp [q0, hxc]
  have e1 : (b + (kn : Int) == 1000000) = false := by simpa using hnf
  have HKC : Hid (kc = kn) := hkc; have HKNN : Hid (kn ≤ 1048576) := hkn; have HA : Hid (ElAt w 74 3 gs S ∧ risesE 0 S ∧ S.length ≤ 1048576 ∧ Spot S key k ∧ S.length = ln ∧ w.heap[p]? = some (.cells #[.int .i64 b, .slice (some ⟨gk, 0, none⟩) kn kc, .slice (some ⟨gs, 0, none⟩) ln sc] 28 (0, 0)) ∧ S[k]? = some x ∧ x.hd = [n0, n1, n2] ∧ ElAt w 32 2 gk K ∧ K.length = kn) := ⟨hS, hr, hn, hk, hln, hp, hx, hhd, hK, hKl⟩
  have HLN : Hid (ln ≤ 1048576) := by show _ ≤ _; omega
  have HCN : Hid (∀ X : World, Calls Tryd.prog 38 #[.agg #[.int .i64 b, .slice (some ⟨gk, 0, none⟩) kn kc, .slice (some ⟨gs, 0, none⟩) ln sc]] X fun e w' => e = .returned (.int .i64 (b + (kn : Int))) ∧ X.grownBy w' none) := fun X => countE_any b _ kn kc _ X hb hkn
  clear hKl hK hnf hkc hsl hd hp hS hr hn hk hkey hsq hln hb hkn hx hhd q0 q1 q2 hxc
  go_enter Tryd.func35, Tryd.ntmps35
  go_wp2_with fail; refine HD.out.mono ?_; rintro e w1 ⟨gx, cx, rfl, hgx, hO1, hG1⟩; have HX : Hid (w.heap.size ≤ gx ∧ Own w1 5 gx (zs.drop 8) ∧ w.grownBy w1 none) := ⟨hgx, hO1, hG1⟩; clear hgx hO1 hG1; go_wp2_with fail; obtain ⟨W2, hW2⟩ : ∃ W2, W2 = w1.alloc (.cells #[.int .i64 key, .int .i64 sq, .slice (some ⟨gx, 0, none⟩) (len - 8) cx] 32) := ⟨_, rfl⟩; obtain ⟨y, hy⟩ : ∃ y, w1.heap.size = y := ⟨_, rfl⟩
  have HG2 : Hid (w.grownBy W2 none ∧ W2.heap[y]? = some (.cells #[.int .i64 key, .int .i64 sq, .slice (some ⟨gx, 0, none⟩) (len - 8) cx] 32 (0, 0)) ∧ Own W2 5 gx (zs.drop 8) ∧ w.heap.size ≤ gx ∧ gx < y) := by
    subst hW2 hy; exact ⟨grownBy_alloc HX.out.2.2 _, heap_alloc_new w1 _, HX.out.2.1.grown (World.grownBy_alloc _ _ none) (by simp), HX.out.1, HX.out.2.1.lt⟩
  rw [← hW2, hy]; have HPB : Hid (W2.heap[p]? = some (.cells #[.int .i64 b, .slice (some ⟨gk, 0, none⟩) kn kc, .slice (some ⟨gs, 0, none⟩) ln sc] 28 (0, 0))) := (HG2.out.1.block p (Array.getElem?_eq_some_iff.1 HA.out.2.2.2.2.2.1).1 (by simp)).trans HA.out.2.2.2.2.2.1
  have p2 : W2.cell? ⟨p, 2, none⟩ = some (.slice (some ⟨gs, 0, none⟩) ln sc) := by simp [World.cell?, HPB.out]
  have y0 : W2.cell? ⟨y, 0, none⟩ = some (.int .i64 key) := by simp [World.cell?, HG2.out.2.1]
  have HS : Hid (∀ X : World, Same W2 X → Calls Tryd.prog 59 #[.slice (some ⟨gs, 0, none⟩) ln sc, .int .i64 key, .func (.func 60) #[] #[]] X fun e w2 => e = .returned (.tuple #[.int .i64 (k : Int), .bool true]) ∧ (w2.cell? ⟨p, 2, none⟩ = some (.slice (some ⟨gs, 0, none⟩) ln sc) ∧ w2.cell? ⟨y, 0, none⟩ = some (.int .i64 key)) ∧ Hid (W2.grownBy w2 none)) := by
    intro X hX; obtain ⟨hS, hr, hn, hk, hln, -⟩ := HA.out; have GX : W2.grownBy X none := grownBy_same (grownBy_refl _ _) hX; have hSX : ElAt X 74 3 gs S := hS.kept (fun j hj _ => (grownBy_trans HG2.out.1 GX).block j hj (by simp)); have h := search_any gs sc S key X hSX hr hn; rw [hln] at h; refine h.mono ?_; rintro e w2 ⟨k', rfl, hk', hG2⟩; obtain rfl := hk.one hk'; have G3 : W2.grownBy w2 none := grownBy_trans GX hG2; exact ⟨by rw [HK.out], ⟨((bcell G3).1 _ _ (cell_block_lt p2)).trans p2, ((bcell G3).1 _ _ (cell_block_lt y0)).trans y0⟩, G3⟩
  clear hW2 hy
  go_region_held3 (fun w' => w'.cell? ⟨p, 2, none⟩ = some (.slice (some ⟨gs, 0, none⟩) ln sc) ∧ w'.cell? ⟨y, 0, none⟩ = some (.int .i64 key)) (first | go_keep | exact ⟨p2, y0⟩ | exact hD | fail)
    (first
      | (go_at_call 59; refine (HS.out _ (by exact ⟨rfl, rfl, rfl, rfl⟩)).mono ?_; rintro e w2 ⟨rfl, hD, HG3⟩)
      | fail)
  all_goals
    clear p2 y0; obtain ⟨p2, y0⟩ := hD; have HYB : Hid (w2.heap[y]? = some (.cells #[.int .i64 key, .int .i64 sq, .slice (some ⟨gx, 0, none⟩) (len - 8) cx] 32 (0, 0)) ∧ w2.heap[p]? = some (.cells #[.int .i64 b, .slice (some ⟨gk, 0, none⟩) kn kc, .slice (some ⟨gs, 0, none⟩) ln sc] 28 (0, 0)) ∧ gx < y ∧ w.heap.size ≤ gx) := ⟨(HG3.out.block _ (Array.getElem?_eq_some_iff.1 HG2.out.2.1).1 (by simp)).trans HG2.out.2.1, (HG3.out.block _ (Array.getElem?_eq_some_iff.1 HPB.out).1 (by simp)).trans HPB.out, HG2.out.2.2.2.2, HG2.out.2.2.2.1⟩
    have y1 : w2.cell? ⟨y, 1, none⟩ = some (.int .i64 sq) := by simp [World.cell?, HYB.out.1]
    have p0 : w2.cell? ⟨p, 0, none⟩ = some (.int .i64 b) := by simp [World.cell?, HYB.out.2.1]
    have p1 : w2.cell? ⟨p, 1, none⟩ = some (.slice (some ⟨gk, 0, none⟩) kn kc) := by simp [World.cell?, HYB.out.2.1]
    have HG4 : Hid (w.grownBy w2 none ∧ Own w2 5 gx (zs.drop 8)) := ⟨grownBy_trans HG2.out.1 HG3.out, HG2.out.2.2.1.grown HG3.out (by simp)⟩; have hS4 : ElAt w2 74 3 gs S := HA.out.1.kept (fun j hj _ => HG4.out.1.block j hj (by simp)); obtain ⟨m0, m1, m2, hhd, s0, s1, s2, s3⟩ := hS4.get3 HA.out.2.2.2.2.2.2.1
    obtain ⟨rfl, rfl, rfl⟩ : n0 = m0 ∧ n1 = m1 ∧ n2 = m2 := by
      have h1 := HA.out.2.2.2.2.2.2.2.1; rw [hhd] at h1
      simp at h1
      exact ⟨h1.1.symm, h1.2.1.symm, h1.2.2.symm⟩
    clear hS4 hhd s0 s2 s3
    have hkI : (k : Int) < (ln : Int) := by omega
    have hqn : ¬ (sq ≤ n1) := by omega
    clear HD HX HS HPB; go_wp2; go_quiet (fail); go_wp2_with fail; refine (HCN.out _).mono ?_; rintro e w3 ⟨rfl, hG5⟩; have HG5 : Hid (w2.grownBy w3 none) := ⟨hG5.os, hG5.tape, hG5.output, hG5.size, hG5.block⟩; clear hG5 HCN; have HB3 : Hid (w3.heap[y]? = some (.cells #[.int .i64 key, .int .i64 sq, .slice (some ⟨gx, 0, none⟩) (len - 8) cx] 32 (0, 0)) ∧ w3.heap[p]? = some (.cells #[.int .i64 b, .slice (some ⟨gk, 0, none⟩) kn kc, .slice (some ⟨gs, 0, none⟩) ln sc] 28 (0, 0)) ∧ w.grownBy w3 none ∧ Own w3 5 gx (zs.drop 8)) := ⟨(HG5.out.block _ (Array.getElem?_eq_some_iff.1 HYB.out.1).1 (by simp)).trans HYB.out.1, (HG5.out.block _ (Array.getElem?_eq_some_iff.1 HYB.out.2.1).1 (by simp)).trans HYB.out.2.1, grownBy_trans HG4.out.1 HG5.out, HG4.out.2.grown HG5.out (by simp)⟩
    have HGSB : Hid (∃ cur : Array Value, w3.heap[gs]? = some (.cells cur 74 (0, 0)) ∧ k * 4 + 4 ≤ cur.size) := by
      have h := HA.out.1.row; obtain ⟨cur, h1, h2⟩ := h; refine ⟨cur, (HB3.out.2.2.1.block _ (Array.getElem?_eq_some_iff.1 h1).1 (by simp)).trans h1, ?_⟩; have h3 := (h2 k x HA.out.2.2.2.2.2.2.1).2; have := (Array.getElem?_eq_some_iff.1 h3).1
      omega
    clear p0 p1 p2 y0 y1 s1 HG2 HG3 HG5
    have hpg : p ≠ gs := by
      intro e; obtain ⟨cur, h1, -⟩ := HGSB.out; rw [← e, HB3.out.2.1] at h1
      simp at h1
    have hyg : y ≠ gs := by
      intro e; obtain ⟨cur, h1, -⟩ := HGSB.out; rw [← e, HB3.out.1] at h1
      simp at h1
    have HCL : Hid (∀ X : World, Same w3 X → Calls Tryd.prog 54 #[.slice (some ⟨gx, 0, none⟩) (len - 8) cx] X fun e w4 => ∃ gd cd, e = .returned (.slice (some ⟨gd, 0, none⟩) (len - 8) cd) ∧ (w4.cell? ⟨p, 2, none⟩ = some (.slice (some ⟨gs, 0, none⟩) ln sc) ∧ w4.cell? ⟨y, 0, none⟩ = some (.int .i64 key) ∧ w4.cell? ⟨y, 1, none⟩ = some (.int .i64 sq) ∧ w4.cell? ⟨y, 2, none⟩ = some (.slice (some ⟨gx, 0, none⟩) (len - 8) cx)) ∧ (∃ v0 v1 v2 v3 : Value, w4.cell? ⟨gs, k * 4, none⟩ = some v0 ∧ w4.cell? ⟨gs, k * 4 + 1, none⟩ = some v1 ∧ w4.cell? ⟨gs, k * 4 + 2, none⟩ = some v2 ∧ w4.cell? ⟨gs, k * 4 + 3, none⟩ = some v3 ∧ w4.frozen? ⟨gs, k * 4, none⟩ = false ∧ w4.frozen? ⟨gs, k * 4 + 1, none⟩ = false ∧ w4.frozen? ⟨gs, k * 4 + 2, none⟩ = false ∧ w4.frozen? ⟨gs, k * 4 + 3, none⟩ = false) ∧ Hid (w3.grownBy w4 none ∧ w3.heap.size ≤ gd ∧ Own w4 5 gd (zs.drop 8))) := by
      intro X hX; have GX : w3.grownBy X none := grownBy_same (grownBy_refl _ _) hX; refine (bclone_some ⟨gx, 0, none⟩ (len - 8) cx (zs.drop 8) X ((HB3.out.2.2.2.sl _ HL.out).grown0 GX) (by omega)).mono ?_; rintro e w4 ⟨gd, cd, rfl, hgd, hO, hG⟩; have G4 : w3.grownBy w4 none := grownBy_trans GX hG; have b1 := (G4.block _ (Array.getElem?_eq_some_iff.1 HB3.out.1).1 (by simp)).trans HB3.out.1; have b2 := (G4.block _ (Array.getElem?_eq_some_iff.1 HB3.out.2.1).1 (by simp)).trans HB3.out.2.1; obtain ⟨cur, h1, h2⟩ := HGSB.out; have b3 := (G4.block _ (Array.getElem?_eq_some_iff.1 h1).1 (by simp)).trans h1
      have l0 : k * 4 < cur.size := by omega
      have l1 : k * 4 + 1 < cur.size := by omega
      have l2 : k * 4 + 2 < cur.size := by omega
      have l3 : k * 4 + 3 < cur.size := by omega
      refine ⟨gd, cd, rfl, by simp [World.cell?, b1, b2], ?_, G4, by rw [← hX.1]; exact hgd, hO⟩; exact ⟨cur[k * 4], cur[k * 4 + 1], cur[k * 4 + 2], cur[k * 4 + 3], by simp [World.cell?, b3, l0], by simp [World.cell?, b3, l1], by simp [World.cell?, b3, l2], by simp [World.cell?, b3, l3], by simp [World.frozen?, b3], by simp [World.frozen?, b3], by simp [World.frozen?, b3], by simp [World.frozen?, b3]⟩
    have HC0 : Hid (w3.cell? ⟨p, 2, none⟩ = some (.slice (some ⟨gs, 0, none⟩) ln sc) ∧ w3.cell? ⟨y, 0, none⟩ = some (.int .i64 key) ∧ w3.cell? ⟨y, 1, none⟩ = some (.int .i64 sq) ∧ w3.cell? ⟨y, 2, none⟩ = some (.slice (some ⟨gx, 0, none⟩) (len - 8) cx)) := by show _ ∧ _; simp [World.cell?, HB3.out.1, HB3.out.2.1]
    have hC0 := HC0.out; obtain ⟨p2, y0, y1, y2⟩ := HC0.out
    have hkI : (k : Int) < (ln : Int) := by omega
    have p0 : w3.cell? ⟨p, 0, none⟩ = some (.int .i64 b) := by simp [World.cell?, HB3.out.2.1]
    go_wp2_with fail
    go_region_held3 (fun W => W.cell? ⟨p, 2, none⟩ = some (.slice (some ⟨gs, 0, none⟩) ln sc) ∧ W.cell? ⟨y, 0, none⟩ = some (.int .i64 key) ∧ W.cell? ⟨y, 1, none⟩ = some (.int .i64 sq) ∧ W.cell? ⟨y, 2, none⟩ = some (.slice (some ⟨gx, 0, none⟩) (len - 8) cx)) (first | go_keep | exact hC0 | exact hC4 | (simp only [cell_set_ne _ _ _ _ _ _ hpg, cell_set_ne _ _ _ _ _ _ hyg]; exact hC4) | fail)
      (first
        | (go_at_call 54; refine (HCL.out _ (by exact ⟨rfl, rfl, rfl, rfl⟩)).mono ?_; rintro e w4 ⟨gd, cd, rfl, hC4, ⟨v0, v1, v2, v3, i0, i1, i2, i3, f0, f1, f2, f3⟩, HG6⟩)
        | fail)
    obtain ⟨W5, hW5⟩ : ∃ W5, W5 = put4 w4 gs k (.int .i64 key) (.int .i64 sq) (.int .i64 (b + (kn : Int))) (.slice (some ⟨gd, 0, none⟩) (len - 8) cd) := ⟨_, rfl⟩
    have HW5 : Hid (W5.heap[p]? = some (.cells #[.int .i64 b, .slice (some ⟨gk, 0, none⟩) kn kc, .slice (some ⟨gs, 0, none⟩) ln sc] 28 (0, 0)) ∧ W5.heap[y]? = some (.cells #[.int .i64 key, .int .i64 sq, .slice (some ⟨gx, 0, none⟩) (len - 8) cx] 32 (0, 0)) ∧ Own W5 5 gx (zs.drop 8) ∧ ElAt W5 74 3 gs (S.set k ⟨[key, sq, b + (kn : Int)], zs.drop 8, some gd, cd⟩) ∧ W5.os = w4.os ∧ W5.tape = w4.tape ∧ W5.output = w4.output ∧ W5.heap.size = w4.heap.size ∧ ∀ j, j ≠ gs → W5.heap[j]? = w4.heap[j]?) := by
      have hoth : ∀ j, j ≠ gs → W5.heap[j]? = w4.heap[j]? := fun j hj => by rw [hW5]; exact put4_other _ _ _ _ _ _ _ _ hj
      refine ⟨?_, ?_, (HB3.out.2.2.2.grown HG6.out.1 (by simp)).of_block (hoth gx ?_), ?_, by rw [hW5]; rfl, by rw [hW5]; rfl, by rw [hW5]; rfl, by rw [hW5]; simp [put4], hoth⟩
      · exact (hoth p hpg).trans ((HG6.out.1.block _ (Array.getElem?_eq_some_iff.1 HB3.out.2.1).1 (by simp)).trans HB3.out.2.1)
      · exact (hoth y hyg).trans ((HG6.out.1.block _ (Array.getElem?_eq_some_iff.1 HB3.out.1).1 (by simp)).trans HB3.out.1)
      · intro e; obtain ⟨cur, h1, -⟩ := HGSB.out; rw [← e] at h1; have := own_type HB3.out.2.2.2 h1
        simp at this
      · rw [hW5]; have h := el_replace (n0 := key) (n1 := sq) (n2 := b + (kn : Int)) (cd := cd) HA.out.1 HA.out.2.2.2.2.2.2.1 (grownBy_trans HB3.out.2.2.1 HG6.out.1) (Nat.le_trans HB3.out.2.2.1.size HG6.out.2.1) HG6.out.2.2; rw [HL.out] at h; exact h
    rw [show (((w4.setCell ⟨gs, k * 4, none⟩ (.int .i64 key)).setCell ⟨gs, k * 4 + 1, none⟩ (.int .i64 sq)).setCell ⟨gs, k * 4 + 2, none⟩ (.int .i64 (b + (kn : Int)))).setCell ⟨gs, k * 4 + 3, none⟩ (.slice (some ⟨gd, 0, none⟩) (len - 8) cd) = W5 from hW5.symm]; clear hW5 i0 i1 i2 i3 f0 f1 f2 f3 hC0 hC4 p0 p2 y0 y1 y2
    have HAP : Hid (∀ X : World, Same (W5.alloc (.cells #[.int .i64 key, .int .i64 sq, .slice (some ⟨gx, 0, none⟩) (len - 8) cx] 32)) X → ∀ ty, ∃ (G : Nat) (w' : World), (Builtin.append_ #[25, 25] ty #[.slice (some ⟨gk, 0, none⟩) kn kc, .slice (some ⟨W5.heap.size, 0, none⟩) 1 1]).run Tryd.prog X = .ok (.slice (some ⟨W5.heap.size + 1, 0, none⟩) (kn + 1) G) w' ∧ (w'.cell? ⟨p, 1, none⟩ = some (.slice (some ⟨gk, 0, none⟩) kn kc) ∧ w'.frozen? ⟨p, 1, none⟩ = false) ∧ Hid (kn + 1 ≤ G ∧ W5.grownBy w' none ∧ W5.heap.size + 1 < w'.heap.size ∧ ∃ T : Array Value, w'.heap[W5.heap.size + 1]? = some (.cells ((K.flatMap El.cells).toArray ++ #[.int .i64 key, .int .i64 sq, .slice (some ⟨gx, 0, none⟩) (len - 8) cx] ++ T) 32 (0, 0)))) := by
      intro X hX ty; have GX : W5.grownBy X none := grownBy_same (World.grownBy_alloc _ _ _) hX
      have hz : X.heap.size = W5.heap.size + 1 := by rw [hX.1]; simp
      have hKX : ElAt X 32 2 gk K := HA.out.2.2.2.2.2.2.2.2.1.kept (fun j hj hjk => by
        rw [GX.block j (by rw [HW5.out.2.2.2.2.2.2.2.1]; exact Nat.lt_of_lt_of_le hj (grownBy_trans HB3.out.2.2.1 HG6.out.1).size) (by simp), HW5.out.2.2.2.2.2.2.2.2 j ?_]
        · exact (grownBy_trans HB3.out.2.2.1 HG6.out.1).block j hj (by simp)
        · rintro rfl; obtain ⟨cur, h1, -⟩ := HGSB.out
          rcases hjk with rfl | ⟨x', hx', ho'⟩
          · obtain ⟨cur', h2, -⟩ := HA.out.2.2.2.2.2.2.2.2.1.row; have h3 := (HB3.out.2.2.1.block _ (Array.getElem?_eq_some_iff.1 h2).1 (by simp)).trans h2; rw [h1] at h3
            simp at h3
          · obtain ⟨i', hi'⟩ := List.getElem?_of_mem hx'; have h2 := (ownS_blk (HA.out.2.2.2.2.2.2.2.2.1.own i' x' hi').2.1 ho').grown HB3.out.2.2.1 (by simp); have := own_type h2 h1
            simp at this)
      obtain ⟨G, w', h1, h2, h3, T, h4⟩ := run_keep (u := W5.heap.size) hKX HA.out.2.2.2.2.2.2.2.2.2 (by rw [hX.1]; exact heap_alloc_new W5 _) (by have := HKNN.out; omega) ty; rw [hz] at h1 h4; refine ⟨G, w', ?_, ?_, h2, grownBy_trans GX h3, ?_, T, h4⟩
      · rw [HKC.out]; exact h1
      · have hb := ((grownBy_trans GX h3).block p (Array.getElem?_eq_some_iff.1 HW5.out.1).1 (by simp)).trans HW5.out.1
        simp [World.cell?, World.frozen?, hb]
      · exact (Array.getElem?_eq_some_iff.1 h4).1
    have p1 : W5.cell? ⟨p, 1, none⟩ = some (.slice (some ⟨gk, 0, none⟩) kn kc) := by simp [World.cell?, HW5.out.1]
    have y0 : W5.cell? ⟨y, 0, none⟩ = some (.int .i64 key) := by simp [World.cell?, HW5.out.2.1]
    have y1 : W5.cell? ⟨y, 1, none⟩ = some (.int .i64 sq) := by simp [World.cell?, HW5.out.2.1]
    have y2 : W5.cell? ⟨y, 2, none⟩ = some (.slice (some ⟨gx, 0, none⟩) (len - 8) cx) := by simp [World.cell?, HW5.out.2.1]
    have hpl : p < W5.heap.size := (Array.getElem?_eq_some_iff.1 HW5.out.1).1; have hyl : y < W5.heap.size := (Array.getElem?_eq_some_iff.1 HW5.out.2.1).1; go_wp2_with fail
    have mixed : Tryd.prog.follows .mixedOrders = true := by kernel_rfl
    go_region_law_o (first
      | (refine step_append_ex (by rfl) (.tmp 96) (.tmp 98) 25 (by rfl) _ _ (by rfl) (by rfl) (HAP.out _ (by exact ⟨rfl, rfl, rfl, rfl⟩)) ?_; rintro G w6 ⟨⟨q1, z1⟩, HW6⟩)
      | fail)
    all_goals
      go_wp2
      go_ret2
      refine ⟨rfl, ?_⟩; obtain ⟨hkk, h6, -, T, hrow⟩ := HW6.out; have hkey := HQ.out.1; have hsq := HQ.out.2.1; rw [hkey, hsq]
      obtain ⟨e1', e2', e3', e4', e5'⟩ := keep_end (kn := kn) (G := G) (n := len - 8) HA.out.2.2.2.2.2.1 HA.out.2.2.2.2.2.2.2.2.1 (fun j hj => by
        rintro rfl; obtain ⟨x', hx', ho'⟩ := hj; obtain ⟨cur, h1, -⟩ := HGSB.out; obtain ⟨i', hi'⟩ := List.getElem?_of_mem hx'; have h2 := (ownS_blk (HA.out.2.2.2.2.2.2.2.2.1.own i' x' hi').2.1 ho').grown HB3.out.2.2.1 (by simp); have := own_type h2 h1
        simp at this) (Only.of (grownBy_trans HB3.out.2.2.1 HG6.out.1) (fun k e => by cases e)) HW5.out.2.2.2.2.1 HW5.out.2.2.2.2.2.1 HW5.out.2.2.2.2.2.2.1 HW5.out.2.2.2.2.2.2.2.1 HW5.out.2.2.2.2.2.2.2.2 HW5.out.1 HW5.out.2.2.1 HW5.out.2.2.2.1 h6 HYB.out.2.2.2 HL.out hrow
      refine ⟨W5.heap.size + 1, G, gx, cx, gd, cd, gs, sc, ?_, hkk, e2', e3', e4', HYB.out.2.2.2, Nat.le_trans HB3.out.2.2.1.size HG6.out.2.1, ?_, .inl rfl, e5'⟩
      · rw [show (S.set k ⟨[key, sq, b + (kn : Int)], zs.drop 8, some gd, cd⟩).length = ln from by rw [List.length_set]; exact HA.out.2.2.2.2.1]; exact e1'
      · have h1 := HB3.out.2.2.2.lt; have h2 := HG6.out.2.1
        omega
theorem insE_get {S : List El} {k : Nat} {z : El} (hk : k ≤ S.length) {i : Nat} {y : El} (h : (S.take k ++ z :: S.drop k)[i]? = some y) : (i < k ∧ S[i]? = some y) ∨ (i = k ∧ y = z) ∨ (k < i ∧ S[i - 1]? = some y) := by
  have hl : (S.take k).length = k := by simp; omega
  rcases Nat.lt_trichotomy i k with hi | hi | hi
  · rw [List.getElem?_append_left (by omega), List.getElem?_take, if_pos hi] at h; exact .inl ⟨hi, h⟩
  · rw [List.getElem?_append_right (by omega), hl, hi] at h
    simp at h
    exact .inr (.inl ⟨hi, h.symm⟩)
  · rw [List.getElem?_append_right (by omega), hl, show i - k = (i - k - 1) + 1 by omega, List.getElem?_cons_succ, List.getElem?_drop, show k + (i - k - 1) = i - 1 by omega] at h; exact .inr (.inr ⟨hi, h⟩)
theorem insE_at {S : List El} {k : Nat} {z : El} (hk : k ≤ S.length) : (S.take k ++ z :: S.drop k)[k]? = some z := by
  have hl : (S.take k).length = k := by simp; omega
  rw [List.getElem?_append_right (by omega), hl]
  simp
theorem el_insert {w w4 : World} {g k gd cd gs : Nat} {S : List El} {cur : Array Value} {n0 n1 n2 : Int} {d : List Nat} (hS : ElAt w 74 3 gs S) (hk : k ≤ S.length) (hg : w4.heap[g]? = some (.cells cur 74 (0, 0))) (hgl : w.heap.size ≤ g)
    (hcur : ∀ j, j < S.length * 4 + 4 → cur[j]? = ((S.flatMap El.cells).take (k * 4) ++ sesZ ++ (S.flatMap El.cells).drop (k * 4))[j]?) (hkeep : ∀ j, j < w.heap.size → (∃ x ∈ S, x.o = some j) → w4.heap[j]? = w.heap[j]?)
    (hgd : w.heap.size ≤ gd) (hgdg : gd ≠ g) (hO : Own w4 5 gd d) :
    ElAt (put4 w4 g k (.int .i64 n0) (.int .i64 n1) (.int .i64 n2) (.slice (some ⟨gd, 0, none⟩) d.length cd)) 74 3 g (S.take k ++ ⟨[n0, n1, n2], d, some gd, cd⟩ :: S.drop k) := by
  have hfl := elflat_len 3 S hS.hds; simp only [Nat.reduceAdd] at hfl
  have htl : ((S.flatMap El.cells).take (k * 4)).length = k * 4 := by rw [List.length_take, hfl]; omega
  have hsz : k * 4 + 3 < cur.size := by
    have h := hcur (k * 4 + 3) (by omega); rw [List.append_assoc, List.getElem?_append_right (by omega), htl, show k * 4 + 3 - k * 4 = 3 by omega] at h
    rcases Nat.lt_or_ge (k * 4 + 3) cur.size with h' | h'
    · exact h'
    · rw [Array.getElem?_eq_none h'] at h
      simp [sesZ] at h
  have hlow : ∀ (i j : Nat) (y : El), i < k → j < 4 → S[i]? = some y → cur[i * 4 + j]? = y.cells[j]? := fun i j y hi hj hy => by
    rw [hcur _ (by omega), List.append_assoc, List.getElem?_append_left (by omega), List.getElem?_take, if_pos (by omega)]; exact elflat_get 3 S hS.hds i y j hy hj
  have hhigh : ∀ (i j : Nat) (y : El), k < i → j < 4 → S[i - 1]? = some y → cur[i * 4 + j]? = y.cells[j]? := fun i j y hi hj hy => by
    have hil := (List.getElem?_eq_some_iff.1 hy).1; rw [hcur _ (by omega), List.getElem?_append_right (by simp [sesZ]; omega), List.getElem?_drop]; rw [show k * 4 + (i * 4 + j - ((S.flatMap El.cells).take (k * 4) ++ sesZ).length) = (i - 1) * 4 + j by rw [List.length_append, htl]; simp [sesZ]; omega]; exact elflat_get 3 S hS.hds (i - 1) y j hy hj
  have hcells : ∀ (y : El) (i : Nat), y.hd.length = 3 → (∀ j, j < 4 → cur[i * 4 + j]? = y.cells[j]?) → (∀ (j : Nat) (n : Int), y.hd[j]? = some n → cur[i * 4 + j]? = some (.int .i64 n)) ∧ cur[i * 4 + 3]? = some (.slice (oad y.o) y.d.length y.cp) := fun y i hl h => by
    refine ⟨fun j n hj => ?_, ?_⟩
    · have hj' := (List.getElem?_eq_some_iff.1 hj).1; rw [h j (by omega), El.cells, List.getElem?_append_left (by simp; omega), List.getElem?_map, hj]
      rfl
    · rw [h 3 (by omega), El.cells, List.getElem?_append_right (by simp; omega)]
      simp [hl]
  refine el_put4 (x := ⟨[n0, n1, n2], d, some gd, cd⟩) hg (by omega) (fun i y hy hik => ?_) (insE_at hk) rfl (fun i y hy => ?_) (fun i j y z b hy hz hyo hzo => ?_)
  · rcases insE_get hk hy with ⟨hi, hy'⟩ | ⟨h, _⟩ | ⟨hi, hy'⟩
    · exact ⟨(hS.own i y hy').1, hcells y i (hS.own i y hy').1 (fun j hj => hlow i j y hi hj hy')⟩
    · exact absurd h hik
    · exact ⟨(hS.own _ y hy').1, hcells y i (hS.own _ y hy').1 (fun j hj => hhigh i j y hi hj hy')⟩
  · have hold : ∀ i', S[i']? = some y → OwnS (put4 w4 g k (.int .i64 n0) (.int .i64 n1) (.int .i64 n2) (.slice (some ⟨gd, 0, none⟩) d.length cd)) 5 (oad y.o) y.d.length y.d ∧ (y.o = none → y.cp = 0) := fun i' hy' => by
      refine ⟨ownS_kept (hS.own i' y hy').2.1 (fun g' hg' hgw => ?_), (hS.own i' y hy').2.2⟩; rw [put4_other _ _ _ _ _ _ _ _ (by omega)]; exact hkeep g' hgw ⟨y, List.mem_of_getElem? hy', hg'⟩
    rcases insE_get hk hy with ⟨hi, hy'⟩ | ⟨_, rfl⟩ | ⟨hi, hy'⟩
    · exact hold i hy'
    · exact ⟨(hO.of_block (put4_other _ _ _ _ _ _ _ _ hgdg)).s rfl, fun h => by cases h⟩
    · exact hold _ hy'
  · have hnew : ∀ {i' : Nat} {y' : El}, S[i']? = some y' → y'.o = some b → gd ≠ b := fun {i' y'} h ho => by
      have := hS.blt h ho
      omega
    rcases insE_get hk hy with ⟨hi, hy'⟩ | ⟨hi, rfl⟩ | ⟨hi, hy'⟩ <;> rcases insE_get hk hz with ⟨hj, hz'⟩ | ⟨hj, rfl⟩ | ⟨hj, hz'⟩
    · exact hS.far i j y z b hy' hz' hyo hzo
    · exact absurd (by simpa using hzo) (hnew hy' hyo)
    · have := hS.far _ _ y z b hy' hz' hyo hzo; omega
    · exact absurd (by simpa using hyo) (hnew hz' hzo)
    · omega
    · exact absurd (by simpa using hyo) (hnew hz' hzo)
    · have := hS.far _ _ y z b hy' hz' hyo hzo; omega
    · exact absurd (by simpa using hzo) (hnew hy' hyo)
    · have := hS.far _ _ y z b hy' hz' hyo hzo; omega
/-- slices.Insert, wherever -/
theorem insert_any (g n i vb vc : Nat) (cs : List Value) (w : World) (hi : i ≤ n) (hn : n ≤ 1048576) (hcl : cs.length = n * 4) (hgw : g < w.heap.size) (hvw : vb < w.heap.size) (h1c : ∀ v ∈ cs, v.oneCell' = true)
    (hcs : ∀ j v, cs[j]? = some v → w.cell? ⟨g, j, none⟩ = some v) (hvs : ∀ j v, sesZ[j]? = some v → w.cell? ⟨vb, j, none⟩ = some v) :
    Calls Tryd.prog 62 #[.slice (some ⟨g, 0, none⟩) n n, .int .i64 (i : Int), .slice (some ⟨vb, 0, none⟩) 1 vc] w fun e w' => ∃ (G : Nat) (cur : Array Value), e = .returned (.slice (some ⟨w.heap.size, 0, none⟩) (n + 1) G) ∧ n + 1 ≤ G ∧ w'.heap[w.heap.size]? = some (.cells cur 74 (0, 0)) ∧ (∀ j, j < n * 4 + 4 → cur[j]? = (cs.take (i * 4) ++ sesZ ++ cs.drop (i * 4))[j]?) ∧ w.grownBy w' none := by
  rcases Nat.lt_or_ge i n with h | h
  · exact insert_in g n i vb vc cs w h hn hcl hgw hvw h1c hcs hvs
  · obtain rfl : i = n := by omega
    exact insert_end g i vb vc cs w hn hcl hcs hvs
end Go.Proofs.YtdajcpcajdhplaaDoor
