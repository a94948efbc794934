/-
  Ap2, Insert, ElPut, ElPut2, ElRow, SpCopy1, SpCopy
-/
import Derived.Test.YtdajcpcajdhplaaDoorSvc12
import Derived.Test.YtdajcpcajdhplaaDoorSvc7
import Derived.Test.YtdajcpcajdhplaaDoorSvc8
import Derived.Test.YtdajcpcajdhplaaDoorSvc5
import Derived.Shelf.Spec.SlicesInsert
import Derived.Lib.AppendZerosOnto
import Derived.Laws.CopyRow
import Derived.Test.YtdajcpcajdhplaaDoorSvc4
/-
  The program's apply where the service is full (written by tools/gen_apply.py).
-/
namespace Go.Proofs.YtdajcpcajdhplaaDoor
open Go.RowKit

set_option maxRecDepth 4000 in
set_option maxHeartbeats 4000000 in
theorem apply_full_old (p gk kn kc gs sc : Nat) (b : Int) (S : List El) (k : Nat) (x : El) (oa : Option Addr) (len cap : Nat) (zs : List Nat) (ad : Nat → Addr) (w : World) (hsl : SlB w oa len zs) (hcp : len ≤ cap) (hm : len ≤ 1073741824) (hd : decGood zs)
    (hp : w.heap[p]? = some (.cells #[.int .i64 b, .slice (some ⟨gk, 0, none⟩) kn kc, .slice (some ⟨gs, 0, none⟩) S.length sc] 28 (0, 0))) (hS : ElAt w 74 3 gs S) (hr : risesE 0 S) (hn : S.length ≤ 1048576) (hb : -1000000000000 ≤ b ∧ b ≤ 1000000000000) (hkn : kn ≤ 1048576)
    (hk : Spot S (decCl zs : Int) k) (hx : S[k]? = some x) (hxc : x.c = (decCl zs : Int)) (hq : x.q < (decSq zs : Int)) (hE : ErrsAt w ad) (hfull : b + (kn : Int) = 1000000) :
    Calls Tryd.prog 35 #[.pointer (some ⟨p, 0, none⟩), .slice oa len cap] w fun e w' => e = .returned (.tuple #[.int .i64 0, .iface 150 (.pointer (some (ad 1)))]) ∧ w.grownBy w' none := by
  have h8 : 8 ≤ len := by have h1 := hd.1; have h2 := hsl.1; omega
  have e0 : ((len : Int) == 0) = false := by have : (len : Int) ≠ 0 := by omega
                                             simpa using this
  have HD : Hid (Calls Tryd.prog 11 #[.slice oa len cap] w fun e w' => ∃ g cp, e = .returned (.tuple #[.agg #[.int .i64 (decCl zs : Int), .int .i64 (decSq zs : Int), .slice (some ⟨g, 0, none⟩) (len - 8) cp], .int .i64 0]) ∧ w.heap.size ≤ g ∧ Own w' 5 g (zs.drop 8) ∧ w.grownBy w' none) := decItem_good oa len cap zs w hsl hcp hm hd
  have HL : Hid ((zs.drop 8).length = len - 8) := by have := hsl.1; show _ = _; simp; omega
  obtain ⟨key, hkey⟩ : ∃ key : Int, (decCl zs : Int) = key := ⟨_, rfl⟩; obtain ⟨sq, hsq⟩ : ∃ sq : Int, (decSq zs : Int) = sq := ⟨_, rfl⟩; obtain ⟨ln, hln⟩ : ∃ ln, S.length = ln := ⟨_, rfl⟩; rw [hln] at hp; have HQ : Hid ((decCl zs : Int) = key ∧ (decSq zs : Int) = sq ∧ zs.length = len) := ⟨hkey, hsq, hsl.1⟩; obtain ⟨n0, n1, n2, hhd, -⟩ := hS.get3 hx; obtain ⟨q0, q1, q2⟩ := El.hd3 hhd; rw [q1, hsq] at hq; rw [q0, hkey] at hxc; rw [hkey] at HD hk; rw [hsq] at HD
  have hkl : k < ln := by have := (List.getElem?_eq_some_iff.1 hx).1; omega
  have HK : Hid (knownAt S key k = true) := by show _ = _; unfold knownAt; rw [hx]; simp [q0, hxc]
  have HA : Hid (ElAt w 74 3 gs S ∧ risesE 0 S ∧ S.length ≤ 1048576 ∧ Spot S key k ∧ S.length = ln ∧ w.heap[p]? = some (.cells #[.int .i64 b, .slice (some ⟨gk, 0, none⟩) kn kc, .slice (some ⟨gs, 0, none⟩) ln sc] 28 (0, 0)) ∧ S[k]? = some x ∧ x.hd = [n0, n1, n2] ∧ ErrsAt w ad) := ⟨hS, hr, hn, hk, hln, hp, hx, hhd, hE⟩
  have HLN : Hid (ln ≤ 1048576) := by show _ ≤ _; omega
  have HCN : Hid (∀ X : World, Calls Tryd.prog 38 #[.agg #[.int .i64 b, .slice (some ⟨gk, 0, none⟩) kn kc, .slice (some ⟨gs, 0, none⟩) ln sc]] X fun e w' => e = .returned (.int .i64 (b + (kn : Int))) ∧ X.grownBy w' none) := fun X => countE_any b _ kn kc _ X hb hkn
  clear hE hsl hd hp hS hr hn hk hkey hsq hln hb hkn hx hhd q0 q1 q2 hxc
  go_enter Tryd.func35, Tryd.ntmps35
  go_wp2_with fail; refine HD.out.mono ?_; rintro e w1 ⟨gx, cx, rfl, hgx, hO1, hG1⟩; have HX : Hid (w.heap.size ≤ gx ∧ Own w1 5 gx (zs.drop 8) ∧ w.grownBy w1 none) := ⟨hgx, hO1, hG1⟩; clear hgx hO1 hG1; go_wp2_with fail; obtain ⟨W2, hW2⟩ : ∃ W2, W2 = w1.alloc (.cells #[.int .i64 key, .int .i64 sq, .slice (some ⟨gx, 0, none⟩) (len - 8) cx] 32) := ⟨_, rfl⟩; obtain ⟨y, hy⟩ : ∃ y, w1.heap.size = y := ⟨_, rfl⟩
  have HG2 : Hid (w.grownBy W2 none ∧ W2.heap[y]? = some (.cells #[.int .i64 key, .int .i64 sq, .slice (some ⟨gx, 0, none⟩) (len - 8) cx] 32 (0, 0)) ∧ Own W2 5 gx (zs.drop 8) ∧ w.heap.size ≤ gx ∧ gx < y) := by
    subst hW2 hy; exact ⟨grownBy_alloc HX.out.2.2 _, heap_alloc_new w1 _, HX.out.2.1.grown (World.grownBy_alloc _ _ none) (by simp), HX.out.1, HX.out.2.1.lt⟩
  rw [← hW2, hy]; have HPB : Hid (W2.heap[p]? = some (.cells #[.int .i64 b, .slice (some ⟨gk, 0, none⟩) kn kc, .slice (some ⟨gs, 0, none⟩) ln sc] 28 (0, 0))) := (HG2.out.1.block p (Array.getElem?_eq_some_iff.1 HA.out.2.2.2.2.2.1).1 (by simp)).trans HA.out.2.2.2.2.2.1
  have p2 : W2.cell? ⟨p, 2, none⟩ = some (.slice (some ⟨gs, 0, none⟩) ln sc) := by simp [World.cell?, HPB.out]
  have y0 : W2.cell? ⟨y, 0, none⟩ = some (.int .i64 key) := by simp [World.cell?, HG2.out.2.1]
  have HS : Hid (∀ X : World, Same W2 X → Calls Tryd.prog 59 #[.slice (some ⟨gs, 0, none⟩) ln sc, .int .i64 key, .func (.func 60) #[] #[]] X fun e w2 => e = .returned (.tuple #[.int .i64 (k : Int), .bool true]) ∧ (w2.cell? ⟨p, 2, none⟩ = some (.slice (some ⟨gs, 0, none⟩) ln sc) ∧ w2.cell? ⟨y, 0, none⟩ = some (.int .i64 key)) ∧ Hid (W2.grownBy w2 none)) := by
    intro X hX; obtain ⟨hS, hr, hn, hk, hln, -⟩ := HA.out; have GX : W2.grownBy X none := grownBy_same (grownBy_refl _ _) hX; have hSX : ElAt X 74 3 gs S := hS.kept (fun j hj _ => (grownBy_trans HG2.out.1 GX).block j hj (by simp)); have h := search_any gs sc S key X hSX hr hn; rw [hln] at h; refine h.mono ?_; rintro e w2 ⟨k', rfl, hk', hG2⟩; obtain rfl := hk.one hk'; have G3 : W2.grownBy w2 none := grownBy_trans GX hG2; exact ⟨by rw [HK.out], ⟨((bcell G3).1 _ _ (cell_block_lt p2)).trans p2, ((bcell G3).1 _ _ (cell_block_lt y0)).trans y0⟩, G3⟩
  clear hW2 hy
  go_region_held3 (fun w' => w'.cell? ⟨p, 2, none⟩ = some (.slice (some ⟨gs, 0, none⟩) ln sc) ∧ w'.cell? ⟨y, 0, none⟩ = some (.int .i64 key)) (first | go_keep | exact ⟨p2, y0⟩ | exact hD | fail)
    (first
      | (go_at_call 59; refine (HS.out _ (by exact ⟨rfl, rfl, rfl, rfl⟩)).mono ?_; rintro e w2 ⟨rfl, hD, HG3⟩)
      | fail)
  all_goals
    clear p2 y0; obtain ⟨p2, y0⟩ := hD; have HYB : Hid (w2.heap[y]? = some (.cells #[.int .i64 key, .int .i64 sq, .slice (some ⟨gx, 0, none⟩) (len - 8) cx] 32 (0, 0)) ∧ w2.heap[p]? = some (.cells #[.int .i64 b, .slice (some ⟨gk, 0, none⟩) kn kc, .slice (some ⟨gs, 0, none⟩) ln sc] 28 (0, 0)) ∧ gx < y ∧ w.heap.size ≤ gx) := ⟨(HG3.out.block _ (Array.getElem?_eq_some_iff.1 HG2.out.2.1).1 (by simp)).trans HG2.out.2.1, (HG3.out.block _ (Array.getElem?_eq_some_iff.1 HPB.out).1 (by simp)).trans HPB.out, HG2.out.2.2.2.2, HG2.out.2.2.2.1⟩
    have y1 : w2.cell? ⟨y, 1, none⟩ = some (.int .i64 sq) := by simp [World.cell?, HYB.out.1]
    have p0 : w2.cell? ⟨p, 0, none⟩ = some (.int .i64 b) := by simp [World.cell?, HYB.out.2.1]
    have p1 : w2.cell? ⟨p, 1, none⟩ = some (.slice (some ⟨gk, 0, none⟩) kn kc) := by simp [World.cell?, HYB.out.2.1]
    have HG4 : Hid (w.grownBy w2 none ∧ Own w2 5 gx (zs.drop 8)) := ⟨grownBy_trans HG2.out.1 HG3.out, HG2.out.2.2.1.grown HG3.out (by simp)⟩; have hS4 : ElAt w2 74 3 gs S := HA.out.1.kept (fun j hj _ => HG4.out.1.block j hj (by simp)); obtain ⟨m0, m1, m2, hhd, s0, s1, s2, s3⟩ := hS4.get3 HA.out.2.2.2.2.2.2.1
    obtain ⟨rfl, rfl, rfl⟩ : n0 = m0 ∧ n1 = m1 ∧ n2 = m2 := by
      have h1 := HA.out.2.2.2.2.2.2.2.1; rw [hhd] at h1
      simp at h1
      exact ⟨h1.1.symm, h1.2.1.symm, h1.2.2.symm⟩
    clear hS4 hhd s0 s2 s3
    have hkI : (k : Int) < (ln : Int) := by omega
    have hqn : ¬ (sq ≤ n1) := by omega
    clear HD HX HS HPB; go_wp2; go_quiet (fail); go_wp2_with fail; refine (HCN.out _).mono ?_; rintro e w3 ⟨rfl, hG5⟩; have HG5 : Hid (w2.grownBy w3 none) := ⟨hG5.os, hG5.tape, hG5.output, hG5.size, hG5.block⟩; clear hG5 HCN; have c1 := (HA.out.2.2.2.2.2.2.2.2.grown (grownBy_trans HG4.out.1 HG5.out)).cell 1 (by decide); go_wp2; go_quiet (fail); go_wp2
    go_ret2
    exact ⟨rfl, grownBy_same (grownBy_trans HG4.out.1 HG5.out) ⟨rfl, rfl, rfl, rfl⟩⟩
set_option maxRecDepth 4000 in
set_option maxHeartbeats 4000000 in
theorem apply_full_new (p gk kn kc gs sc : Nat) (b : Int) (S : List El) (k : Nat) (oa : Option Addr) (len cap : Nat) (zs : List Nat) (ad : Nat → Addr) (w : World) (hsl : SlB w oa len zs) (hcp : len ≤ cap) (hm : len ≤ 1073741824) (hd : decGood zs)
    (hp : w.heap[p]? = some (.cells #[.int .i64 b, .slice (some ⟨gk, 0, none⟩) kn kc, .slice (some ⟨gs, 0, none⟩) S.length sc] 28 (0, 0))) (hS : ElAt w 74 3 gs S) (hr : risesE 0 S) (hn : S.length ≤ 1048576) (hb : -1000000000000 ≤ b ∧ b ≤ 1000000000000) (hkn : kn ≤ 1048576)
    (hk : Spot S (decCl zs : Int) k) (hku : knownAt S (decCl zs : Int) k = false) (hE : ErrsAt w ad) (hfull : b + (kn : Int) = 1000000) :
    Calls Tryd.prog 35 #[.pointer (some ⟨p, 0, none⟩), .slice oa len cap] w fun e w' => e = .returned (.tuple #[.int .i64 0, .iface 150 (.pointer (some (ad 1)))]) ∧ w.grownBy w' none := by
  have h8 : 8 ≤ len := by have h1 := hd.1; have h2 := hsl.1; omega
  have e0 : ((len : Int) == 0) = false := by have : (len : Int) ≠ 0 := by omega
                                             simpa using this
  have HD : Hid (Calls Tryd.prog 11 #[.slice oa len cap] w fun e w' => ∃ g cp, e = .returned (.tuple #[.agg #[.int .i64 (decCl zs : Int), .int .i64 (decSq zs : Int), .slice (some ⟨g, 0, none⟩) (len - 8) cp], .int .i64 0]) ∧ w.heap.size ≤ g ∧ Own w' 5 g (zs.drop 8) ∧ w.grownBy w' none) := decItem_good oa len cap zs w hsl hcp hm hd
  have HL : Hid ((zs.drop 8).length = len - 8) := by have := hsl.1; show _ = _; simp; omega
  obtain ⟨key, hkey⟩ : ∃ key : Int, (decCl zs : Int) = key := ⟨_, rfl⟩; obtain ⟨sq, hsq⟩ : ∃ sq : Int, (decSq zs : Int) = sq := ⟨_, rfl⟩; obtain ⟨ln, hln⟩ : ∃ ln, S.length = ln := ⟨_, rfl⟩; rw [hln] at hp; have HQ : Hid ((decCl zs : Int) = key ∧ (decSq zs : Int) = sq ∧ zs.length = len) := ⟨hkey, hsq, hsl.1⟩; rw [hkey] at HD hk hku; rw [hsq] at HD; have HK : Hid (knownAt S key k = false) := hku; clear hku; have HA : Hid (ElAt w 74 3 gs S ∧ risesE 0 S ∧ S.length ≤ 1048576 ∧ Spot S key k ∧ S.length = ln ∧ w.heap[p]? = some (.cells #[.int .i64 b, .slice (some ⟨gk, 0, none⟩) kn kc, .slice (some ⟨gs, 0, none⟩) ln sc] 28 (0, 0)) ∧ ErrsAt w ad) := ⟨hS, hr, hn, hk, hln, hp, hE⟩
  have HLN : Hid (ln ≤ 1048576) := by show _ ≤ _; omega
  have HCN : Hid (∀ X : World, Calls Tryd.prog 38 #[.agg #[.int .i64 b, .slice (some ⟨gk, 0, none⟩) kn kc, .slice (some ⟨gs, 0, none⟩) ln sc]] X fun e w' => e = .returned (.int .i64 (b + (kn : Int))) ∧ X.grownBy w' none) := fun X => countE_any b _ kn kc _ X hb hkn
  clear hE hsl hd hp hS hr hn hk hkey hsq hln hb hkn
  go_enter Tryd.func35, Tryd.ntmps35
  go_wp2_with fail; refine HD.out.mono ?_; rintro e w1 ⟨gx, cx, rfl, hgx, hO1, hG1⟩; have HX : Hid (w.heap.size ≤ gx ∧ Own w1 5 gx (zs.drop 8) ∧ w.grownBy w1 none) := ⟨hgx, hO1, hG1⟩; clear hgx hO1 hG1; go_wp2_with fail; obtain ⟨W2, hW2⟩ : ∃ W2, W2 = w1.alloc (.cells #[.int .i64 key, .int .i64 sq, .slice (some ⟨gx, 0, none⟩) (len - 8) cx] 32) := ⟨_, rfl⟩; obtain ⟨y, hy⟩ : ∃ y, w1.heap.size = y := ⟨_, rfl⟩
  have HG2 : Hid (w.grownBy W2 none ∧ W2.heap[y]? = some (.cells #[.int .i64 key, .int .i64 sq, .slice (some ⟨gx, 0, none⟩) (len - 8) cx] 32 (0, 0)) ∧ Own W2 5 gx (zs.drop 8) ∧ w.heap.size ≤ gx ∧ gx < y) := by
    subst hW2 hy; exact ⟨grownBy_alloc HX.out.2.2 _, heap_alloc_new w1 _, HX.out.2.1.grown (World.grownBy_alloc _ _ none) (by simp), HX.out.1, HX.out.2.1.lt⟩
  rw [← hW2, hy]; have HPB : Hid (W2.heap[p]? = some (.cells #[.int .i64 b, .slice (some ⟨gk, 0, none⟩) kn kc, .slice (some ⟨gs, 0, none⟩) ln sc] 28 (0, 0))) := (HG2.out.1.block p (Array.getElem?_eq_some_iff.1 HA.out.2.2.2.2.2.1).1 (by simp)).trans HA.out.2.2.2.2.2.1
  have p2 : W2.cell? ⟨p, 2, none⟩ = some (.slice (some ⟨gs, 0, none⟩) ln sc) := by simp [World.cell?, HPB.out]
  have y0 : W2.cell? ⟨y, 0, none⟩ = some (.int .i64 key) := by simp [World.cell?, HG2.out.2.1]
  have HS : Hid (∀ X : World, Same W2 X → Calls Tryd.prog 59 #[.slice (some ⟨gs, 0, none⟩) ln sc, .int .i64 key, .func (.func 60) #[] #[]] X fun e w2 => e = .returned (.tuple #[.int .i64 (k : Int), .bool false]) ∧ (w2.cell? ⟨p, 2, none⟩ = some (.slice (some ⟨gs, 0, none⟩) ln sc) ∧ w2.cell? ⟨y, 0, none⟩ = some (.int .i64 key)) ∧ Hid (W2.grownBy w2 none)) := by
    intro X hX; obtain ⟨hS, hr, hn, hk, hln, -⟩ := HA.out; have GX : W2.grownBy X none := grownBy_same (grownBy_refl _ _) hX; have hSX : ElAt X 74 3 gs S := hS.kept (fun j hj _ => (grownBy_trans HG2.out.1 GX).block j hj (by simp)); have h := search_any gs sc S key X hSX hr hn; rw [hln] at h; refine h.mono ?_; rintro e w2 ⟨k', rfl, hk', hG2⟩; obtain rfl := hk.one hk'; have G3 : W2.grownBy w2 none := grownBy_trans GX hG2; exact ⟨by rw [HK.out], ⟨((bcell G3).1 _ _ (cell_block_lt p2)).trans p2, ((bcell G3).1 _ _ (cell_block_lt y0)).trans y0⟩, G3⟩
  clear hW2 hy
  go_region_held3 (fun w' => w'.cell? ⟨p, 2, none⟩ = some (.slice (some ⟨gs, 0, none⟩) ln sc) ∧ w'.cell? ⟨y, 0, none⟩ = some (.int .i64 key)) (first | go_keep | exact ⟨p2, y0⟩ | exact hD | fail)
    (first
      | (go_at_call 59; refine (HS.out _ (by exact ⟨rfl, rfl, rfl, rfl⟩)).mono ?_; rintro e w2 ⟨rfl, hD, HG3⟩)
      | fail)
  all_goals
    clear p2 y0; obtain ⟨p2, y0⟩ := hD; have HYB : Hid (w2.heap[y]? = some (.cells #[.int .i64 key, .int .i64 sq, .slice (some ⟨gx, 0, none⟩) (len - 8) cx] 32 (0, 0)) ∧ w2.heap[p]? = some (.cells #[.int .i64 b, .slice (some ⟨gk, 0, none⟩) kn kc, .slice (some ⟨gs, 0, none⟩) ln sc] 28 (0, 0)) ∧ gx < y ∧ w.heap.size ≤ gx) := ⟨(HG3.out.block _ (Array.getElem?_eq_some_iff.1 HG2.out.2.1).1 (by simp)).trans HG2.out.2.1, (HG3.out.block _ (Array.getElem?_eq_some_iff.1 HPB.out).1 (by simp)).trans HPB.out, HG2.out.2.2.2.2, HG2.out.2.2.2.1⟩
    have y1 : w2.cell? ⟨y, 1, none⟩ = some (.int .i64 sq) := by simp [World.cell?, HYB.out.1]
    have p0 : w2.cell? ⟨p, 0, none⟩ = some (.int .i64 b) := by simp [World.cell?, HYB.out.2.1]
    have p1 : w2.cell? ⟨p, 1, none⟩ = some (.slice (some ⟨gk, 0, none⟩) kn kc) := by simp [World.cell?, HYB.out.2.1]
    have HG4 : Hid (w.grownBy w2 none ∧ Own w2 5 gx (zs.drop 8)) := ⟨grownBy_trans HG2.out.1 HG3.out, HG2.out.2.2.1.grown HG3.out (by simp)⟩; clear HD HX HS HPB; go_wp2; go_quiet (fail); go_wp2_with fail; refine (HCN.out _).mono ?_; rintro e w3 ⟨rfl, hG5⟩; have HG5 : Hid (w2.grownBy w3 none) := ⟨hG5.os, hG5.tape, hG5.output, hG5.size, hG5.block⟩; clear hG5 HCN; have c1 := (HA.out.2.2.2.2.2.2.grown (grownBy_trans HG4.out.1 HG5.out)).cell 1 (by decide); go_wp2; go_quiet (fail); go_wp2
    go_ret2
    exact ⟨rfl, grownBy_same (grownBy_trans HG4.out.1 HG5.out) ⟨rfl, rfl, rfl, rfl⟩⟩
/-- copy of elements of K cells into a row -/
theorem run_copy_rows {P : Program} (w : World) (dT sT ty elem : TypeId) (K g o dLen dCap : Nat) (a : Addr) (sLen sCap : Nat) (cur : Array Value) (t : TypeId) (cs : List Value)
    (hu : P.underlying dT = some (.slice elem)) (hs : (P.info? elem).map (·.size) = some K)
    (hg : w.heap[g]? = some (.cells cur t (0, 0))) (m : Nat) (hm : Nat.min sLen dLen = m) (hn : cs.length = m * K)
    (hsrc : ∀ j v, cs[j]? = some v → w.cell? (a.add j) = some v) (hfit : o + cs.length ≤ cur.size) (h1 : ∀ v ∈ cs, v.oneCell' = true) :
    (Builtin.copy_ #[dT, sT] ty #[.slice (some ⟨g, o, none⟩) dLen dCap, .slice (some a) sLen sCap]).run P w =
      .ok (goInt m) (w.setRow g (cur.toList.take o ++ cs ++ cur.toList.drop (o + cs.length)).toArray) := by
  have hl := run_loadCells_list (P := P) w a cs hsrc; have hst := run_storeCells_at P g o t cs 0 cur w hg (by simpa using hfit) h1
  cases hq : P.info? elem with
  | none => simp [hq] at hs
  | some i =>
    have hi : i.size = K := by simpa [hq] using hs
    simp [Builtin.copy_, run_underlying hu, Builtin.lenOf, Builtin.firstCells, sizeOf, typeInfo, hq, hi, hm, ← hn, hl, hst]
/-- an empty session's cells -/
def sesZ : List Value := [.int .i64 0, .int .i64 0, .int .i64 0, .slice none 0 0]
/-- three rows in a row, read -/
theorem ins_get (cs : List Value) (n i : Nat) (hcl : cs.length = n * 4) (hi : i ≤ n) (tail : List Value) (j : Nat) (hj : j < n * 4 + 4) : ((cs.take (i * 4) ++ sesZ ++ cs.drop (i * 4)) ++ tail)[j]? = (cs.take (i * 4) ++ sesZ ++ cs.drop (i * 4))[j]? := by
  rw [List.getElem?_append_left]
  simp [sesZ, hcl]
  omega
set_option maxRecDepth 100000 in
set_option maxHeartbeats 4000000 in
theorem insert_end (g n vb vc : Nat) (cs : List Value) (w : World) (hn : n ≤ 1048576) (hcl : cs.length = n * 4)
    (hcs : ∀ j v, cs[j]? = some v → w.cell? ⟨g, j, none⟩ = some v) (hvs : ∀ j v, sesZ[j]? = some v → w.cell? ⟨vb, j, none⟩ = some v) :
    Calls Tryd.prog 62 #[.slice (some ⟨g, 0, none⟩) n n, .int .i64 (n : Int), .slice (some ⟨vb, 0, none⟩) 1 vc] w fun e w' => ∃ (G : Nat) (cur : Array Value), e = .returned (.slice (some ⟨w.heap.size, 0, none⟩) (n + 1) G) ∧ n + 1 ≤ G ∧ w'.heap[w.heap.size]? = some (.cells cur 74 (0, 0)) ∧ (∀ j, j < n * 4 + 4 → cur[j]? = (cs.take (n * 4) ++ sesZ ++ cs.drop (n * 4))[j]?) ∧ w.grownBy w' none := by
  obtain ⟨i0, hi0, hz0, hzs, hzb⟩ := info_parts Tryd.infoSession
  have hrz : ∀ ty, (Builtin.append_ #[26, 26] ty #[.slice (some ⟨g, 0, none⟩) n n, .slice (some ⟨vb, 0, none⟩) 1 vc]).run Tryd.prog w = _ := fun ty =>
    run_append_grow (w := w) 26 ty 74 i0 _ (by kernel_rfl) hi0 hz0 ⟨g, 0, none⟩ n n cs (by rw [hzs, hcl]) (fun j v h => by rw [Addr.add_lit]; simpa using hcs j v h) ⟨vb, 0, none⟩ 1 vc sesZ (by rw [hzs]; rfl) (fun j v h => by rw [Addr.add_lit]; simpa using hvs j v h) (by omega) (by omega) (by rw [hzb]; exact growslice_fits (by omega) (by omega))
  obtain ⟨G, hG⟩ : ∃ G, G = grownCap w (n + 1) n 74 := ⟨_, rfl⟩; rw [← hG] at hrz
  have hGn : n + 1 ≤ G := by rw [hG]; exact grownCap_ge w _ _ _
  clear hG; obtain ⟨T, hT⟩ : ∃ T : Array Value, T = Builtin.zeroCells (Value.agg #[.int .i64 0, .int .i64 0, .int .i64 0, .slice none 0 0]).cells (G - (n + 1)) := ⟨_, rfl⟩; rw [← hT] at hrz; clear hT; obtain ⟨W1, hW1⟩ : ∃ W1, W1 = w.drew.alloc (.cells (cs.toArray ++ sesZ.toArray ++ T) 74) := ⟨_, rfl⟩; rw [← hW1] at hrz
  have HR : Hid (W1.heap[w.heap.size]? = some (.cells (cs.toArray ++ sesZ.toArray ++ T) 74 (0, 0)) ∧ w.grownBy W1 none) := by
    rw [hW1]; exact ⟨heap_alloc_new w.drew _, grownBy_alloc (grownBy_drew (grownBy_refl _ _)) _⟩
  have HCL : Hid (cs.length = n * 4) := hcl; clear hW1 hcs hvs hcl
  go_enter Tryd.func62, Tryd.ntmps62
  go_wp2_with (at_builtin; refine Lib.wpList_append_run _ rfl _ _ _ _ rfl _ _ rfl rfl _ _ (hrz _) ?_)
  go_ret; refine ⟨G, _, rfl, hGn, HR.out.1, fun j hj => ?_, HR.out.2⟩; have h1 := ins_get cs n n HCL.out (Nat.le_refl _) T.toList j hj; have h2 := HCL.out; rw [← h1, List.take_of_length_le (by omega), List.drop_of_length_le (by omega), ← Array.getElem?_toList]
  simp
set_option maxRecDepth 100000 in
set_option maxHeartbeats 4000000 in
theorem insert_in (g n i vb vc : Nat) (cs : List Value) (w : World) (hi : i < n) (hn : n ≤ 1048576) (hcl : cs.length = n * 4) (hgw : g < w.heap.size) (hvw : vb < w.heap.size) (h1c : ∀ v ∈ cs, v.oneCell' = true)
    (hcs : ∀ j v, cs[j]? = some v → w.cell? ⟨g, j, none⟩ = some v) (hvs : ∀ j v, sesZ[j]? = some v → w.cell? ⟨vb, j, none⟩ = some v) :
    Calls Tryd.prog 62 #[.slice (some ⟨g, 0, none⟩) n n, .int .i64 (i : Int), .slice (some ⟨vb, 0, none⟩) 1 vc] w fun e w' => ∃ (G : Nat) (cur : Array Value), e = .returned (.slice (some ⟨w.heap.size, 0, none⟩) (n + 1) G) ∧ n + 1 ≤ G ∧ w'.heap[w.heap.size]? = some (.cells cur 74 (0, 0)) ∧ (∀ j, j < n * 4 + 4 → cur[j]? = (cs.take (i * 4) ++ sesZ ++ cs.drop (i * 4))[j]?) ∧ w.grownBy w' none := by
  obtain ⟨i0, hi0, hz0, hzs, hzb⟩ := info_parts Tryd.infoSession
  have hsz : (Tryd.prog.info? 74).map (·.size) = some 4 := by rw [hi0]; simp [hzs]
  have hkk : (n : Int) + 1 - (i : Int) = ((n + 1 - i : Nat) : Int) := by omega
  have hik : i + (n + 1 - i) = n + 1 := by omega
  have hu : Tryd.prog.underlying 26 = some (.slice 74) := by kernel_rfl
  have hold : (Builtin.firstCells i0.size i (.slice (some ⟨g, 0, none⟩) i n)).run Tryd.prog w.drew = .ok (cs.take (i * 4)).toArray w.drew := by
    rw [hzs]
    exact run_firstCells_some w.drew 4 i ⟨g, 0, none⟩ i n (cs.take (i * 4)) (by rw [List.length_take]; omega) (fun j v hj => by
      rw [Addr.add_lit]; rw [List.getElem?_take] at hj
      split at hj
      · simpa using hcs j v hj
      · cases hj)
  have hrz : ∀ ty, (Builtin.append_ #[26, 3] ty #[.slice (some ⟨g, 0, none⟩) i n, .int .i64 ((n : Int) + 1 - (i : Int))]).run Tryd.prog w =
      .ok (.slice (some ⟨w.heap.size, 0, none⟩) (n + 1) (grownCap w (n + 1) n 74)) (w.drew.alloc (.cells ((cs.take (i * 4)).toArray ++ Builtin.zeroCells (Value.agg #[.int .i64 0, .int .i64 0, .int .i64 0, .slice none 0 0]).cells (n + 1 - i) ++ Builtin.zeroCells (Value.agg #[.int .i64 0, .int .i64 0, .int .i64 0, .slice none 0 0]).cells (grownCap w (n + 1) n 74 - (n + 1))) 74)) := fun ty => by
    have h := Lib.run_append_grow_zeros w 26 3 ty 74 i0 _ .i64 .i64 hu (by kernel_rfl) hi0 hz0 (some ⟨g, 0, none⟩) i n (cs.take (i * 4)) hold (n + 1 - i) (by omega) (by omega) (by omega) (by omega) (by rw [hzb]; omega) (by rw [hzb, hik]; exact growslice_fits (by omega) (by omega)); rw [hik] at h; rw [hkk]; exact h
  obtain ⟨G, hG⟩ : ∃ G, G = grownCap w (n + 1) n 74 := ⟨_, rfl⟩; rw [← hG] at hrz
  have hGn : n + 1 ≤ G := by rw [hG]; exact grownCap_ge w _ _ _
  have hG63 : G ≤ 9223372036854775807 := by
    have := grownCap_le_maxLen w (n + 1) n 74 (by unfold maxLen; omega); rw [← hG] at this
    unfold maxLen at this
    omega
  clear hG; obtain ⟨ROW, hROW⟩ : ∃ ROW : Array Value, ROW = (cs.take (i * 4)).toArray ++ Builtin.zeroCells (Value.agg #[.int .i64 0, .int .i64 0, .int .i64 0, .slice none 0 0]).cells (n + 1 - i) ++ Builtin.zeroCells (Value.agg #[.int .i64 0, .int .i64 0, .int .i64 0, .slice none 0 0]).cells (G - (n + 1)) := ⟨_, rfl⟩; rw [← hROW] at hrz
  have hzl : ∀ k, (Builtin.zeroCells (Value.agg #[.int .i64 0, .int .i64 0, .int .i64 0, .slice none 0 0]).cells k).size = k * 4 := fun k => by simp [Builtin.zeroCells, Value.cells]
  have hRl : n * 4 + 4 ≤ ROW.size := by
    rw [hROW]; simp only [Array.size_append, List.size_toArray, List.length_take, hzl]
    omega
  have hRt : ROW.toList.take (i * 4) = cs.take (i * 4) := by
    rw [hROW]; simp only [Array.toList_append, List.append_assoc]; rw [List.take_append_of_le_length (by simp; omega), List.take_of_length_le (by simp; omega)]
  clear hROW hzl; obtain ⟨R1, hR1⟩ : ∃ R1 : Array Value, R1 = (ROW.toList.take (i * 4) ++ sesZ ++ ROW.toList.drop (i * 4 + sesZ.length)).toArray := ⟨_, rfl⟩
  have hR1l : R1.size = ROW.size := by rw [hR1]; simp [sesZ]; omega
  obtain ⟨R2, hR2⟩ : ∃ R2 : Array Value, R2 = (R1.toList.take (i * 4 + 4) ++ cs.drop (i * 4) ++ R1.toList.drop (i * 4 + 4 + (cs.drop (i * 4)).length)).toArray := ⟨_, rfl⟩
  have HROW : Hid (∀ j, j < n * 4 + 4 → R2[j]? = (cs.take (i * 4) ++ sesZ ++ cs.drop (i * 4))[j]?) := fun j hj => by
    have h1 : R1.toList.take (i * 4 + 4) = cs.take (i * 4) ++ sesZ := by
      rw [hR1]; simp only []; rw [hRt, List.take_append_of_le_length (by simp [sesZ]; omega), List.take_of_length_le (by simp [sesZ]; omega)]
    rw [hR2, List.getElem?_toArray, h1]; exact ins_get cs n i hcl (by omega) _ j hj
  obtain ⟨W1, hW1⟩ : ∃ W1, W1 = w.drew.alloc (.cells ROW 74) := ⟨_, rfl⟩
  have hB1 : W1.heap[w.heap.size]? = some (.cells ROW 74 (0, 0)) := by rw [hW1]; exact heap_alloc_new w.drew _
  have hOl : ∀ k j, k < w.heap.size → W1.cell? ⟨k, j, none⟩ = w.cell? ⟨k, j, none⟩ := fun k j hk => by rw [hW1, World.cell?_alloc_past (w := w.drew) _ k j hk]; rfl
  have hcpA : ∀ (W : World), W.heap = W1.heap → ∀ ty dc, (Builtin.copy_ #[26, 26] ty #[.slice (some ⟨w.heap.size, i * 4, none⟩) (n + 1 - i) dc, .slice (some ⟨vb, 0, none⟩) 1 vc]).run Tryd.prog W = .ok (goInt 1) (W.setRow w.heap.size R1) := fun W hW ty dc => by
    have hc : ∀ x, W.cell? x = W1.cell? x := fun x => by simp only [World.cell?, hW]
    rw [hR1]; exact run_copy_rows W _ _ ty 74 4 w.heap.size (i * 4) (n + 1 - i) dc ⟨vb, 0, none⟩ 1 vc ROW _ sesZ hu hsz (by rw [hW]; exact hB1) 1 (by simp only [Nat.min_def]; split <;> omega) rfl
      (fun j v hj => by rw [Addr.add_lit, hc, hOl _ _ hvw]; simpa using hvs j v hj) (by simp [sesZ]; omega) (by simp [sesZ, Value.oneCell'])
  have hdl : (cs.drop (i * 4)).length = (n - i) * 4 := by rw [List.length_drop, hcl]; omega
  have hcpB : ∀ (W : World), W.heap = (W1.setRow w.heap.size R1).heap → ∀ ty dc sc, (Builtin.copy_ #[26, 26] ty #[.slice (some ⟨w.heap.size, (i + 1) * 4, none⟩) (n + 1 - (i + 1)) dc, .slice (some ⟨g, i * 4, none⟩) (n - i) sc]).run Tryd.prog W = .ok (goInt ((n - i : Nat) : Int)) (W.setRow w.heap.size R2) := fun W hW ty dc sc => by
    have hc : ∀ k j, k < w.heap.size → W.cell? ⟨k, j, none⟩ = W1.cell? ⟨k, j, none⟩ := fun k j hk => by
      simp only [World.cell?, hW]; rw [setRow_other _ _ _ _ (by omega)]
    rw [hR2, show i * 4 + 4 = (i + 1) * 4 by omega]; exact run_copy_rows W _ _ ty 74 4 w.heap.size ((i + 1) * 4) (n + 1 - (i + 1)) dc ⟨g, i * 4, none⟩ (n - i) sc R1 74 (cs.drop (i * 4)) hu hsz (by rw [hW]; exact setRow_heap W1 _ ROW _ _ _ hB1) (n - i) (by simp only [Nat.min_def]; split <;> omega) hdl
      (fun j v hj => by
        rw [Addr.add_lit, hc _ _ hgw, hOl _ _ hgw]
        exact hcs (i * 4 + j) v (by rwa [List.getElem?_drop] at hj)) (by rw [hdl, hR1l]; omega) (fun v hv => h1c v (List.mem_of_mem_drop hv))
  have mixed : Tryd.prog.follows .mixedOrders = true := by kernel_rfl
  have hGi : ¬ (G = i) := by omega
  have hGim : ¬ (G = i + 1) := by omega
  have hni : ¬ (n = i) := by omega
  have hz2 : ¬ ((i : Int) = (n : Int)) := by omega
  have hw1 : IntKind.i64.wrap ((i : Int) + 1) = (i : Int) + 1 := by rw [IntKind.wrap_i64]; omega
  have htn : ((i : Int) + 1).toNat = i + 1 := by omega
  have hb1 : (0 : Int) ≤ (i : Int) + 1 := by omega
  have hb3 : (i : Int) ≤ (n : Int) := by omega
  have hE1 : ((w.alloc (.cells ROW 74)).drew).heap = W1.heap := by rw [hW1]; rfl
  have hF1 : (((w.alloc (.cells ROW 74)).drew.setRow w.heap.size R1).drew).heap = (W1.setRow w.heap.size R1).heap := by rw [hW1]; rfl
  have HEND : Hid (∀ W : World, W.heap = (W1.setRow w.heap.size R1).heap → W.os = w.os → W.tape = w.tape → W.output = w.output → (W.setRow w.heap.size R2).heap[w.heap.size]? = some (.cells R2 74 (0, 0)) ∧ w.grownBy (W.setRow w.heap.size R2) none) := by
    intro W hW ho ht hp
    have hb : W.heap[w.heap.size]? = some (.cells R1 74 (0, 0)) := by rw [hW]; exact setRow_heap W1 _ ROW _ _ _ hB1
    have hs : W.heap.size = w.heap.size + 1 := by rw [hW, hW1]; simp [World.setRow]
    refine ⟨setRow_heap W _ R1 _ _ _ hb, ⟨ho, ht, hp, by simp [World.setRow, hs], fun k hk _ => ?_⟩⟩; rw [setRow_other _ _ _ _ (by omega), hW, setRow_other _ _ _ _ (by omega), hW1]; exact (World.grownBy_alloc w.drew _ none).block k hk (by simp)
  clear hkk hik hold hRl hRt hR1 hR1l hR2 hdl hB1 hOl hcs hvs h1c hcl hW1
  go_enter Tryd.func62, Tryd.ntmps62
  go_wp2_with (first
    | (at_builtin; refine Lib.wpList_append_run _ rfl _ _ _ _ rfl _ _ rfl rfl _ _ (hrz _) ?_)
    | (at_builtin; refine wpList_copy_runI _ rfl _ _ 26 26 rfl _ _ rfl rfl (hcpA _ hE1 _ _) ?_))
  go_region_law_o (refine step_copy_runI rfl _ _ 26 26 rfl (.slice (some ⟨w.heap.size, (i + 1) * 4, none⟩) (n + 1 - (i + 1)) (G - (i + 1))) (.slice (some ⟨g, i * 4, none⟩) (n - i) (n - i)) (by simp [Act.eval, Act.put]) (by simp [Act.eval, Act.put]) (hcpB _ hF1 3 (G - (i + 1)) (n - i)) ?_)
  go_wp2; go_ret; exact ⟨G, R2, rfl, hGn, (HEND.out _ hF1 rfl rfl rfl).1, HROW.out, (HEND.out _ hF1 rfl rfl rfl).2⟩
theorem cell_set_ne (w : World) (a o c q : Nat) (v : Value) (h : c ≠ a) : (w.setCell ⟨a, o, none⟩ v).cell? ⟨c, q, none⟩ = w.cell? ⟨c, q, none⟩ := by
  simp only [World.cell?]; rw [heap_setCell_other _ _ _ _ h]
/-- the world with a session laid at k -/
def put4 (w : World) (g k : Nat) (a b c d : Value) : World := (((w.setCell ⟨g, k * 4, none⟩ a).setCell ⟨g, k * 4 + 1, none⟩ b).setCell ⟨g, k * 4 + 2, none⟩ c).setCell ⟨g, k * 4 + 3, none⟩ d
theorem put4_other (w : World) (g k j : Nat) (a b c d : Value) (h : j ≠ g) : (put4 w g k a b c d).heap[j]? = w.heap[j]? := by
  unfold put4
  rw [heap_setCell_other _ _ _ _ h, heap_setCell_other _ _ _ _ h, heap_setCell_other _ _ _ _ h, heap_setCell_other _ _ _ _ h]
theorem put4_same (w : World) (g k : Nat) (a b c d : Value) (cur : Array Value) (t : TypeId) (h : w.heap[g]? = some (.cells cur t (0, 0))) (hs : k * 4 + 4 ≤ cur.size) :
    ∃ cur' : Array Value, (put4 w g k a b c d).heap[g]? = some (.cells cur' t (0, 0)) ∧ cur'[k * 4]? = some a ∧ cur'[k * 4 + 1]? = some b ∧ cur'[k * 4 + 2]? = some c ∧ cur'[k * 4 + 3]? = some d ∧ ∀ j, (j < k * 4 ∨ k * 4 + 4 ≤ j) → cur'[j]? = cur[j]? := by
  have h1 := heap_setCell_same w g (k * 4) cur t a h; have h2 := heap_setCell_same _ g (k * 4 + 1) _ t b h1; have h3 := heap_setCell_same _ g (k * 4 + 2) _ t c h2; have h4 := heap_setCell_same _ g (k * 4 + 3) _ t d h3; refine ⟨_, h4, ?_, ?_, ?_, ?_, fun j hj => ?_⟩
  all_goals simp only [Array.getElem?_setIfInBounds, Array.size_setIfInBounds]
  · simp; omega
  · simp; omega
  · simp; omega
  · simp; omega
  · rw [if_neg (by omega), if_neg (by omega), if_neg (by omega), if_neg (by omega)]
/-- .. as elements -/
theorem el_put4 {w : World} {g k : Nat} {cur : Array Value} {L : List El} {x : El} {n0 n1 n2 : Int} (hg : w.heap[g]? = some (.cells cur 74 (0, 0))) (hs : k * 4 + 4 ≤ cur.size)
    (hrest : ∀ (i : Nat) (y : El), L[i]? = some y → i ≠ k → y.hd.length = 3 ∧ (∀ (j : Nat) (n : Int), y.hd[j]? = some n → cur[i * 4 + j]? = some (.int .i64 n)) ∧ cur[i * 4 + 3]? = some (.slice (oad y.o) y.d.length y.cp))
    (hk : L[k]? = some x) (hx : x.hd = [n0, n1, n2])
    (hown : ∀ (i : Nat) (y : El), L[i]? = some y → OwnS (put4 w g k (.int .i64 n0) (.int .i64 n1) (.int .i64 n2) (.slice (oad x.o) x.d.length x.cp)) 5 (oad y.o) y.d.length y.d ∧ (y.o = none → y.cp = 0))
    (hfar : ∀ (i j : Nat) (x y : El) (k : Nat), L[i]? = some x → L[j]? = some y → x.o = some k → y.o = some k → i = j) :
    ElAt (put4 w g k (.int .i64 n0) (.int .i64 n1) (.int .i64 n2) (.slice (oad x.o) x.d.length x.cp)) 74 3 g L := by
  obtain ⟨cur', h1, a0, a1, a2, a3, ao⟩ := put4_same w g k (.int .i64 n0) (.int .i64 n1) (.int .i64 n2) (.slice (oad x.o) x.d.length x.cp) cur _ hg hs; refine ⟨⟨cur', h1, fun i y hy => ?_⟩, fun i y hy => ⟨?_, hown i y hy⟩, hfar⟩
  · by_cases hik : i = k
    · subst hik; rw [hk] at hy; obtain rfl := Option.some.inj hy; refine ⟨fun j n hj => ?_, a3⟩; rw [hx] at hj
      match j, hj with
      | 0, hj => simp at hj; subst hj; exact a0
      | 1, hj => simp at hj; subst hj; exact a1
      | 2, hj => simp at hj; subst hj; exact a2
      | j + 3, hj => simp at hj
    · obtain ⟨hl, h2, h3⟩ := hrest i y hy hik; refine ⟨fun j n hj => ?_, ?_⟩
      · have hj3 : j < 3 := by have := (List.getElem?_eq_some_iff.1 hj).1; omega
        exact (ao _ (by omega)).trans (h2 j n hj)
      · exact (ao _ (by omega)).trans h3
  · by_cases hik : i = k
    · subst hik; rw [hk] at hy; obtain rfl := Option.some.inj hy; rw [hx]; rfl
    · exact (hrest i y hy hik).1
/-- one operation 'append' of a region that draws, where its run is known -/
theorem step_append_ex {P : Program} {ops : Array Oper} {o : Oper} {a : Act} {w : World} {K : Act → World → Prop} {Q : Exit → Act → World → Prop} {E : Prop} {R : Nat → World → Prop} {ad : Addr} {n : Nat}
    (hg : o.guard = none) (s x : Operand) (t : TypeId) (hop : o.op = Op.call { callee := Callee.builtin Builtin.append, args := #[s, x], argTypes := #[t, t] })
    (vs vx : Value) (hs : a.eval s = vs) (hx : a.eval x = vx) (hr : ∀ ty, ∃ (G : Nat) (w' : World), (Builtin.append_ #[t, t] ty #[vs, vx]).run P w = .ok (.slice (some ad) n G) w' ∧ R G w') (hK : ∀ (G : Nat) (w' : World), R G w' → K (a.put o.dst (.slice (some ad) n G)) w') :
    if Region.wanted o (yielded ops a.tmps) = true then Oper.wp P o a w K Q else E := by
  have hw : Region.wanted o (yielded ops a.tmps) = true := by simp [Region.wanted, hg]
  rw [if_pos hw]; obtain ⟨G, w', h1, h2⟩ := hr o.type
  unfold Oper.wp
  simp [execOp, hop, resolve, invoke, builtin, hs, hx, h1, Result.andThen]
  exact hK G w' h2
/-- the cells of a row of elements -/
theorem el_cells_len {x : El} {m : Nat} (h : x.hd.length = m) : x.cells.length = m + 1 := by simp [El.cells, h]
theorem elflat_len (m : Nat) (L : List El) (h : ∀ x ∈ L, x.hd.length = m) : (L.flatMap El.cells).length = L.length * (m + 1) := by
  induction L with
  | nil => simp
  | cons x L ih =>
    have h1 := ih (fun y hy => h y (List.mem_cons_of_mem _ hy)); have h2 := el_cells_len (h x (by simp)); rw [List.flatMap_cons, List.length_append, h1, h2, List.length_cons, Nat.add_mul]
    omega
theorem elflat_get (m : Nat) (L : List El) (h : ∀ x ∈ L, x.hd.length = m) : ∀ (i : Nat) (x : El) (j : Nat), L[i]? = some x → j < m + 1 → (L.flatMap El.cells)[i * (m + 1) + j]? = x.cells[j]? := by
  induction L with
  | nil => intro i x j hx; simp at hx
  | cons y L ih =>
    intro i x j hx hj; have h2 := el_cells_len (h y (by simp)); rw [List.flatMap_cons]
    cases i with
    | zero =>
      simp at hx; subst hx
      rw [List.getElem?_append_left (by omega)]
      simp
    | succ i =>
      rw [List.getElem?_append_right (by rw [h2, Nat.add_mul]; omega), h2, show (i + 1) * (m + 1) + j - (m + 1) = i * (m + 1) + j by rw [Nat.add_mul]; omega]; exact ih (fun y hy => h y (List.mem_cons_of_mem _ hy)) i x j (by simpa using hx) hj
theorem ElAt.hds {w : World} {t : TypeId} {m g : Nat} {L : List El} (h : ElAt w t m g L) : ∀ x ∈ L, x.hd.length = m := fun x hx => by
  obtain ⟨i, hi⟩ := List.getElem?_of_mem hx; exact (h.own i x hi).1
theorem ElAt.flat {w : World} {t : TypeId} {m g : Nat} {L : List El} (h : ElAt w t m g L) : ∀ j v, (L.flatMap El.cells)[j]? = some v → w.cell? ⟨g, j, none⟩ = some v := by
  intro j v hv; have hl := elflat_len m L h.hds; have hj := (List.getElem?_eq_some_iff.1 hv).1; rw [hl] at hj
  have hm : 0 < m + 1 := by omega
  have hi : j / (m + 1) < L.length := by rw [Nat.div_lt_iff_lt_mul hm]; exact hj
  have hr : j % (m + 1) < m + 1 := Nat.mod_lt _ hm
  have he : j / (m + 1) * (m + 1) + j % (m + 1) = j := by rw [Nat.mul_comm]; exact Nat.div_add_mod _ _
  have hx := List.getElem?_eq_getElem hi; have h1 := elflat_get m L h.hds _ _ _ hx hr; rw [he, hv] at h1; have hd := (h.own _ _ hx).1; generalize j / (m + 1) = i at *; generalize j % (m + 1) = r at *; subst he
  by_cases hrm : r < m
  · rw [El.cells, List.getElem?_append_left (by simp; omega), List.getElem?_map] at h1; obtain ⟨n, hn⟩ : ∃ n, (L[i].hd)[r]? = some n := ⟨(L[i].hd)[r]'(by omega), List.getElem?_eq_getElem (by omega)⟩; rw [hn] at h1
    simp at h1
    rw [h1]; exact h.cell hx hn
  · obtain rfl : r = m := by omega
    rw [El.cells, List.getElem?_append_right (by simp; omega)] at h1
    simp [hd] at h1
    rw [h1]; exact h.slice hx
theorem elflat_one (L : List El) : ∀ v ∈ L.flatMap El.cells, v.oneCell' = true := by
  intro v hv; obtain ⟨x, -, hx⟩ := List.mem_flatMap.1 hv
  rcases List.mem_append.1 hx with h | h
  · obtain ⟨n, -, rfl⟩ := List.mem_map.1 h
    rfl
  · obtain rfl : v = _ := by simpa using h
    rfl
/-- a row that begins with elements' cells -/
theorem el_of_flat {w : World} {t : TypeId} {m g : Nat} {L : List El} {cur : Array Value} (hg : w.heap[g]? = some (.cells cur t (0, 0))) (hc : ∀ j, j < L.length * (m + 1) → cur[j]? = (L.flatMap El.cells)[j]?)
    (hown : ∀ (i : Nat) (x : El), L[i]? = some x → x.hd.length = m ∧ OwnS w 5 (oad x.o) x.d.length x.d ∧ (x.o = none → x.cp = 0))
    (hfar : ∀ (i j : Nat) (x y : El) (k : Nat), L[i]? = some x → L[j]? = some y → x.o = some k → y.o = some k → i = j) : ElAt w t m g L := by
  have hds : ∀ x ∈ L, x.hd.length = m := fun x hx => by
    obtain ⟨i, hi⟩ := List.getElem?_of_mem hx; exact (hown i x hi).1
  refine ⟨⟨cur, hg, fun i x hx => ?_⟩, hown, hfar⟩; have hi : i < L.length := (List.getElem?_eq_some_iff.1 hx).1; have hle : (i + 1) * (m + 1) ≤ L.length * (m + 1) := Nat.mul_le_mul_right _ hi; rw [Nat.add_mul] at hle; have hd := (hown i x hx).1; refine ⟨fun j n hj => ?_, ?_⟩
  · have hj' := (List.getElem?_eq_some_iff.1 hj).1; rw [hc _ (by omega), elflat_get m L hds i x j hx (by omega), El.cells, List.getElem?_append_left (by simp; omega), List.getElem?_map, hj]
    rfl
  · rw [hc _ (by omega), elflat_get m L hds i x m hx (by omega), El.cells, List.getElem?_append_right (by simp; omega)]
    simp [hd]
theorem ownS_kept {w w' : World} {e : TypeId} {o : Option Nat} {n : Nat} {zs : List Nat} (h : OwnS w e (oad o) n zs) (hk : ∀ g, o = some g → g < w.heap.size → w'.heap[g]? = w.heap[g]?) : OwnS w' e (oad o) n zs := by
  obtain ⟨h1, h2⟩ := h; refine ⟨h1, ?_⟩
  rcases h2 with h2 | ⟨b, hb, hOb⟩
  · exact .inl h2
  · refine .inr ⟨b, hb, hOb.of_block (hk b ?_ hOb.lt)⟩
    cases ho : o with
    | none => rw [ho] at hb; cases hb
    | some c => rw [ho] at hb; simpa [oad] using hb
theorem ElAt.blt {w : World} {t : TypeId} {m g : Nat} {L : List El} (h : ElAt w t m g L) {i : Nat} {x : El} (hx : L[i]? = some x) {b : Nat} (hb : x.o = some b) : b < w.heap.size := (ownS_blk (h.own i x hx).2.1 hb).lt
theorem el_replace {w w4 : World} {gs k gd cd : Nat} {S : List El} {x : El} {n0 n1 n2 : Int} {d : List Nat} (hS : ElAt w 74 3 gs S) (hx : S[k]? = some x) (hG : w.grownBy w4 none) (hgd : w.heap.size ≤ gd) (hO : Own w4 5 gd d) :
    ElAt (put4 w4 gs k (.int .i64 n0) (.int .i64 n1) (.int .i64 n2) (.slice (some ⟨gd, 0, none⟩) d.length cd)) 74 3 gs (S.set k ⟨[n0, n1, n2], d, some gd, cd⟩) := by
  obtain ⟨cur, h1, h2⟩ := hS.row; have hgl := hS.lt; have hk : k < S.length := (List.getElem?_eq_some_iff.1 hx).1; have h1' := (hG.block _ hgl (by simp)).trans h1; have h3 := (Array.getElem?_eq_some_iff.1 (h2 k x hx).2).1; refine el_put4 (x := ⟨[n0, n1, n2], d, some gd, cd⟩) h1' (by omega) (fun i y hy hik => ?_) (List.getElem?_set_self hk) rfl (fun i y hy => ?_) (fun i j y z b hy hz hyo hzo => ?_)
  · rcases el_set_get hk hy with ⟨h, _⟩ | ⟨_, hy'⟩
    · exact absurd h hik
    · exact ⟨(hS.own i y hy').1, (h2 i y hy').1, (h2 i y hy').2⟩
  · rcases el_set_get hk hy with ⟨rfl, rfl⟩ | ⟨_, hy'⟩
    · exact ⟨(hO.of_block (put4_other _ _ _ _ _ _ _ _ (by omega))).s rfl, fun h => by cases h⟩
    · refine ⟨ownS_kept (hS.own i y hy').2.1 (fun g hg hgw => ?_), (hS.own i y hy').2.2⟩; rw [put4_other _ _ _ _ _ _ _ _ (hS.ne (by decide) hy' hg)]; exact hG.block g hgw (by simp)
  · rcases el_set_get hk hy with ⟨rfl, rfl⟩ | ⟨_, hy'⟩
    · rcases el_set_get hk hz with ⟨rfl, rfl⟩ | ⟨_, hz'⟩
      · rfl
      · have := hS.blt hz' hzo
        have : gd = b := by simpa using hyo
        omega
    · rcases el_set_get hk hz with ⟨rfl, rfl⟩ | ⟨_, hz'⟩
      · have := hS.blt hy' hyo
        have : gd = b := by simpa using hzo
        omega
      · exact hS.far i j y z b hy' hz' hyo hzo
/-- an item behind the kept ones, in a new row -/
theorem el_behind {w w6 : World} {gk g gx cx : Nat} {K : List El} {n0 n1 : Int} {d : List Nat} {T : Array Value} (hK : ElAt w 32 2 gk K) (hkeep : ∀ j, j < w.heap.size → (∃ x ∈ K, x.o = some j) → w6.heap[j]? = w.heap[j]?)
    (hg : w6.heap[g]? = some (.cells ((K.flatMap El.cells).toArray ++ #[.int .i64 n0, .int .i64 n1, .slice (some ⟨gx, 0, none⟩) d.length cx] ++ T) 32 (0, 0))) (hgx : w.heap.size ≤ gx) (hO : Own w6 5 gx d) :
    ElAt w6 32 2 g (K ++ [⟨[n0, n1], d, some gx, cx⟩]) := by
  have hget : ∀ {i : Nat} {y : El}, (K ++ [⟨[n0, n1], d, some gx, cx⟩])[i]? = some y → (K[i]? = some y) ∨ (i = K.length ∧ y = ⟨[n0, n1], d, some gx, cx⟩) := fun {i y} h => by
    rcases Nat.lt_or_ge i K.length with hi | hi
    · rw [List.getElem?_append_left hi] at h; exact .inl h
    · rw [List.getElem?_append_right hi] at h
      have : i - K.length < 1 := by have := (List.getElem?_eq_some_iff.1 h).1; simpa using this
      have hi' : i = K.length := by omega
      subst hi'
      simp at h
      exact .inr ⟨rfl, h.symm⟩
  have hfl : (K ++ [(⟨[n0, n1], d, some gx, cx⟩ : El)]).flatMap El.cells = K.flatMap El.cells ++ [.int .i64 n0, .int .i64 n1, .slice (some ⟨gx, 0, none⟩) d.length cx] := by
    rw [List.flatMap_append]
    simp [El.cells, oad]
  refine el_of_flat hg (fun j hj => ?_) (fun i y hy => ?_) (fun i j y z b hy hz hyo hzo => ?_)
  · have hl := elflat_len 2 K hK.hds; rw [hfl, ← Array.getElem?_toList]; simp only [Array.toList_append]; rw [List.getElem?_append_left (by simp at hj ⊢; rw [← List.length_flatMap] ; omega)]
  · rcases hget hy with h | ⟨rfl, rfl⟩
    · exact ⟨(hK.own i y h).1, ownS_kept (hK.own i y h).2.1 (fun g' hg' hlt => hkeep g' hlt ⟨y, List.mem_of_getElem? h, hg'⟩), (hK.own i y h).2.2⟩
    · exact ⟨rfl, hO.s rfl, fun h => by cases h⟩
  · rcases hget hy with h | ⟨rfl, rfl⟩ <;> rcases hget hz with h' | ⟨rfl, rfl⟩
    · exact hK.far i j y z b h h' hyo hzo
    · have := hK.blt h hyo
      have : gx = b := by simpa using hzo
      omega
    · have := hK.blt h' hzo
      have : gx = b := by simpa using hyo
      omega
    · rfl
/-- the append of an item onto a full row -/
theorem run_keep {X : World} {gk kn u : Nat} {K : List El} {a b c : Value} (hK : ElAt X 32 2 gk K) (hl : K.length = kn) (hu : X.heap[u]? = some (.cells #[a, b, c] 32 (0, 0))) (hkn : kn ≤ 1048576) (ty : TypeId) :
    ∃ (G : Nat) (w' : World), (Builtin.append_ #[25, 25] ty #[.slice (some ⟨gk, 0, none⟩) kn kn, .slice (some ⟨u, 0, none⟩) 1 1]).run Tryd.prog X = .ok (.slice (some ⟨X.heap.size, 0, none⟩) (kn + 1) G) w' ∧ kn + 1 ≤ G ∧ X.grownBy w' none ∧ ∃ T : Array Value, w'.heap[X.heap.size]? = some (.cells ((K.flatMap El.cells).toArray ++ #[a, b, c] ++ T) 32 (0, 0)) := by
  obtain ⟨i0, hi0, hz0, hzs, hzb⟩ := info_parts Tryd.infoItem
  have h := run_append_grow (w := X) 25 ty 32 i0 _ (by kernel_rfl) hi0 hz0 ⟨gk, 0, none⟩ kn kn (K.flatMap El.cells) (by rw [hzs, elflat_len 2 K hK.hds, hl]) (fun j v h => by rw [Addr.add_lit]; simpa using hK.flat j v h) ⟨u, 0, none⟩ 1 1 [a, b, c] (by rw [hzs]; rfl) (fun j v h => by
    rw [Addr.add_lit]; simp only [World.cell?, Nat.zero_add, hu]; rw [← Array.getElem?_toList]
    exact h) (by omega) (by omega) (by rw [hzb]; exact growslice_fits (by omega) (by omega))
  exact ⟨_, _, h, grownCap_ge X _ _ _, grownBy_alloc (grownBy_drew (grownBy_refl _ _)) _, _, heap_alloc_new X.drew _⟩
/-- the end of an apply that keeps its item -/
theorem keep_end {w w4 W5 w6 : World} {p gs gk gx cx G kn : Nat} {b : Int} {v1 v2 : Value} {K S' : List El} {n0 n1 : Int} {d : List Nat} {n : Nat} {T cw : Array Value} (hpw : w.heap[p]? = some (.cells cw 28 (0, 0)))
    (hK : ElAt w 32 2 gk K) (hne : ∀ j, (∃ x ∈ K, x.o = some j) → j ≠ gs) (hG4 : Only (fun j => j = p) w w4) (hos : W5.os = w4.os) (htp : W5.tape = w4.tape) (hou : W5.output = w4.output) (hsz : W5.heap.size = w4.heap.size) (hoth : ∀ j, j ≠ gs → W5.heap[j]? = w4.heap[j]?)
    (hp5 : W5.heap[p]? = some (.cells #[.int .i64 b, v1, v2] 28 (0, 0))) (hO5 : Own W5 5 gx d) (hS5 : ElAt W5 74 3 gs S') (h6 : W5.grownBy w6 none) (hgx : w.heap.size ≤ gx) (hl : d.length = n)
    (hrow : w6.heap[W5.heap.size + 1]? = some (.cells ((K.flatMap El.cells).toArray ++ #[.int .i64 n0, .int .i64 n1, .slice (some ⟨gx, 0, none⟩) n cx] ++ T) 32 (0, 0))) :
    (w6.setCell ⟨p, 1, none⟩ (.slice (some ⟨W5.heap.size + 1, 0, none⟩) (kn + 1) G)).heap[p]? = some (.cells #[.int .i64 b, .slice (some ⟨W5.heap.size + 1, 0, none⟩) (kn + 1) G, v2] 28 (0, 0)) ∧
    ElAt (w6.setCell ⟨p, 1, none⟩ (.slice (some ⟨W5.heap.size + 1, 0, none⟩) (kn + 1) G)) 32 2 (W5.heap.size + 1) (K ++ [⟨[n0, n1], d, some gx, cx⟩]) ∧
    ElAt (w6.setCell ⟨p, 1, none⟩ (.slice (some ⟨W5.heap.size + 1, 0, none⟩) (kn + 1) G)) 74 3 gs S' ∧ w.heap.size ≤ W5.heap.size + 1 ∧ Only (fun j => j = p ∨ j = gs) w (w6.setCell ⟨p, 1, none⟩ (.slice (some ⟨W5.heap.size + 1, 0, none⟩) (kn + 1) G)) := by
  subst hl; have hpl : p < W5.heap.size := (Array.getElem?_eq_some_iff.1 hp5).1; have hp6 := (h6.block p hpl (by simp)).trans hp5
  have h7 : ∀ j, j ≠ p → (w6.setCell ⟨p, 1, none⟩ (.slice (some ⟨W5.heap.size + 1, 0, none⟩) (kn + 1) G)).heap[j]? = w6.heap[j]? := fun j hj => heap_setCell_other _ _ _ _ hj
  have hold : ∀ j, j < w.heap.size → j ≠ p → j ≠ gs → (w6.setCell ⟨p, 1, none⟩ (.slice (some ⟨W5.heap.size + 1, 0, none⟩) (kn + 1) G)).heap[j]? = w.heap[j]? := fun j hj h1 h2 => by
    rw [h7 j h1, h6.block j (by rw [hsz]; exact Nat.lt_of_lt_of_le hj hG4.size) (by simp), hoth j h2, hG4.block j hj h1]
  have hgp : gx ≠ p := fun e => by subst e; exact absurd (own_type hO5 hp5) (by decide)
  refine ⟨?_, el_behind hK (fun j hj hx => hold j hj ?_ (hne j hx)) ((h7 _ (by omega)).trans hrow) hgx ((hO5.grown h6 (by simp)).of_block (h7 gx hgp)), hS5.kept (fun j hj hjk => ?_), ?_, ?_⟩
  · rw [heap_setCell_same w6 p 1 _ _ _ hp6]
    rfl
  · rintro rfl; obtain ⟨x, hx, ho⟩ := hx; obtain ⟨i, hi⟩ := List.getElem?_of_mem hx; exact absurd (own_type (ownS_blk (hK.own i x hi).2.1 ho) hpw) (by decide)
  · have hjp : j ≠ p := by
      rintro rfl
      rcases hjk with rfl | ⟨x, hx, ho⟩
      · obtain ⟨cur, h1, -⟩ := hS5.row; rw [hp5] at h1
        simp at h1
      · obtain ⟨i, hi⟩ := List.getElem?_of_mem hx; exact absurd (own_type (ownS_blk (hS5.own i x hi).2.1 ho) hp5) (by decide)
    exact (h7 j hjp).trans (h6.block j hj (by simp))
  · have := hG4.size; omega
  · refine ⟨?_, ?_, ?_, ?_, fun j hj hn => hold j hj (fun e => hn (.inl e)) (fun e => hn (.inr e))⟩
    · show w6.os = _; rw [h6.os, hos, hG4.os]
    · show w6.tape = _; rw [h6.tape, htp, hG4.tape]
    · show w6.output = _; rw [h6.output, hou, hG4.output]
    · have h1 := hG4.size; have h2 := h6.size
      simp
      omega
/-- what an apply that keeps its item leaves -/
def KeepOut (w w' : World) (p : Nat) (b : Int) (kn : Nat) (K : List El) (n0 n1 : Int) (d : List Nat) (SN : El → List El) (T : Nat → Prop) : Prop :=
  ∃ gk kc gx cx gd cd gs sc : Nat, w'.heap[p]? = some (.cells #[.int .i64 b, .slice (some ⟨gk, 0, none⟩) (kn + 1) kc, .slice (some ⟨gs, 0, none⟩) (SN ⟨[n0, n1, b + (kn : Int)], d, some gd, cd⟩).length sc] 28 (0, 0)) ∧ kn + 1 ≤ kc ∧
    ElAt w' 32 2 gk (K ++ [⟨[n0, n1], d, some gx, cx⟩]) ∧ ElAt w' 74 3 gs (SN ⟨[n0, n1, b + (kn : Int)], d, some gd, cd⟩) ∧ w.heap.size ≤ gk ∧ w.heap.size ≤ gx ∧ w.heap.size ≤ gd ∧ gx ≠ gd ∧ (T gs ∨ w.heap.size ≤ gs) ∧ Only (fun j => j = p ∨ T j) w w'
def ElOwn (w : World) (base m : Nat) (x : El) : Prop := x.hd.length = m ∧ OwnS w 5 (oad x.o) x.d.length x.d ∧ (x.o = none → x.cp = 0) ∧ ∀ g, x.o = some g → base ≤ g
structure ElRow (w : World) (base : Nat) (t : TypeId) (m : Nat) (v : Value) (L : List El) : Prop where
  row : w.ownsRow base t (m + 1) v L.length (L.flatMap El.cells)
  own : ∀ x ∈ L, ElOwn w base m x
  nod : (L.filterMap El.o).Nodup
theorem ElOwn.lt {w : World} {base m : Nat} {x : El} (h : ElOwn w base m x) : ∀ g, x.o = some g → g < w.heap.size := fun g hg => h.2.1.lt g (by rw [blk_oad]; exact hg)
theorem ElOwn.grown {w w' : World} {row : Option Nat} {base m : Nat} {x : El} (h : ElOwn w base m x) (hg : w.grownBy w' row) (hne : ∀ g, x.o = some g → some g ≠ row) : ElOwn w' base m x := ⟨h.1, h.2.1.grown hg (fun g e => hne g (by rw [← blk_oad x.o]; exact e)), h.2.2⟩
theorem ElRow.nil (w : World) (base : Nat) (t : TypeId) (m : Nat) : ElRow w base t m (.slice none 0 0) [] := ⟨World.ownsRow_nil _ _ _ _, by simp, by simp⟩
theorem ElRow.lt {w : World} {base m : Nat} {t : TypeId} {v : Value} {L : List El} (h : ElRow w base t m v L) : ∀ g ∈ L.filterMap El.o, base ≤ g ∧ g < w.heap.size := by
  intro g hg; obtain ⟨x, hx, e⟩ := List.mem_filterMap.1 hg; exact ⟨(h.own x hx).2.2.2 g e, (h.own x hx).lt g e⟩
theorem ElRow.grown {w w' : World} {row : Option Nat} {base m : Nat} {t : TypeId} {v : Value} {L : List El} (h : ElRow w base t m v L) (hg : w.grownBy w' row) (hr : ∀ k, row = some k → k < base) : ElRow w' base t m v L := by
  obtain ⟨h1, h2, h3⟩ := h; refine ⟨h1.kept hg ?_, fun x hx => (h2 x hx).grown hg (fun g e e2 => ?_), h3⟩
  · cases hv : v.ownBlock with
    | none => exact .inl rfl
    | some k =>
      refine .inr fun e => ?_
      have h5 := (h1.lt k hv).1; have := hr k e.symm
      omega
  · have h4 := (h2 x hx).2.2.2 g e; have := hr g e2.symm
    omega
theorem ElRow.lower {w : World} {base base' m : Nat} {t : TypeId} {v : Value} {L : List El} (h : ElRow w base t m v L) (hb : base' ≤ base) : ElRow w base' t m v L :=
  ⟨ownsRow_base h.row hb, fun x hx => ⟨(h.own x hx).1, (h.own x hx).2.1, (h.own x hx).2.2.1, fun g e => Nat.le_trans hb ((h.own x hx).2.2.2 g e)⟩, h.nod⟩
/-- nothing of it is touched -/
theorem ElRow.kept {w w' : World} {row : Option Nat} {base m : Nat} {t : TypeId} {v : Value} {L : List El} (h : ElRow w base t m v L) (hg : w.grownBy w' row) (hv : ∀ k, v.ownBlock = some k → row ≠ some k) (hL : ∀ g ∈ L.filterMap El.o, row ≠ some g) : ElRow w' base t m v L := by
  obtain ⟨h1, h2, h3⟩ := h; refine ⟨h1.kept hg ?_, fun x hx => (h2 x hx).grown hg (fun g e e2 => hL g (List.mem_filterMap.2 ⟨x, hx, e⟩) e2.symm), h3⟩
  cases hb : v.ownBlock with
  | none => exact .inl rfl
  | some k => exact .inr fun e => hv k hb e.symm
/-- the row's own block is none of its bytes' -/
theorem ElRow.ne {w : World} {base m : Nat} {t : TypeId} {v : Value} {L : List El} (h : ElRow w base t m v L) (ht : t ≠ 5) {x : El} {base' m' : Nat} (hx : ElOwn w base' m' x) : ∀ g, x.o = some g → some g ≠ v.ownBlock := by
  intro g hyo e; have hgO := ownS_blk hx.2.1 hyo
  rcases h.row.2 with ⟨h0, _⟩ | ⟨g', cap, cur, h0, hb', hg', _⟩
  · rw [h0] at e; simp [Value.ownBlock] at e
  · rw [h0] at e; simp only [Value.ownBlock, Option.some.injEq] at e; subst e; exact ht (own_type hgO hg').symm
/-- two rows of two types have two blocks -/
theorem ElRow.two {w : World} {base m base' m' : Nat} {t t' : TypeId} {v v' : Value} {L L' : List El} (h : ElRow w base t m v L) (h' : ElRow w base' t' m' v' L') (ht : t ≠ t') : ∀ k, v.ownBlock = some k → v'.ownBlock ≠ some k := by
  intro k e e'
  rcases h.row.2 with ⟨h0, _⟩ | ⟨g, cap, cur, h0, hb, hg, _⟩
  · rw [h0] at e; simp [Value.ownBlock] at e
  · rcases h'.row.2 with ⟨h0', _⟩ | ⟨g', cap', cur', h0', hb', hg', _⟩
    · rw [h0'] at e'; simp [Value.ownBlock] at e'
    · rw [h0] at e; rw [h0'] at e'; simp only [Value.ownBlock, Option.some.injEq] at e e'; subst e; subst e'; rw [hg] at hg'; simp only [Option.some.injEq, Obj.cells.injEq] at hg'; exact ht hg'.2.1
/-- an element more: what an append onto the row leaves -/
theorem ElRow.append {w w' : World} {base m : Nat} {t : TypeId} {v v' : Value} {L : List El} {x : El} (h : ElRow w base t m v L) (ht : t ≠ 5) (hO : ElOwn w base m x) (hn : ∀ g, x.o = some g → g ∉ L.filterMap El.o)
    (hown : w'.ownsRow base t (m + 1) v' (L.length + 1) (L.flatMap El.cells ++ x.cells)) (hg : w.grownBy w' v.ownBlock) : ElRow w' base t m v' (L ++ [x]) := by
  have hne := fun {y : El} (hy : ElOwn w base m y) => h.ne ht hy
  obtain ⟨h1, h2, h3⟩ := h; refine ⟨by simpa using hown, fun y hy => ?_, ?_⟩
  · rcases List.mem_append.1 hy with hr | hr
    · exact (h2 y hr).grown hg (hne (h2 y hr))
    · obtain rfl : y = x := by simpa using hr
      exact hO.grown hg (hne hO)
  · rw [List.filterMap_append, List.nodup_append]; refine ⟨h3, ?_, fun a ha b hb' e => ?_⟩
    · cases hxo : x.o <;> simp [hxo]
    · subst e
      have : x.o = some a := by
        obtain ⟨y, hy, e⟩ := List.mem_filterMap.1 hb'
        obtain rfl : y = x := by simpa using hy
        exact e
      exact hn a this ha
theorem nod_far : ∀ (L : List El), (L.filterMap El.o).Nodup → ∀ (i j : Nat) (x y : El) (k : Nat), L[i]? = some x → L[j]? = some y → x.o = some k → y.o = some k → i = j := by
  intro L
  induction L with
  | nil => intro _ i j x y k hi; simp at hi
  | cons z L ih =>
    intro hn i j x y k hi hj hx hy
    have hmem : ∀ {n : Nat} {u : El}, L[n]? = some u → u.o = some k → k ∈ L.filterMap El.o := fun {n u} hu ho => List.mem_filterMap.2 ⟨u, List.mem_of_getElem? hu, ho⟩
    have hn' : (L.filterMap El.o).Nodup := by
      cases hz : z.o with
      | none => rw [List.filterMap_cons_none hz] at hn; exact hn
      | some b => rw [List.filterMap_cons_some hz] at hn; exact (List.nodup_cons.1 hn).2
    have hzk : z.o = some k → k ∉ L.filterMap El.o := fun hz => by
      rw [List.filterMap_cons_some hz] at hn; exact (List.nodup_cons.1 hn).1
    cases i with
    | zero =>
      simp at hi; subst hi
      cases j with
      | zero => rfl
      | succ j => exact absurd (hmem (by simpa using hj) hy) (hzk hx)
    | succ i =>
      cases j with
      | zero =>
        simp at hj; subst hj
        exact absurd (hmem (by simpa using hi) hx) (hzk hy)
      | succ j => rw [ih hn' i j x y k (by simpa using hi) (by simpa using hj) hx hy]
/-- cells of elements whose bytes are owned: the elements lie there -/
theorem elO_of_row {w : World} {base m : Nat} {t : TypeId} {v : Value} {L : List El} (h : w.ownsRow base t (m + 1) v L.length (L.flatMap El.cells))
    (hown : ∀ x ∈ L, x.hd.length = m ∧ OwnS w 5 (oad x.o) x.d.length x.d ∧ (x.o = none → x.cp = 0)) (hfar : ∀ (i j : Nat) (x y : El) (k : Nat), L[i]? = some x → L[j]? = some y → x.o = some k → y.o = some k → i = j) :
    ∃ oa cap, v = .slice oa L.length cap ∧ ElO w t m oa cap L ∧ (∀ g, oa = some ⟨g, 0, none⟩ → base ≤ g ∧ v.ownBlock = some g) ∧ L.length ≤ cap ∧ cap ≤ maxLen := by
  rcases h.2 with ⟨h0, hl⟩ | ⟨g, cap, cur, h0, hb, hg, hc, hm, hs, htake⟩
  · have hL := List.eq_nil_of_length_eq_zero hl; subst hL; exact ⟨none, 0, h0, .inl ⟨rfl, rfl, rfl⟩, (fun g e => by cases e), Nat.le_refl _, Nat.zero_le _⟩
  · refine ⟨some ⟨g, 0, none⟩, cap, h0, .inr ⟨g, rfl, el_of_flat hg (fun j hj => ?_) (fun i x hx => hown x (List.mem_of_getElem? hx)) hfar⟩, fun g' e => ?_, hc, hm⟩
    · rw [← htake, List.getElem?_take, if_pos hj, Array.getElem?_toList]
    · simp only [Option.some.injEq, Addr.mk.injEq, and_true] at e; subst e; exact ⟨hb, by rw [h0]; rfl⟩
theorem ElRow.elO {w : World} {base m : Nat} {t : TypeId} {v : Value} {L : List El} (h : ElRow w base t m v L) : ∃ oa cap, v = .slice oa L.length cap ∧ ElO w t m oa cap L ∧ (∀ k, ElB oa L k → base ≤ k) ∧ L.length ≤ cap ∧ cap ≤ maxLen := by
  obtain ⟨oa, cap, h1, h2, h3, h4, h5⟩ := elO_of_row h.row (fun x hx => ⟨(h.own x hx).1, (h.own x hx).2.1, (h.own x hx).2.2.1⟩) (nod_far L h.nod); refine ⟨oa, cap, h1, h2, fun k hk => ?_, h4, h5⟩
  rcases hk with hk | ⟨x, hx, ho⟩
  · exact (h3 k hk).1
  · exact (h.own x hx).2.2.2 k ho
structure CD (w wl : World) (s B : Nat) (b : Int) (vk vs : Value) (K S : List El) : Prop where
  grown : w.grownBy wl none
  sv : wl.heap[s]? = some (.cells #[.int .i64 b, vk, vs] 28 (0, 0))
  rk : ElRow wl B 32 2 vk K
  rs : ElRow wl B 74 3 vs S
  far : ∀ g ∈ K.filterMap El.o, g ∉ S.filterMap El.o
  lo : w.heap.size ≤ s
  sB : s < B
theorem CD.slt {w wl : World} {s B : Nat} {b : Int} {vk vs : Value} {K S : List El} (h : CD w wl s B b vk vs K S) : s < wl.heap.size := (Array.getElem?_eq_some_iff.1 h.sv).1
theorem CD.cells {w wl : World} {s B : Nat} {b : Int} {vk vs : Value} {K S : List El} (h : CD w wl s B b vk vs K S) : wl.cell? ⟨s, 0, none⟩ = some (.int .i64 b) ∧ wl.cell? ⟨s, 1, none⟩ = some vk ∧ wl.cell? ⟨s, 2, none⟩ = some vs ∧ wl.frozen? ⟨s, 1, none⟩ = false ∧ wl.frozen? ⟨s, 2, none⟩ = false := by
  have := h.sv
  simp [World.cell?, World.frozen?, this]
theorem CD.more {w wl wx : World} {s B : Nat} {b : Int} {vk vs : Value} {K S : List El} (h : CD w wl s B b vk vs K S) (hg : wl.grownBy wx none) : CD w wx s B b vk vs K S :=
  ⟨grownBy_trans h.grown hg, (hg.block s h.slt (by simp)).trans h.sv, h.rk.grown hg (by simp), h.rs.grown hg (by simp), h.far, h.lo, h.sB⟩
/-- behind an append onto the kept items' row the service's cells are as they were -/
theorem CD.cellsK {w wl wa : World} {s B : Nat} {b : Int} {vk vs : Value} {K S : List El} (h : CD w wl s B b vk vs K S) (hg : wl.grownBy wa vk.ownBlock) : wa.heap[s]? = some (.cells #[.int .i64 b, vk, vs] 28 (0, 0)) :=
  (hg.block s h.slt (fun e => by have := (h.rk.row.lt s e.symm).1; have := h.sB; omega)).trans h.sv
theorem CD.cellsS {w wl wa : World} {s B : Nat} {b : Int} {vk vs : Value} {K S : List El} (h : CD w wl s B b vk vs K S) (hg : wl.grownBy wa vs.ownBlock) : wa.heap[s]? = some (.cells #[.int .i64 b, vk, vs] 28 (0, 0)) :=
  (hg.block s h.slt (fun e => by have := (h.rs.row.lt s e.symm).1; have := h.sB; omega)).trans h.sv
theorem CD.putK {w wl wa : World} {s B : Nat} {b : Int} {vk vs v' : Value} {K S : List El} (h : CD w wl s B b vk vs K S) (x : El) (hx : ElOwn wl B 2 x) (hn : ∀ g, x.o = some g → g ∉ K.filterMap El.o ∧ g ∉ S.filterMap El.o)
    (hown : wa.ownsRow B 32 3 v' (K.length + 1) (K.flatMap El.cells ++ x.cells)) (hg : wl.grownBy wa vk.ownBlock) : CD w (wa.setCell ⟨s, 1, none⟩ v') s B b v' vs (K ++ [x]) S := by
  have hv : ∀ k, vk.ownBlock = some k → B ≤ k := fun k e => (h.rk.row.lt k e).1
  have hlo := h.lo; have hsB := h.sB; have hset : wa.grownBy (wa.setCell ⟨s, 1, none⟩ v') (some s) := grownBy_setCell (grownBy_refl _ _); refine ⟨grownBy_new (grownBy_row h.grown hg (fun k e => by have := hv k e; omega)) hset (by omega), heap_setCell_same wa s 1 _ _ _ (h.cellsK hg), ?_, ?_, ?_, h.lo, h.sB⟩
  · exact (h.rk.append (by decide) hx (fun g e => (hn g e).1) hown hg).grown hset (fun k e => by simp only [Option.some.injEq] at e; omega)
  · refine (h.rs.kept hg (fun k e e2 => h.rk.two h.rs (by decide) k e2 e) (fun g hgm e => ?_)).grown hset (fun k e => by simp only [Option.some.injEq] at e; omega); obtain ⟨y, hy, ho⟩ := List.mem_filterMap.1 hgm; exact h.rk.ne (by decide) (h.rs.own y hy) g ho e.symm
  · intro g hgm; rw [List.filterMap_append] at hgm
    rcases List.mem_append.1 hgm with h1 | h1
    · exact h.far g h1
    · obtain ⟨y, hy, ho⟩ := List.mem_filterMap.1 h1
      obtain rfl : y = x := by simpa using hy
      exact (hn g ho).2
theorem CD.putS {w wl wa : World} {s B : Nat} {b : Int} {vk vs v' : Value} {K S : List El} (h : CD w wl s B b vk vs K S) (x : El) (hx : ElOwn wl B 3 x) (hn : ∀ g, x.o = some g → g ∉ K.filterMap El.o ∧ g ∉ S.filterMap El.o)
    (hown : wa.ownsRow B 74 4 v' (S.length + 1) (S.flatMap El.cells ++ x.cells)) (hg : wl.grownBy wa vs.ownBlock) : CD w (wa.setCell ⟨s, 2, none⟩ v') s B b vk v' K (S ++ [x]) := by
  have hv : ∀ k, vs.ownBlock = some k → B ≤ k := fun k e => (h.rs.row.lt k e).1
  have hlo := h.lo; have hsB := h.sB; have hset : wa.grownBy (wa.setCell ⟨s, 2, none⟩ v') (some s) := grownBy_setCell (grownBy_refl _ _); refine ⟨grownBy_new (grownBy_row h.grown hg (fun k e => by have := hv k e; omega)) hset (by omega), heap_setCell_same wa s 2 _ _ _ (h.cellsS hg), ?_, ?_, ?_, h.lo, h.sB⟩
  · refine (h.rk.kept hg (fun k e e2 => h.rk.two h.rs (by decide) k e e2) (fun g hgm e => ?_)).grown hset (fun k e => by simp only [Option.some.injEq] at e; omega); obtain ⟨y, hy, ho⟩ := List.mem_filterMap.1 hgm; exact h.rs.ne (by decide) (h.rk.own y hy) g ho e.symm
  · exact (h.rs.append (by decide) hx (fun g e => (hn g e).2) hown hg).grown hset (fun k e => by simp only [Option.some.injEq] at e; omega)
  · intro g hgm hgs; rw [List.filterMap_append] at hgs
    rcases List.mem_append.1 hgs with h1 | h1
    · exact h.far g hgm h1
    · obtain ⟨y, hy, ho⟩ := List.mem_filterMap.1 h1
      obtain rfl : y = x := by simpa using hy
      exact (hn g ho).1 hgm
/-- what lies below the rows is kept -/
theorem CD.restK {w wl wa : World} {s B : Nat} {b : Int} {vk vs v' : Value} {K S : List El} (h : CD w wl s B b vk vs K S) (hg : wl.grownBy wa vk.ownBlock) {k : Nat} (hk : k < B) (hks : k ≠ s) (hkl : k < wl.heap.size) : (wa.setCell ⟨s, 1, none⟩ v').heap[k]? = wl.heap[k]? :=
  (heap_setCell_other _ _ _ _ hks).trans (hg.block k hkl (fun e => by have := (h.rk.row.lt k e.symm).1; omega))
/-- the service that is handed back -/
theorem CD.done {w wl : World} {p : Nat} {b : Int} {vk vs : Value} {K S : List El} (h : CD w wl p (p + 2) b vk vs K S) (a0 a1 a2 : Value) :
    ∃ r : Sv, Value.agg #[.int .i64 b, vk, vs] = r.val ∧ r.b = b ∧ r.K = K ∧ r.S = S ∧ SvAt (((wl.setCell ⟨p + 1, 0, none⟩ a0).setCell ⟨p + 1, 1, none⟩ a1).setCell ⟨p + 1, 2, none⟩ a2) r ∧ (∀ k, SvB r k → w.heap.size ≤ k) ∧ w.grownBy (((wl.setCell ⟨p + 1, 0, none⟩ a0).setCell ⟨p + 1, 1, none⟩ a1).setCell ⟨p + 1, 2, none⟩ a2) none := by
  have hlo := h.lo
  have hG : ∀ (X : World) (j : Nat) (u : Value), X.grownBy (X.setCell ⟨p + 1, j, none⟩ u) (some (p + 1)) := fun X j u => grownBy_setCell (grownBy_refl _ _)
  have hlt : ∀ k, some (p + 1) = some k → k < p + 2 := fun k e => by simp only [Option.some.injEq] at e; omega
  have h1 := ((h.rk.grown (hG _ 0 a0) hlt).grown (hG _ 1 a1) hlt).grown (hG _ 2 a2) hlt; have h2 := ((h.rs.grown (hG _ 0 a0) hlt).grown (hG _ 1 a1) hlt).grown (hG _ 2 a2) hlt; obtain ⟨ko, kc, e1, o1, b1, -, -⟩ := h1.elO; obtain ⟨so, sc, e2, o2, b2, -, -⟩ := h2.elO; refine ⟨⟨b, ko, kc, K, so, sc, S⟩, by rw [e1, e2]; rfl, rfl, rfl, rfl, ⟨o1, o2, fun x hx y hy j hxj hyj => ?_⟩, fun k hk => ?_, ?_⟩
  · exact h.far j (List.mem_filterMap.2 ⟨x, hx, hxj⟩) (List.mem_filterMap.2 ⟨y, hy, hyj⟩)
  · rcases hk with hk | hk
    · have := b1 k hk; omega
    · have := b2 k hk; omega
  · exact grownBy_setNew (grownBy_setNew (grownBy_setNew h.grown (by show w.heap.size ≤ p + 1; omega)) (by show w.heap.size ≤ p + 1; omega)) (by show w.heap.size ≤ p + 1; omega)
theorem ownsRow_made0 (w : World) (n : Nat) (t : TypeId) (h : w.heap.size = n) : (w.alloc (.cells #[] t)).ownsRow n t 1 (.slice (some ⟨n, 0, none⟩) 0 0) 0 (([] : List Nat).map bv) := by
  subst h; exact World.ownsRow_made w #[] 0 (Nat.le_refl _) (Nat.zero_le _) rfl
theorem tells_take {L M : List El} {k : Nat} {x y : El} (h : M.map El.tell = (L.take k).map El.tell) (hx : L[k]? = some x) (ht : y.tell = x.tell) : (M ++ [y]).map El.tell = (L.take (k + 1)).map El.tell := by
  rw [List.take_add_one, hx, List.map_append, List.map_append, h]
  simp [ht]
set_option maxRecDepth 4000 in
set_option maxHeartbeats 4000000 in
theorem l5Copy_any (s : Sv) (w : World) (h : SvAt w s) (hs : SvSmall s) :
    Calls Tryd.prog 44 #[.agg #[.int .i64 s.b, .slice s.ko s.K.length s.kc, .slice s.so s.S.length s.sc]] w fun e w' => ∃ (vk vs : Value) (K S : List El), e = .returned (.agg #[.int .i64 s.b, vk, vs]) ∧ K.map El.tell = s.K.map El.tell ∧ S.map El.tell = s.S.map El.tell ∧ ElRow w' w.heap.size 32 2 vk K ∧ ElRow w' w.heap.size 74 3 vs S ∧ (∀ g ∈ K.filterMap El.o, g ∉ S.filterMap El.o) ∧ w.grownBy w' none := by
  have HA : Hid (SvAt w s ∧ SvSmall s) := ⟨h, hs⟩; have hkn : s.K.length ≤ 1048576 := hs.1; have hsn : s.S.length ≤ 1048576 := hs.2.1; clear h hs; obtain ⟨b, ko, kc, K0, so, sc, S0⟩ := s; simp only at HA hkn hsn ⊢; obtain ⟨kn, hk0⟩ : ∃ n, K0.length = n := ⟨_, rfl⟩; obtain ⟨sn, hs0⟩ : ∃ n, S0.length = n := ⟨_, rfl⟩; have HN : Hid (K0.length = kn ∧ S0.length = sn) := ⟨hk0, hs0⟩; rw [hk0] at hkn ⊢; rw [hs0] at hsn ⊢; clear hk0 hs0; obtain ⟨W0, hW0⟩ : ∃ W0, W0 = (w.alloc (.cells #[.int .i64 b, .slice ko kn kc, .slice so sn sc] 28)).alloc (.cells #[.int .i64 0, .slice none 0 0, .slice none 0 0] 28) := ⟨_, rfl⟩
  have HW : Hid (W0 = (w.alloc (.cells #[.int .i64 b, .slice ko kn kc, .slice so sn sc] 28)).alloc (.cells #[.int .i64 0, .slice none 0 0, .slice none 0 0] 28) ∧ W0.heap.size = w.heap.size + 1 + 1 ∧ W0.heap[w.heap.size]? = some (.cells #[.int .i64 b, .slice ko kn kc, .slice so sn sc] 28 (0, 0)) ∧ W0.heap[w.heap.size + 1]? = some (.cells #[.int .i64 0, .slice none 0 0, .slice none 0 0] 28 (0, 0)) ∧ w.grownBy W0 none) := by
    refine ⟨hW0, by rw [hW0]; simp, ?_, ?_, ?_⟩
    · rw [hW0]; exact (Below.heap_alloc _ _ _ (by simp)).trans (heap_alloc_new w _)
    · rw [hW0]; exact heap_two w _ _
    · rw [hW0]; exact grownBy_alloc (World.grownBy_alloc _ _ _) _
  clear hW0; obtain ⟨ib, TB⟩ := byteT
  go_enter Tryd.func44, Tryd.ntmps44
  go_wp2
  have HD0 : Hid (CD W0 (((w.alloc (.cells #[.int .i64 b, .slice ko kn kc, .slice so sn sc] 28)).alloc (.cells #[.int .i64 0, .slice none 0 0, .slice none 0 0] 28)).alloc (.cells #[.int .i64 b, .slice none 0 0, .slice none 0 0] 28)) (w.heap.size + 1 + 1) (w.heap.size + 3) b (.slice none 0 0) (.slice none 0 0) [] []) := by
    have e0 := HW.out.1; have e1 := HW.out.2.1; rw [← e0, ← e1]; exact ⟨World.grownBy_alloc _ _ _, heap_alloc_new _ _, ElRow.nil _ _ _ _, ElRow.nil _ _ _ _, by simp, Nat.le_refl _, by omega⟩
  go_loopw [14] (fun i wr => ∃ k : Nat, k ≤ kn ∧ i = .int .i64 (k : Int) ∧ ∃ (vk : Value) (K : List El), CD W0 wr (w.heap.size + 1 + 1) (w.heap.size + 3) b vk (.slice none 0 0) K [] ∧ K.map El.tell = (K0.take k).map El.tell) (fun i _ => kn - (intOf i).toNat)
  case atStart => exact ⟨0, Nat.zero_le _, rfl, ⟨_, _, HD0.out, rfl⟩⟩
  case round =>
    clear HD0; obtain ⟨k, hk, rfl, vk, K, hCD, ht⟩ := hrel; have HD : Hid (CD W0 wr (w.heap.size + 1 + 1) (w.heap.size + 3) b vk (.slice none 0 0) (K) [] ∧ K.map El.tell = (K0.take k).map El.tell) := ⟨hCD, ht⟩; clear hCD ht
    by_cases hlt : k < kn
    · obtain ⟨x, hx⟩ : ∃ x, K0[k]? = some x := ⟨_, List.getElem?_eq_getElem (by rw [HN.out.1]; exact hlt)⟩
      obtain ⟨g, hg, hE⟩ : ∃ g, ko = some ⟨g, 0, none⟩ ∧ ElAt w 32 2 g K0 := by
        rcases HA.out.1.kk with ⟨_, _, h0⟩ | h
        · simp only at h0; rw [h0] at hx; simp at hx
        · exact h
      subst hg; have hGr : w.grownBy wr none := grownBy_trans HW.out.2.2.2.2 HD.out.1.grown; have hAr : ElAt wr 32 2 g K0 := hE.kept (fun j hj _ => hGr.block j hj (by simp)); obtain ⟨n0, n1, hhd, c0, c1, cd⟩ := hAr.get2 hx; have hOw := (hAr.own k x hx).2.1.sl; have hxl := HA.out.2.2.2.1 x (List.mem_of_getElem? hx); have HX : Hid (K0[k]? = some x ∧ x.hd = [n0, n1] ∧ SlB wr (oad x.o) x.d.length x.d) := ⟨hx, hhd, hOw⟩
      have hkI : (k : Int) < (kn : Int) := by omega
      have hsr := HD.out.1.slt; clear hx hhd hOw hAr hE hGr
      go_wp2_with (at_builtin; refine wpList_append_b (by rfl) (.tmp 18) (.tmp 20) TB (by rfl) (base := wr.heap.size + 1) (g := wr.heap.size + 1) (n := 0) (cap := 0) (xs := []) (by rfl) (by exact ownsRow_made0 _ _ _ (by simp)) (oa := oad x.o) (m := x.d.length) (c := x.cp) (zs := x.d) (by rfl) (by exact HX.out.2.2.grown0 (grownBy_alloc (World.grownBy_alloc _ _ _) _)) (by omega) (by simp) ?_)
      intro g1 cp1 w1 hO1 hG1 hat1 hsz1; have hO1' := hO1.out; have hB1 : w1.heap[wr.heap.size]? = some (.cells #[.int .i64 n0, .int .i64 n1, .slice (oad x.o) x.d.length x.cp] 32 (0, 0)) := (hG1.out.block wr.heap.size (by simp; omega) (by simp)).trans ((Below.heap_alloc _ _ _ (by simp)).trans (heap_alloc_new wr _)); have hg1 : wr.heap.size + 1 ≤ g1 := (hO1'.lt g1 rfl).1; have hOw1 : Own w1 5 g1 x.d := own_made hO1' HX.out.2.2.2.1; have hGr1 : wr.grownBy w1 none := grownBy_new (grownBy_alloc (World.grownBy_alloc wr _ none) _) hG1.out (by simp)
      have x2 : w1.cell? ⟨wr.heap.size, 2, none⟩ = some (.slice (oad x.o) x.d.length x.cp) := by simp [World.cell?, hB1]
      have f2 : w1.frozen? ⟨wr.heap.size, 2, none⟩ = false := by simp [World.frozen?, hB1]
      obtain ⟨W2, hW2⟩ : ∃ W2, W2 = w1.setCell ⟨wr.heap.size, 2, none⟩ (.slice (some ⟨g1, 0, none⟩) x.d.length cp1) := ⟨_, rfl⟩
      have hGr2 : wr.grownBy W2 none := by rw [hW2]; exact grownBy_setNew hGr1 (Nat.le_refl _)
      have hB2 : W2.heap[wr.heap.size]? = some (.cells #[.int .i64 n0, .int .i64 n1, .slice (some ⟨g1, 0, none⟩) x.d.length cp1] 32 (0, 0)) := by rw [hW2]; exact heap_setCell_same w1 _ 2 _ _ _ hB1
      have hOw2 : Own W2 5 g1 x.d := by rw [hW2]; exact hOw1.setOther (by show g1 ≠ wr.heap.size; omega)
      have HD2 : Hid (CD W0 W2 (w.heap.size + 1 + 1) (w.heap.size + 3) b vk (.slice none 0 0) (K) [] ∧ Own W2 5 g1 x.d ∧ wr.heap.size + 1 ≤ g1) := ⟨HD.out.1.more hGr2, hOw2, hg1⟩
      have y0 : W2.cell? ⟨wr.heap.size, 0, none⟩ = some (.int .i64 n0) := by simp [World.cell?, hB2]
      have y1 : W2.cell? ⟨wr.heap.size, 1, none⟩ = some (.int .i64 n1) := by simp [World.cell?, hB2]
      have y2 : W2.cell? ⟨wr.heap.size, 2, none⟩ = some (.slice (some ⟨g1, 0, none⟩) x.d.length cp1) := by simp [World.cell?, hB2]
      obtain ⟨q0, q1, q2, q3, q4⟩ := HD2.out.1.cells; have hs2 := HD2.out.1.slt
      have hlen : K.length = k := by have h1 := congrArg List.length HD.out.2; have h2 := HN.out.1; simp at h1; omega
      have HLen : Hid (K.length = k) := hlen; have HW2 : Hid (W2 = w1.setCell ⟨wr.heap.size, 2, none⟩ (.slice (some ⟨g1, 0, none⟩) x.d.length cp1)) := hW2; clear hO1 hG1 hat1 hsz1 hO1' hB1 hg1 hOw1 hGr1 hGr2 hB2 hOw2 c0 c1 cd hlen hW2 hsr
      go_upto_region 6 with fail
      rw [← HW2.out]; obtain ⟨ir, hri, hr0, hr1, hr2⟩ := info_parts Tryd.infoItem; clear x2 f2 HW2
      go_wp2_with (at_builtin; refine wpList_append_own _ rfl _ _ 25 rfl (w.heap.size + 3) 32 ir (.agg #[.int .i64 0, .int .i64 0, .slice none 0 0]) 3 40 Tryd.underlying25 hri hr0 hr1 hr2 rfl (by decide) _ K.length (K.flatMap El.cells) rfl (by exact World.ownsRow.alloc HD2.out.1.rk.row _) ⟨W2.heap.size, 0, none⟩ 1 1 [.int .i64 n0, .int .i64 n1, .slice (some ⟨g1, 0, none⟩) x.d.length cp1] rfl rfl ?c1 ?c2 ?c3 ?c4 ?c5 ?_)
      case c1 =>
        intro j u hj
        match j, hj with
        | 0, hj => simp at hj; subst hj; simp [Addr.add]
        | 1, hj => simp at hj; subst hj; simp [Addr.add]
        | 2, hj => simp at hj; subst hj; simp [Addr.add]
      case c2 => intro u hu; simp at hu; rcases hu with rfl | rfl | rfl <;> rfl
      case c3 => have := HLen.out; unfold maxLen; omega
      case c4 => have := HLen.out; omega
      case c5 => simp; omega
      intro v' wa hown' hgrow _
      obtain ⟨g', cap', rfl⟩ : ∃ g' c', v' = .slice (some ⟨g', 0, none⟩) (K.length + 1) c' := by
        rcases hown'.2 with ⟨_, h'⟩ | ⟨g', cap', cur, h', _⟩
        · omega
        · exact ⟨g', cap', h'⟩
      obtain ⟨z, hz⟩ : ∃ z : El, z = ⟨[n0, n1], x.d, some g1, cp1⟩ := ⟨_, rfl⟩
      have hzc : z.cells = [.int .i64 n0, .int .i64 n1, .slice (some ⟨g1, 0, none⟩) x.d.length cp1] := by rw [hz]; rfl
      rw [← hzc] at hown'; have hDa := HD2.out.1.more (World.grownBy_alloc W2 (.cells #[.int .i64 n0, .int .i64 n1, .slice (some ⟨g1, 0, none⟩) x.d.length cp1] 32) none)
      have HZ : Hid (CD W0 (wa.setCell ⟨w.heap.size + 1 + 1, 1, none⟩ (.slice (some ⟨g', 0, none⟩) (K.length + 1) cap')) (w.heap.size + 1 + 1) (w.heap.size + 3) b (.slice (some ⟨g', 0, none⟩) (K.length + 1) cap') (.slice none 0 0) (K ++ [z]) []) := by
        have hgs := HD2.out.2.2; have hsw := HD.out.1.slt; refine hDa.putK z ⟨by rw [hz]; rfl, ?_, by rw [hz]; simp, ?_⟩ ?_ hown' hgrow
        · rw [hz]; exact (HD2.out.2.1.grown (World.grownBy_alloc _ _ none) (by simp)).s rfl
        · rw [hz]; intro g e; simp only [Option.some.injEq] at e; omega
        · rw [hz]; intro g e; simp only [Option.some.injEq] at e; subst e; exact ⟨fun hm => by have := (HD.out.1.rk.lt _ hm).2; omega, fun hm => by have := (HD.out.1.rs.lt _ hm).2; omega⟩
      have hsv := hDa.cellsK hgrow
      have hca : wa.cell? ⟨w.heap.size + 1 + 1, 1, none⟩ = some vk := by simp [World.cell?, hsv]
      have hfa : wa.frozen? ⟨w.heap.size + 1 + 1, 1, none⟩ = false := by simp [World.frozen?, hsv]
      have HT : Hid ((K ++ [z]).map El.tell = (K0.take (k + 1)).map El.tell) := tells_take HD.out.2 HX.out.1 (by rw [hz]; simp only [El.tell]; rw [HX.out.2.1]); clear hown' hgrow hDa hsv HD HD2 hz hzc y0 y1 y2 q0 q1 q2 q3 q4 hs2 HLen HX; go_wp2; go_roundw
      case rel => exact ⟨k + 1, by omega, by go_num, _, _, HZ.out, HT.out⟩
      case measure => simp [intOf]; omega
    · obtain rfl : k = kn := by omega
      have HD0 : Hid (CD W0 wr (w.heap.size + 1 + 1) (w.heap.size + 3) b vk (.slice none 0 0) K []) := HD.out.1
      have HTK : Hid (K.map El.tell = K0.map El.tell) := by have h1 := HD.out.2; have h2 := HN.out.1; rw [← h2, List.take_length] at h1; exact h1
      have hb0 := (HD0.out.grown.block w.heap.size (by have := HW.out.2.1; omega) (by simp)).trans HW.out.2.2.1
      have a2 : wr.cell? ⟨w.heap.size, 2, none⟩ = some (.slice so sn sc) := by simp [World.cell?, hb0]
      clear HD hb0; go_wp2
      go_loopw [33] (fun i wr => ∃ k : Nat, k ≤ sn ∧ i = .int .i64 (k : Int) ∧ ∃ (vs : Value) (S : List El), CD W0 wr (w.heap.size + 1 + 1) (w.heap.size + 3) b vk vs K S ∧ S.map El.tell = (S0.take k).map El.tell) (fun i _ => sn - (intOf i).toNat)
      case atStart => exact ⟨0, Nat.zero_le _, rfl, ⟨_, _, HD0.out, rfl⟩⟩
      case round =>
        clear HD0; obtain ⟨k, hk, rfl, vs, S, hCD, ht⟩ := hrel; have HD : Hid (CD W0 wr (w.heap.size + 1 + 1) (w.heap.size + 3) b vk vs K (S) ∧ S.map El.tell = (S0.take k).map El.tell) := ⟨hCD, ht⟩; clear hCD ht
        by_cases hlt : k < sn
        · obtain ⟨x, hx⟩ : ∃ x, S0[k]? = some x := ⟨_, List.getElem?_eq_getElem (by rw [HN.out.2]; exact hlt)⟩
          obtain ⟨g, hg, hE⟩ : ∃ g, so = some ⟨g, 0, none⟩ ∧ ElAt w 74 3 g S0 := by
            rcases HA.out.1.ss with ⟨_, _, h0⟩ | h
            · simp only at h0; rw [h0] at hx; simp at hx
            · exact h
          subst hg; have hGr : w.grownBy wr none := grownBy_trans HW.out.2.2.2.2 HD.out.1.grown; have hAr : ElAt wr 74 3 g S0 := hE.kept (fun j hj _ => hGr.block j hj (by simp)); obtain ⟨n0, n1, n2, hhd, c0, c1, c2, cd⟩ := hAr.get3 hx; have hOw := (hAr.own k x hx).2.1.sl; have hxl := HA.out.2.2.2.2 x (List.mem_of_getElem? hx); have HX : Hid (S0[k]? = some x ∧ x.hd = [n0, n1, n2] ∧ SlB wr (oad x.o) x.d.length x.d) := ⟨hx, hhd, hOw⟩
          have hkI : (k : Int) < (sn : Int) := by omega
          have hsr := HD.out.1.slt; clear hx hhd hOw hAr hE hGr
          go_wp2_with (at_builtin; refine wpList_append_b (by rfl) (.tmp 37) (.tmp 39) TB (by rfl) (base := wr.heap.size + 1) (g := wr.heap.size + 1) (n := 0) (cap := 0) (xs := []) (by rfl) (by exact ownsRow_made0 _ _ _ (by simp)) (oa := oad x.o) (m := x.d.length) (c := x.cp) (zs := x.d) (by rfl) (by exact HX.out.2.2.grown0 (grownBy_alloc (World.grownBy_alloc _ _ _) _)) (by omega) (by simp) ?_)
          intro g1 cp1 w1 hO1 hG1 hat1 hsz1; have hO1' := hO1.out; have hB1 : w1.heap[wr.heap.size]? = some (.cells #[.int .i64 n0, .int .i64 n1, .int .i64 n2, .slice (oad x.o) x.d.length x.cp] 74 (0, 0)) := (hG1.out.block wr.heap.size (by simp; omega) (by simp)).trans ((Below.heap_alloc _ _ _ (by simp)).trans (heap_alloc_new wr _)); have hg1 : wr.heap.size + 1 ≤ g1 := (hO1'.lt g1 rfl).1; have hOw1 : Own w1 5 g1 x.d := own_made hO1' HX.out.2.2.2.1; have hGr1 : wr.grownBy w1 none := grownBy_new (grownBy_alloc (World.grownBy_alloc wr _ none) _) hG1.out (by simp)
          have x2 : w1.cell? ⟨wr.heap.size, 3, none⟩ = some (.slice (oad x.o) x.d.length x.cp) := by simp [World.cell?, hB1]
          have f2 : w1.frozen? ⟨wr.heap.size, 3, none⟩ = false := by simp [World.frozen?, hB1]
          obtain ⟨W2, hW2⟩ : ∃ W2, W2 = w1.setCell ⟨wr.heap.size, 3, none⟩ (.slice (some ⟨g1, 0, none⟩) x.d.length cp1) := ⟨_, rfl⟩
          have hGr2 : wr.grownBy W2 none := by rw [hW2]; exact grownBy_setNew hGr1 (Nat.le_refl _)
          have hB2 : W2.heap[wr.heap.size]? = some (.cells #[.int .i64 n0, .int .i64 n1, .int .i64 n2, .slice (some ⟨g1, 0, none⟩) x.d.length cp1] 74 (0, 0)) := by rw [hW2]; exact heap_setCell_same w1 _ 3 _ _ _ hB1
          have hOw2 : Own W2 5 g1 x.d := by rw [hW2]; exact hOw1.setOther (by show g1 ≠ wr.heap.size; omega)
          have HD2 : Hid (CD W0 W2 (w.heap.size + 1 + 1) (w.heap.size + 3) b vk vs K (S) ∧ Own W2 5 g1 x.d ∧ wr.heap.size + 1 ≤ g1) := ⟨HD.out.1.more hGr2, hOw2, hg1⟩
          have y0 : W2.cell? ⟨wr.heap.size, 0, none⟩ = some (.int .i64 n0) := by simp [World.cell?, hB2]
          have y1 : W2.cell? ⟨wr.heap.size, 1, none⟩ = some (.int .i64 n1) := by simp [World.cell?, hB2]
          have y2 : W2.cell? ⟨wr.heap.size, 2, none⟩ = some (.int .i64 n2) := by simp [World.cell?, hB2]
          have y3 : W2.cell? ⟨wr.heap.size, 3, none⟩ = some (.slice (some ⟨g1, 0, none⟩) x.d.length cp1) := by simp [World.cell?, hB2]
          obtain ⟨q0, q1, q2, q3, q4⟩ := HD2.out.1.cells; have hs2 := HD2.out.1.slt
          have hlen : S.length = k := by have h1 := congrArg List.length HD.out.2; have h2 := HN.out.2; simp at h1; omega
          have HLen : Hid (S.length = k) := hlen; have HW2 : Hid (W2 = w1.setCell ⟨wr.heap.size, 3, none⟩ (.slice (some ⟨g1, 0, none⟩) x.d.length cp1)) := hW2; clear hO1 hG1 hat1 hsz1 hO1' hB1 hg1 hOw1 hGr1 hGr2 hB2 hOw2 c0 c1 c2 cd hlen hW2 hsr
          go_upto_region 12 with fail
          rw [← HW2.out]; obtain ⟨ir, hri, hr0, hr1, hr2⟩ := info_parts Tryd.infoSession; clear x2 f2 HW2
          go_wp2_with (at_builtin; refine wpList_append_own _ rfl _ _ 26 rfl (w.heap.size + 3) 74 ir (.agg #[.int .i64 0, .int .i64 0, .int .i64 0, .slice none 0 0]) 4 48 Tryd.underlying26 hri hr0 hr1 hr2 rfl (by decide) _ S.length (S.flatMap El.cells) rfl (by exact World.ownsRow.alloc HD2.out.1.rs.row _) ⟨W2.heap.size, 0, none⟩ 1 1 [.int .i64 n0, .int .i64 n1, .int .i64 n2, .slice (some ⟨g1, 0, none⟩) x.d.length cp1] rfl rfl ?c1 ?c2 ?c3 ?c4 ?c5 ?_)
          case c1 =>
            intro j u hj
            match j, hj with
            | 0, hj => simp at hj; subst hj; simp [Addr.add]
            | 1, hj => simp at hj; subst hj; simp [Addr.add]
            | 2, hj => simp at hj; subst hj; simp [Addr.add]
            | 3, hj => simp at hj; subst hj; simp [Addr.add]
          case c2 => intro u hu; simp at hu; rcases hu with rfl | rfl | rfl | rfl <;> rfl
          case c3 => have := HLen.out; unfold maxLen; omega
          case c4 => have := HLen.out; omega
          case c5 => simp; omega
          intro v' wa hown' hgrow _
          obtain ⟨g', cap', rfl⟩ : ∃ g' c', v' = .slice (some ⟨g', 0, none⟩) (S.length + 1) c' := by
            rcases hown'.2 with ⟨_, h'⟩ | ⟨g', cap', cur, h', _⟩
            · omega
            · exact ⟨g', cap', h'⟩
          obtain ⟨z, hz⟩ : ∃ z : El, z = ⟨[n0, n1, n2], x.d, some g1, cp1⟩ := ⟨_, rfl⟩
          have hzc : z.cells = [.int .i64 n0, .int .i64 n1, .int .i64 n2, .slice (some ⟨g1, 0, none⟩) x.d.length cp1] := by rw [hz]; rfl
          rw [← hzc] at hown'; have hDa := HD2.out.1.more (World.grownBy_alloc W2 (.cells #[.int .i64 n0, .int .i64 n1, .int .i64 n2, .slice (some ⟨g1, 0, none⟩) x.d.length cp1] 74) none)
          have HZ : Hid (CD W0 (wa.setCell ⟨w.heap.size + 1 + 1, 2, none⟩ (.slice (some ⟨g', 0, none⟩) (S.length + 1) cap')) (w.heap.size + 1 + 1) (w.heap.size + 3) b vk (.slice (some ⟨g', 0, none⟩) (S.length + 1) cap') K (S ++ [z])) := by
            have hgs := HD2.out.2.2; have hsw := HD.out.1.slt; refine hDa.putS z ⟨by rw [hz]; rfl, ?_, by rw [hz]; simp, ?_⟩ ?_ hown' hgrow
            · rw [hz]; exact (HD2.out.2.1.grown (World.grownBy_alloc _ _ none) (by simp)).s rfl
            · rw [hz]; intro g e; simp only [Option.some.injEq] at e; omega
            · rw [hz]; intro g e; simp only [Option.some.injEq] at e; subst e; exact ⟨fun hm => by have := (HD.out.1.rk.lt _ hm).2; omega, fun hm => by have := (HD.out.1.rs.lt _ hm).2; omega⟩
          have hsv := hDa.cellsS hgrow
          have hca : wa.cell? ⟨w.heap.size + 1 + 1, 2, none⟩ = some vs := by simp [World.cell?, hsv]
          have hfa : wa.frozen? ⟨w.heap.size + 1 + 1, 2, none⟩ = false := by simp [World.frozen?, hsv]
          have HT : Hid ((S ++ [z]).map El.tell = (S0.take (k + 1)).map El.tell) := tells_take HD.out.2 HX.out.1 (by rw [hz]; simp only [El.tell]; rw [HX.out.2.1]); clear hown' hgrow hDa hsv HD HD2 hz hzc y0 y1 y2 y3 q0 q1 q2 q3 q4 hs2 HLen HX; go_wp2; go_roundw
          case rel => exact ⟨k + 1, by omega, by go_num, _, _, HZ.out, HT.out⟩
          case measure => simp [intOf]; omega
        · obtain rfl : k = sn := by omega
          have h2 := HN.out.2; have hT := HD.out.2; rw [← h2, List.take_length] at hT; obtain ⟨q0, q1, q2, q3, q4⟩ := HD.out.1.cells; have hb1 := (HD.out.1.grown.block (w.heap.size + 1) (by have := HW.out.2.1; omega) (by simp)).trans HW.out.2.2.2.1
          have r0 : wr.cell? ⟨w.heap.size + 1, 0, none⟩ = some (.int .i64 0) := by simp [World.cell?, hb1]
          have r1 : wr.cell? ⟨w.heap.size + 1, 1, none⟩ = some (.slice none 0 0) := by simp [World.cell?, hb1]
          have r2 : wr.cell? ⟨w.heap.size + 1, 2, none⟩ = some (.slice none 0 0) := by simp [World.cell?, hb1]
          have y0 : wr.frozen? ⟨w.heap.size + 1, 0, none⟩ = false := by simp [World.frozen?, hb1]
          have y1 : wr.frozen? ⟨w.heap.size + 1, 1, none⟩ = false := by simp [World.frozen?, hb1]
          have y2 : wr.frozen? ⟨w.heap.size + 1, 2, none⟩ = false := by simp [World.frozen?, hb1]
          have HE : Hid (S.map El.tell = S0.map El.tell ∧ K.map El.tell = K0.map El.tell) := ⟨hT, HTK.out⟩; obtain ⟨oa1, ca1, hf1, -, -, -, -⟩ := HD.out.1.rk.elO; obtain ⟨oa2, ca2, hf2, -, -, -, -⟩ := HD.out.1.rs.elO; clear hb1 hT h2; subst hf1; subst hf2; go_wp2; refine bodyPost_ret (v := .agg #[.int .i64 b, .slice oa1 K.length ca1, .slice oa2 S.length ca2]) (by simp [results, Tryd.results44, go_sem, r0, r1, r2]) rfl ⟨_, _, K, S, rfl, HE.out.2, HE.out.1, ?_, ?_, HD.out.1.far, ?_⟩
          · have hG : ∀ (X : World) (j : Nat) (u : Value), X.grownBy (X.setCell ⟨w.heap.size + 1, j, none⟩ u) (some (w.heap.size + 1)) := fun X j u => grownBy_setCell (grownBy_refl _ _)
            have hlt : ∀ k, some (w.heap.size + 1) = some k → k < w.heap.size + 3 := fun k e => by simp only [Option.some.injEq] at e; omega
            exact (((HD.out.1.rk.grown (hG _ _ _) hlt).grown (hG _ _ _) hlt).grown (hG _ _ _) hlt).lower (by omega)
          · have hG : ∀ (X : World) (j : Nat) (u : Value), X.grownBy (X.setCell ⟨w.heap.size + 1, j, none⟩ u) (some (w.heap.size + 1)) := fun X j u => grownBy_setCell (grownBy_refl _ _)
            have hlt : ∀ k, some (w.heap.size + 1) = some k → k < w.heap.size + 3 := fun k e => by simp only [Option.some.injEq] at e; omega
            exact (((HD.out.1.rs.grown (hG _ _ _) hlt).grown (hG _ _ _) hlt).grown (hG _ _ _) hlt).lower (by omega)
          · exact grownBy_setNew (grownBy_setNew (grownBy_setNew (grownBy_trans HW.out.2.2.2.2 HD.out.1.grown) (by simp)) (by simp)) (by simp)
end Go.Proofs.YtdajcpcajdhplaaDoor
