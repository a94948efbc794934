/-
  The program's apply where the service is full (written by tools/gen_apply.py).
-/
import Derived.Test.YtdajcpcajdhplaaDoorAp1
import Derived.Test.YtdajcpcajdhplaaDoorSvVal
namespace Go.Proofs.YtdajcpcajdhplaaDoor
open Go.RowKit

set_option maxRecDepth 4000 in
set_option maxHeartbeats 4000000 in
theorem apply_full_old (p gk kn kc gs sc : Nat) (b : Int) (S : List El) (k : Nat) (x : El) (oa : Option Addr) (len cap : Nat) (zs : List Nat) (ad : Nat → Addr) (w : World) (hsl : SlB w oa len zs) (hcp : len ≤ cap) (hm : len ≤ 1073741824) (hd : decGood zs)
    (hp : w.heap[p]? = some (.cells #[.int .i64 b, .slice (some ⟨gk, 0, none⟩) kn kc, .slice (some ⟨gs, 0, none⟩) S.length sc] 28 (0, 0))) (hS : ElAt w 74 3 gs S) (hr : risesE 0 S) (hn : S.length ≤ 1048576) (hb : -1000000000000 ≤ b ∧ b ≤ 1000000000000) (hkn : kn ≤ 1048576)
    (hk : Spot S (decCl zs : Int) k) (hx : S[k]? = some x) (hxc : x.c = (decCl zs : Int)) (hq : x.q < (decSq zs : Int)) (hE : ErrsAt w ad) (hfull : b + (kn : Int) = 1000000) :
    Calls Tryd.prog 35 #[.pointer (some ⟨p, 0, none⟩), .slice oa len cap] w fun e w' => e = .returned (.tuple #[.int .i64 0, .iface 150 (.pointer (some (ad 1)))]) ∧ w.grownBy w' none := by
  have h8 : 8 ≤ len := by have h1 := hd.1; have h2 := hsl.1; omega
  have e0 : ((len : Int) == 0) = false := by have : (len : Int) ≠ 0 := by omega
                                             simpa using this
  have HD : Hid (Calls Tryd.prog 11 #[.slice oa len cap] w fun e w' => ∃ g cp, e = .returned (.tuple #[.agg #[.int .i64 (decCl zs : Int), .int .i64 (decSq zs : Int), .slice (some ⟨g, 0, none⟩) (len - 8) cp], .int .i64 0]) ∧ w.heap.size ≤ g ∧ Own w' 5 g (zs.drop 8) ∧ w.grownBy w' none) := decItem_good oa len cap zs w hsl hcp hm hd
  have HL : Hid ((zs.drop 8).length = len - 8) := by have := hsl.1; show _ = _; simp; omega
  obtain ⟨key, hkey⟩ : ∃ key : Int, (decCl zs : Int) = key := ⟨_, rfl⟩
  obtain ⟨sq, hsq⟩ : ∃ sq : Int, (decSq zs : Int) = sq := ⟨_, rfl⟩
  obtain ⟨ln, hln⟩ : ∃ ln, S.length = ln := ⟨_, rfl⟩
  rw [hln] at hp
  have HQ : Hid ((decCl zs : Int) = key ∧ (decSq zs : Int) = sq ∧ zs.length = len) := ⟨hkey, hsq, hsl.1⟩
  obtain ⟨n0, n1, n2, hhd, -⟩ := hS.get3 hx
  obtain ⟨q0, q1, q2⟩ := El.hd3 hhd
  rw [q1, hsq] at hq
  rw [q0, hkey] at hxc
  rw [hkey] at HD hk
  rw [hsq] at HD
  have hkl : k < ln := by have := (List.getElem?_eq_some_iff.1 hx).1; omega
  have HK : Hid (knownAt S key k = true) := by show _ = _; unfold knownAt; rw [hx]; simp [q0, hxc]
  have HA : Hid (ElAt w 74 3 gs S ∧ risesE 0 S ∧ S.length ≤ 1048576 ∧ Spot S key k ∧ S.length = ln ∧ w.heap[p]? = some (.cells #[.int .i64 b, .slice (some ⟨gk, 0, none⟩) kn kc, .slice (some ⟨gs, 0, none⟩) ln sc] 28 (0, 0)) ∧ S[k]? = some x ∧ x.hd = [n0, n1, n2] ∧ ErrsAt w ad) := ⟨hS, hr, hn, hk, hln, hp, hx, hhd, hE⟩
  have HLN : Hid (ln ≤ 1048576) := by show _ ≤ _; omega
  have HCN : Hid (∀ X : World, Calls Tryd.prog 38 #[.agg #[.int .i64 b, .slice (some ⟨gk, 0, none⟩) kn kc, .slice (some ⟨gs, 0, none⟩) ln sc]] X fun e w' => e = .returned (.int .i64 (b + (kn : Int))) ∧ X.grownBy w' none) := fun X => countE_any b _ kn kc _ X hb hkn
  clear hE hsl hd hp hS hr hn hk hkey hsq hln hb hkn hx hhd q0 q1 q2 hxc
  go_enter Tryd.func35, Tryd.ntmps35
  go_wp2_with fail
  refine HD.out.mono ?_
  rintro e w1 ⟨gx, cx, rfl, hgx, hO1, hG1⟩
  have HX : Hid (w.heap.size ≤ gx ∧ Own w1 5 gx (zs.drop 8) ∧ w.grownBy w1 none) := ⟨hgx, hO1, hG1⟩
  clear hgx hO1 hG1
  go_wp2_with fail
  obtain ⟨W2, hW2⟩ : ∃ W2, W2 = w1.alloc (.cells #[.int .i64 key, .int .i64 sq, .slice (some ⟨gx, 0, none⟩) (len - 8) cx] 32) := ⟨_, rfl⟩
  obtain ⟨y, hy⟩ : ∃ y, w1.heap.size = y := ⟨_, rfl⟩
  have HG2 : Hid (w.grownBy W2 none ∧ W2.heap[y]? = some (.cells #[.int .i64 key, .int .i64 sq, .slice (some ⟨gx, 0, none⟩) (len - 8) cx] 32 (0, 0)) ∧ Own W2 5 gx (zs.drop 8) ∧ w.heap.size ≤ gx ∧ gx < y) := by
    subst hW2 hy
    exact ⟨grownBy_alloc HX.out.2.2 _, heap_alloc_new w1 _, HX.out.2.1.grown (World.grownBy_alloc _ _ none) (by simp), HX.out.1, HX.out.2.1.lt⟩
  rw [← hW2, hy]
  have HPB : Hid (W2.heap[p]? = some (.cells #[.int .i64 b, .slice (some ⟨gk, 0, none⟩) kn kc, .slice (some ⟨gs, 0, none⟩) ln sc] 28 (0, 0))) := (HG2.out.1.block p (Array.getElem?_eq_some_iff.1 HA.out.2.2.2.2.2.1).1 (by simp)).trans HA.out.2.2.2.2.2.1
  have p2 : W2.cell? ⟨p, 2, none⟩ = some (.slice (some ⟨gs, 0, none⟩) ln sc) := by simp [World.cell?, HPB.out]
  have y0 : W2.cell? ⟨y, 0, none⟩ = some (.int .i64 key) := by simp [World.cell?, HG2.out.2.1]
  have HS : Hid (∀ X : World, Same W2 X → Calls Tryd.prog 59 #[.slice (some ⟨gs, 0, none⟩) ln sc, .int .i64 key, .func (.func 60) #[] #[]] X fun e w2 => e = .returned (.tuple #[.int .i64 (k : Int), .bool true]) ∧ (w2.cell? ⟨p, 2, none⟩ = some (.slice (some ⟨gs, 0, none⟩) ln sc) ∧ w2.cell? ⟨y, 0, none⟩ = some (.int .i64 key)) ∧ Hid (W2.grownBy w2 none)) := by
    intro X hX
    obtain ⟨hS, hr, hn, hk, hln, -⟩ := HA.out
    have GX : W2.grownBy X none := grownBy_same (grownBy_refl _ _) hX
    have hSX : ElAt X 74 3 gs S := hS.kept (fun j hj _ => (grownBy_trans HG2.out.1 GX).block j hj (by simp))
    have h := search_any gs sc S key X hSX hr hn
    rw [hln] at h
    refine h.mono ?_
    rintro e w2 ⟨k', rfl, hk', hG2⟩
    obtain rfl := hk.one hk'
    have G3 : W2.grownBy w2 none := grownBy_trans GX hG2
    exact ⟨by rw [HK.out], ⟨((bcell G3).1 _ _ (cell_block_lt p2)).trans p2, ((bcell G3).1 _ _ (cell_block_lt y0)).trans y0⟩, G3⟩
  clear hW2 hy
  go_region_held3 (fun w' => w'.cell? ⟨p, 2, none⟩ = some (.slice (some ⟨gs, 0, none⟩) ln sc) ∧ w'.cell? ⟨y, 0, none⟩ = some (.int .i64 key)) (first | go_keep | exact ⟨p2, y0⟩ | exact hD | fail)
    (first
      | (go_at_call 59; refine (HS.out _ (by exact ⟨rfl, rfl, rfl, rfl⟩)).mono ?_; rintro e w2 ⟨rfl, hD, HG3⟩)
      | fail)
  all_goals
    clear p2 y0
    obtain ⟨p2, y0⟩ := hD
    have HYB : Hid (w2.heap[y]? = some (.cells #[.int .i64 key, .int .i64 sq, .slice (some ⟨gx, 0, none⟩) (len - 8) cx] 32 (0, 0)) ∧ w2.heap[p]? = some (.cells #[.int .i64 b, .slice (some ⟨gk, 0, none⟩) kn kc, .slice (some ⟨gs, 0, none⟩) ln sc] 28 (0, 0)) ∧ gx < y ∧ w.heap.size ≤ gx) := ⟨(HG3.out.block _ (Array.getElem?_eq_some_iff.1 HG2.out.2.1).1 (by simp)).trans HG2.out.2.1, (HG3.out.block _ (Array.getElem?_eq_some_iff.1 HPB.out).1 (by simp)).trans HPB.out, HG2.out.2.2.2.2, HG2.out.2.2.2.1⟩
    have y1 : w2.cell? ⟨y, 1, none⟩ = some (.int .i64 sq) := by simp [World.cell?, HYB.out.1]
    have p0 : w2.cell? ⟨p, 0, none⟩ = some (.int .i64 b) := by simp [World.cell?, HYB.out.2.1]
    have p1 : w2.cell? ⟨p, 1, none⟩ = some (.slice (some ⟨gk, 0, none⟩) kn kc) := by simp [World.cell?, HYB.out.2.1]
    have HG4 : Hid (w.grownBy w2 none ∧ Own w2 5 gx (zs.drop 8)) := ⟨grownBy_trans HG2.out.1 HG3.out, HG2.out.2.2.1.grown HG3.out (by simp)⟩
    have hS4 : ElAt w2 74 3 gs S := HA.out.1.kept (fun j hj _ => HG4.out.1.block j hj (by simp))
    obtain ⟨m0, m1, m2, hhd, s0, s1, s2, s3⟩ := hS4.get3 HA.out.2.2.2.2.2.2.1
    obtain ⟨rfl, rfl, rfl⟩ : n0 = m0 ∧ n1 = m1 ∧ n2 = m2 := by
      have h1 := HA.out.2.2.2.2.2.2.2.1
      rw [hhd] at h1
      simp at h1
      exact ⟨h1.1.symm, h1.2.1.symm, h1.2.2.symm⟩
    clear hS4 hhd s0 s2 s3
    have hkI : (k : Int) < (ln : Int) := by omega
    have hqn : ¬ (sq ≤ n1) := by omega
    clear HD HX HS HPB
    go_wp2
    go_quiet (fail)
    go_wp2_with fail
    refine (HCN.out _).mono ?_
    rintro e w3 ⟨rfl, hG5⟩
    have HG5 : Hid (w2.grownBy w3 none) := ⟨hG5.os, hG5.tape, hG5.output, hG5.size, hG5.block⟩
    clear hG5 HCN
    have c1 := (HA.out.2.2.2.2.2.2.2.2.grown (grownBy_trans HG4.out.1 HG5.out)).cell 1 (by decide)
    go_wp2
    go_quiet (fail)
    go_wp2
    go_ret2
    exact ⟨rfl, grownBy_same (grownBy_trans HG4.out.1 HG5.out) ⟨rfl, rfl, rfl, rfl⟩⟩
set_option maxRecDepth 4000 in
set_option maxHeartbeats 4000000 in
theorem apply_full_new (p gk kn kc gs sc : Nat) (b : Int) (S : List El) (k : Nat) (oa : Option Addr) (len cap : Nat) (zs : List Nat) (ad : Nat → Addr) (w : World) (hsl : SlB w oa len zs) (hcp : len ≤ cap) (hm : len ≤ 1073741824) (hd : decGood zs)
    (hp : w.heap[p]? = some (.cells #[.int .i64 b, .slice (some ⟨gk, 0, none⟩) kn kc, .slice (some ⟨gs, 0, none⟩) S.length sc] 28 (0, 0))) (hS : ElAt w 74 3 gs S) (hr : risesE 0 S) (hn : S.length ≤ 1048576) (hb : -1000000000000 ≤ b ∧ b ≤ 1000000000000) (hkn : kn ≤ 1048576)
    (hk : Spot S (decCl zs : Int) k) (hku : knownAt S (decCl zs : Int) k = false) (hE : ErrsAt w ad) (hfull : b + (kn : Int) = 1000000) :
    Calls Tryd.prog 35 #[.pointer (some ⟨p, 0, none⟩), .slice oa len cap] w fun e w' => e = .returned (.tuple #[.int .i64 0, .iface 150 (.pointer (some (ad 1)))]) ∧ w.grownBy w' none := by
  have h8 : 8 ≤ len := by have h1 := hd.1; have h2 := hsl.1; omega
  have e0 : ((len : Int) == 0) = false := by have : (len : Int) ≠ 0 := by omega
                                             simpa using this
  have HD : Hid (Calls Tryd.prog 11 #[.slice oa len cap] w fun e w' => ∃ g cp, e = .returned (.tuple #[.agg #[.int .i64 (decCl zs : Int), .int .i64 (decSq zs : Int), .slice (some ⟨g, 0, none⟩) (len - 8) cp], .int .i64 0]) ∧ w.heap.size ≤ g ∧ Own w' 5 g (zs.drop 8) ∧ w.grownBy w' none) := decItem_good oa len cap zs w hsl hcp hm hd
  have HL : Hid ((zs.drop 8).length = len - 8) := by have := hsl.1; show _ = _; simp; omega
  obtain ⟨key, hkey⟩ : ∃ key : Int, (decCl zs : Int) = key := ⟨_, rfl⟩
  obtain ⟨sq, hsq⟩ : ∃ sq : Int, (decSq zs : Int) = sq := ⟨_, rfl⟩
  obtain ⟨ln, hln⟩ : ∃ ln, S.length = ln := ⟨_, rfl⟩
  rw [hln] at hp
  have HQ : Hid ((decCl zs : Int) = key ∧ (decSq zs : Int) = sq ∧ zs.length = len) := ⟨hkey, hsq, hsl.1⟩
  rw [hkey] at HD hk hku
  rw [hsq] at HD
  have HK : Hid (knownAt S key k = false) := hku
  clear hku
  have HA : Hid (ElAt w 74 3 gs S ∧ risesE 0 S ∧ S.length ≤ 1048576 ∧ Spot S key k ∧ S.length = ln ∧ w.heap[p]? = some (.cells #[.int .i64 b, .slice (some ⟨gk, 0, none⟩) kn kc, .slice (some ⟨gs, 0, none⟩) ln sc] 28 (0, 0)) ∧ ErrsAt w ad) := ⟨hS, hr, hn, hk, hln, hp, hE⟩
  have HLN : Hid (ln ≤ 1048576) := by show _ ≤ _; omega
  have HCN : Hid (∀ X : World, Calls Tryd.prog 38 #[.agg #[.int .i64 b, .slice (some ⟨gk, 0, none⟩) kn kc, .slice (some ⟨gs, 0, none⟩) ln sc]] X fun e w' => e = .returned (.int .i64 (b + (kn : Int))) ∧ X.grownBy w' none) := fun X => countE_any b _ kn kc _ X hb hkn
  clear hE hsl hd hp hS hr hn hk hkey hsq hln hb hkn
  go_enter Tryd.func35, Tryd.ntmps35
  go_wp2_with fail
  refine HD.out.mono ?_
  rintro e w1 ⟨gx, cx, rfl, hgx, hO1, hG1⟩
  have HX : Hid (w.heap.size ≤ gx ∧ Own w1 5 gx (zs.drop 8) ∧ w.grownBy w1 none) := ⟨hgx, hO1, hG1⟩
  clear hgx hO1 hG1
  go_wp2_with fail
  obtain ⟨W2, hW2⟩ : ∃ W2, W2 = w1.alloc (.cells #[.int .i64 key, .int .i64 sq, .slice (some ⟨gx, 0, none⟩) (len - 8) cx] 32) := ⟨_, rfl⟩
  obtain ⟨y, hy⟩ : ∃ y, w1.heap.size = y := ⟨_, rfl⟩
  have HG2 : Hid (w.grownBy W2 none ∧ W2.heap[y]? = some (.cells #[.int .i64 key, .int .i64 sq, .slice (some ⟨gx, 0, none⟩) (len - 8) cx] 32 (0, 0)) ∧ Own W2 5 gx (zs.drop 8) ∧ w.heap.size ≤ gx ∧ gx < y) := by
    subst hW2 hy
    exact ⟨grownBy_alloc HX.out.2.2 _, heap_alloc_new w1 _, HX.out.2.1.grown (World.grownBy_alloc _ _ none) (by simp), HX.out.1, HX.out.2.1.lt⟩
  rw [← hW2, hy]
  have HPB : Hid (W2.heap[p]? = some (.cells #[.int .i64 b, .slice (some ⟨gk, 0, none⟩) kn kc, .slice (some ⟨gs, 0, none⟩) ln sc] 28 (0, 0))) := (HG2.out.1.block p (Array.getElem?_eq_some_iff.1 HA.out.2.2.2.2.2.1).1 (by simp)).trans HA.out.2.2.2.2.2.1
  have p2 : W2.cell? ⟨p, 2, none⟩ = some (.slice (some ⟨gs, 0, none⟩) ln sc) := by simp [World.cell?, HPB.out]
  have y0 : W2.cell? ⟨y, 0, none⟩ = some (.int .i64 key) := by simp [World.cell?, HG2.out.2.1]
  have HS : Hid (∀ X : World, Same W2 X → Calls Tryd.prog 59 #[.slice (some ⟨gs, 0, none⟩) ln sc, .int .i64 key, .func (.func 60) #[] #[]] X fun e w2 => e = .returned (.tuple #[.int .i64 (k : Int), .bool false]) ∧ (w2.cell? ⟨p, 2, none⟩ = some (.slice (some ⟨gs, 0, none⟩) ln sc) ∧ w2.cell? ⟨y, 0, none⟩ = some (.int .i64 key)) ∧ Hid (W2.grownBy w2 none)) := by
    intro X hX
    obtain ⟨hS, hr, hn, hk, hln, -⟩ := HA.out
    have GX : W2.grownBy X none := grownBy_same (grownBy_refl _ _) hX
    have hSX : ElAt X 74 3 gs S := hS.kept (fun j hj _ => (grownBy_trans HG2.out.1 GX).block j hj (by simp))
    have h := search_any gs sc S key X hSX hr hn
    rw [hln] at h
    refine h.mono ?_
    rintro e w2 ⟨k', rfl, hk', hG2⟩
    obtain rfl := hk.one hk'
    have G3 : W2.grownBy w2 none := grownBy_trans GX hG2
    exact ⟨by rw [HK.out], ⟨((bcell G3).1 _ _ (cell_block_lt p2)).trans p2, ((bcell G3).1 _ _ (cell_block_lt y0)).trans y0⟩, G3⟩
  clear hW2 hy
  go_region_held3 (fun w' => w'.cell? ⟨p, 2, none⟩ = some (.slice (some ⟨gs, 0, none⟩) ln sc) ∧ w'.cell? ⟨y, 0, none⟩ = some (.int .i64 key)) (first | go_keep | exact ⟨p2, y0⟩ | exact hD | fail)
    (first
      | (go_at_call 59; refine (HS.out _ (by exact ⟨rfl, rfl, rfl, rfl⟩)).mono ?_; rintro e w2 ⟨rfl, hD, HG3⟩)
      | fail)
  all_goals
    clear p2 y0
    obtain ⟨p2, y0⟩ := hD
    have HYB : Hid (w2.heap[y]? = some (.cells #[.int .i64 key, .int .i64 sq, .slice (some ⟨gx, 0, none⟩) (len - 8) cx] 32 (0, 0)) ∧ w2.heap[p]? = some (.cells #[.int .i64 b, .slice (some ⟨gk, 0, none⟩) kn kc, .slice (some ⟨gs, 0, none⟩) ln sc] 28 (0, 0)) ∧ gx < y ∧ w.heap.size ≤ gx) := ⟨(HG3.out.block _ (Array.getElem?_eq_some_iff.1 HG2.out.2.1).1 (by simp)).trans HG2.out.2.1, (HG3.out.block _ (Array.getElem?_eq_some_iff.1 HPB.out).1 (by simp)).trans HPB.out, HG2.out.2.2.2.2, HG2.out.2.2.2.1⟩
    have y1 : w2.cell? ⟨y, 1, none⟩ = some (.int .i64 sq) := by simp [World.cell?, HYB.out.1]
    have p0 : w2.cell? ⟨p, 0, none⟩ = some (.int .i64 b) := by simp [World.cell?, HYB.out.2.1]
    have p1 : w2.cell? ⟨p, 1, none⟩ = some (.slice (some ⟨gk, 0, none⟩) kn kc) := by simp [World.cell?, HYB.out.2.1]
    have HG4 : Hid (w.grownBy w2 none ∧ Own w2 5 gx (zs.drop 8)) := ⟨grownBy_trans HG2.out.1 HG3.out, HG2.out.2.2.1.grown HG3.out (by simp)⟩
    clear HD HX HS HPB
    go_wp2
    go_quiet (fail)
    go_wp2_with fail
    refine (HCN.out _).mono ?_
    rintro e w3 ⟨rfl, hG5⟩
    have HG5 : Hid (w2.grownBy w3 none) := ⟨hG5.os, hG5.tape, hG5.output, hG5.size, hG5.block⟩
    clear hG5 HCN
    have c1 := (HA.out.2.2.2.2.2.2.grown (grownBy_trans HG4.out.1 HG5.out)).cell 1 (by decide)
    go_wp2
    go_quiet (fail)
    go_wp2
    go_ret2
    exact ⟨rfl, grownBy_same (grownBy_trans HG4.out.1 HG5.out) ⟨rfl, rfl, rfl, rfl⟩⟩
end Go.Proofs.YtdajcpcajdhplaaDoor
