/-
  The program's apply: where it changes nothing (no data, data that is no item, an item that comes again).
-/
import Derived.Test.YtdajcpcajdhplaaDoorAgain
import Derived.Test.YtdajcpcajdhplaaDoorItemDec3
import Derived.Deep.RegionHeld3
namespace Go.Proofs.YtdajcpcajdhplaaDoor
open Go.RowKit

theorem decItem_good (oa : Option Addr) (len cap : Nat) (zs : List Nat) (w : World) (hsl : SlB w oa len zs) (hcp : len ≤ cap) (hm : len ≤ 1073741824) (hd : decGood zs) :
    Calls Tryd.prog 11 #[.slice oa len cap] w fun e w' => ∃ g cp, e = .returned (.tuple #[.agg #[.int .i64 (decCl zs : Int), .int .i64 (decSq zs : Int), .slice (some ⟨g, 0, none⟩) (len - 8) cp], .int .i64 0]) ∧ w.heap.size ≤ g ∧ Own w' 5 g (zs.drop 8) ∧ w.grownBy w' none := by
  have hl := hsl.1
  refine (implDecodeItem_long oa len cap zs w hsl (by have := hd.1; omega) hcp hm).mono ?_
  rintro e w' (⟨hk, h⟩ | ⟨hk, h⟩)
  · exact h
  · exact absurd (by have := hd.2; rwa [hl] at this) hk
theorem decItem_bad (oa : Option Addr) (len cap : Nat) (zs : List Nat) (w : World) (hsl : SlB w oa len zs) (hcp : len ≤ cap) (hm : len ≤ 1073741824) (hd : ¬ decGood zs) :
    Calls Tryd.prog 11 #[.slice oa len cap] w fun e w' => e = .returned (.tuple #[.agg #[.int .i64 0, .int .i64 0, .slice none 0 0], .int .i64 5]) ∧ w.grownBy w' none := by
  have hl := hsl.1
  by_cases h8 : 8 ≤ len
  · refine (implDecodeItem_long oa len cap zs w hsl h8 hcp hm).mono ?_
    rintro e w' (⟨hk, h⟩ | ⟨hk, h⟩)
    · exact absurd ⟨by omega, by rw [hl]; exact hk⟩ hd
    · exact h
  · exact implDecodeItem_short oa len cap w (by omega)
theorem Spot.one {S : List El} {key : Int} {k j : Nat} (h : Spot S key k) (h' : Spot S key j) : k = j := by
  have aux : ∀ {a c : Nat}, Spot S key a → Spot S key c → ¬ a < c := fun {a c} ha hc hac => by
    have hle := hc.le
    have hx := List.getElem?_eq_getElem (l := S) (i := a) (by omega)
    have h1 := hc.lo a _ hac hx
    have h2 := ha.hi a _ (Nat.le_refl _) hx
    omega
  have h1 := aux h h'
  have h2 := aux h' h
  omega
theorem spot_ex (S : List El) (key : Int) : ∀ b, risesE b S → ∃ k, Spot S key k := by
  induction S with
  | nil => intro b _; exact ⟨0, Nat.le_refl _, fun i x hi => absurd hi (by omega), fun i x _ h => by simp at h⟩
  | cons y S ih =>
    intro b hb
    by_cases hy : y.c < key
    · obtain ⟨k, h⟩ := ih y.c hb.2
      refine ⟨k + 1, by simpa using h.le, fun i x hi hx => ?_, fun i x hi hx => ?_⟩
      · cases i with
        | zero => simp at hx; subst hx; exact hy
        | succ i => exact h.lo i x (by omega) (by simpa using hx)
      · cases i with
        | zero => omega
        | succ i => exact h.hi i x (by omega) (by simpa using hx)
    · refine ⟨0, Nat.zero_le _, fun i x hi => absurd hi (by omega), fun i x _ hx => ?_⟩
      cases i with
      | zero => simp at hx; subst hx; omega
      | succ i =>
        have := risesE_lt S y.c hb.2 i x (by simpa using hx)
        omega
set_option maxRecDepth 4000 in
set_option maxHeartbeats 1000000 in
theorem apply_empty (p : Value) (oa : Option Addr) (cap : Nat) (w : World) :
    Calls Tryd.prog 35 #[p, .slice oa 0 cap] w fun e w' => e = .returned (.tuple #[.int .i64 0, .nilIface]) ∧ w.grownBy w' none := by
  go_enter Tryd.func35, Tryd.ntmps35
  go_wp2
  go_ret2
  exact ⟨rfl, grownBy_refl _ _⟩
set_option maxRecDepth 4000 in
set_option maxHeartbeats 1000000 in
theorem apply_bad (p : Value) (oa : Option Addr) (len cap : Nat) (zs : List Nat) (ad : Nat → Addr) (w : World) (hE : ErrsAt w ad) (hsl : SlB w oa len zs) (h0 : 0 < len) (hcp : len ≤ cap) (hm : len ≤ 1073741824) (hd : ¬ decGood zs) :
    Calls Tryd.prog 35 #[p, .slice oa len cap] w fun e w' => e = .returned (.tuple #[.int .i64 0, .iface 150 (.pointer (some (ad 0)))]) ∧ w.grownBy w' none := by
  have HD : Hid (Calls Tryd.prog 11 #[.slice oa len cap] w fun e w' => e = .returned (.tuple #[.agg #[.int .i64 0, .int .i64 0, .slice none 0 0], .int .i64 5]) ∧ w.grownBy w' none) := decItem_bad oa len cap zs w hsl hcp hm hd
  have HE : Hid (ErrsAt w ad) := hE
  have e0 : ((len : Int) == 0) = false := by have : (len : Int) ≠ 0 := by omega
                                             simpa using this
  clear hE hsl hd h0
  go_enter Tryd.func35, Tryd.ntmps35
  go_wp2_with fail
  refine HD.out.mono ?_
  rintro e w1 ⟨rfl, hG1⟩
  have HG1 : Hid (w.grownBy w1 none) := hG1
  have c0 := (HE.out.grown hG1).cell 0 (by decide)
  have l0 := cell_block_lt c0
  simp only at l0
  have n0 : ¬ (w1.heap.size = 0) := by omega
  have n1 : ¬ (0 = w1.heap.size) := by omega
  clear hG1
  go_wp2
  go_quiet (fail)
  go_wp2
  go_ret2
  refine ⟨rfl, ?_⟩
  exact grownBy_same (grownBy_alloc HG1.out _) ⟨rfl, rfl, rfl, rfl⟩
set_option maxRecDepth 4000 in
set_option maxHeartbeats 2000000 in
theorem apply_again (p gk kn kc gs sc : Nat) (b : Int) (S : List El) (k : Nat) (x : El) (oa : Option Addr) (len cap : Nat) (zs : List Nat) (ad : Nat → Addr) (w : World) (hE : ErrsAt w ad) (hsl : SlB w oa len zs) (hcp : len ≤ cap) (hm : len ≤ 1073741824) (hd : decGood zs)
    (hp : w.heap[p]? = some (.cells #[.int .i64 b, .slice (some ⟨gk, 0, none⟩) kn kc, .slice (some ⟨gs, 0, none⟩) S.length sc] 28 (0, 0))) (hS : ElAt w 74 3 gs S) (hr : risesE 0 S) (hn : S.length ≤ 1048576)
    (hk : Spot S (decCl zs : Int) k) (hx : S[k]? = some x) (hxc : x.c = (decCl zs : Int)) (hq : (decSq zs : Int) ≤ x.q) :
    Calls Tryd.prog 35 #[.pointer (some ⟨p, 0, none⟩), .slice oa len cap] w fun e w' => ((sameItem x.q x.d (decSq zs : Int) (zs.drop 8) ∧ e = .returned (.tuple #[.int .i64 x.i, .nilIface])) ∨ (¬ sameItem x.q x.d (decSq zs : Int) (zs.drop 8) ∧ e = .returned (.tuple #[.int .i64 0, .iface 150 (.pointer (some (ad 4)))]))) ∧ w.grownBy w' none := by
  have h8 : 8 ≤ len := by have h1 := hd.1; have h2 := hsl.1; omega
  have e0 : ((len : Int) == 0) = false := by have : (len : Int) ≠ 0 := by omega
                                             simpa using this
  have HD : Hid (Calls Tryd.prog 11 #[.slice oa len cap] w fun e w' => ∃ g cp, e = .returned (.tuple #[.agg #[.int .i64 (decCl zs : Int), .int .i64 (decSq zs : Int), .slice (some ⟨g, 0, none⟩) (len - 8) cp], .int .i64 0]) ∧ w.heap.size ≤ g ∧ Own w' 5 g (zs.drop 8) ∧ w.grownBy w' none) := decItem_good oa len cap zs w hsl hcp hm hd
  have HL : Hid ((zs.drop 8).length = len - 8) := by have := hsl.1; show _ = _; simp; omega
  obtain ⟨n0, n1, n2, hhd, -⟩ := hS.get3 hx
  obtain ⟨q0, q1, q2⟩ := El.hd3 hhd
  rw [q1] at hq ⊢
  rw [q2]
  rw [q0] at hxc
  obtain ⟨key, hkey⟩ : ∃ key : Int, (decCl zs : Int) = key := ⟨_, rfl⟩
  obtain ⟨sq, hsq⟩ : ∃ sq : Int, (decSq zs : Int) = sq := ⟨_, rfl⟩
  rw [hkey] at HD hk hxc
  rw [hsq] at HD hq ⊢
  obtain ⟨ln, hln⟩ : ∃ ln, S.length = ln := ⟨_, rfl⟩
  rw [hln] at hp
  have hkl : k < ln := by have := (List.getElem?_eq_some_iff.1 hx).1; omega
  have HK : Hid (knownAt S key k = true) := by show _ = _; unfold knownAt; rw [hx]; simp [q0, hxc]
  have HA : Hid (ErrsAt w ad ∧ ElAt w 74 3 gs S ∧ risesE 0 S ∧ S.length ≤ 1048576 ∧ Spot S key k ∧ S[k]? = some x ∧ x.hd = [n0, n1, n2] ∧ S.length = ln ∧ w.heap[p]? = some (.cells #[.int .i64 b, .slice (some ⟨gk, 0, none⟩) kn kc, .slice (some ⟨gs, 0, none⟩) ln sc] 28 (0, 0))) := ⟨hE, hS, hr, hn, hk, hx, hhd, hln, hp⟩
  have HLN : Hid (ln ≤ 1048576) := by show _ ≤ _; omega
  clear hE hsl hd hp hS hr hn hk hx hhd q0 q1 q2 hxc hkey hsq hln
  go_enter Tryd.func35, Tryd.ntmps35
  go_wp2_with fail
  refine HD.out.mono ?_
  rintro e w1 ⟨gx, cx, rfl, hgx, hO1, hG1⟩
  have hpl : p < w1.heap.size := Nat.lt_of_lt_of_le (Array.getElem?_eq_some_iff.1 HA.out.2.2.2.2.2.2.2.2).1 hG1.size
  have HX : Hid (w.heap.size ≤ gx ∧ Own w1 5 gx (zs.drop 8) ∧ w.grownBy w1 none) := ⟨hgx, hO1, hG1⟩
  clear hgx hO1 hG1
  go_wp2_with fail
  obtain ⟨W2, hW2⟩ : ∃ W2, W2 = w1.alloc (.cells #[.int .i64 key, .int .i64 sq, .slice (some ⟨gx, 0, none⟩) (len - 8) cx] 32) := ⟨_, rfl⟩
  obtain ⟨y, hy⟩ : ∃ y, w1.heap.size = y := ⟨_, rfl⟩
  have HG2 : Hid (w.grownBy W2 none ∧ W2.heap[y]? = some (.cells #[.int .i64 key, .int .i64 sq, .slice (some ⟨gx, 0, none⟩) (len - 8) cx] 32 (0, 0)) ∧ Own W2 5 gx (zs.drop 8)) := by
    subst hW2 hy
    exact ⟨grownBy_alloc HX.out.2.2 _, heap_alloc_new w1 _, HX.out.2.1.grown (World.grownBy_alloc _ _ none) (by simp)⟩
  rw [← hW2, hy]
  have p2 : W2.cell? ⟨p, 2, none⟩ = some (.slice (some ⟨gs, 0, none⟩) ln sc) := by
    have := (HG2.out.1.block p (Array.getElem?_eq_some_iff.1 HA.out.2.2.2.2.2.2.2.2).1 (by simp)).trans HA.out.2.2.2.2.2.2.2.2
    simp [World.cell?, this]
  have y0 : W2.cell? ⟨y, 0, none⟩ = some (.int .i64 key) := by simp [World.cell?, HG2.out.2.1]
  have HS : Hid (∀ X : World, Same W2 X → Calls Tryd.prog 59 #[.slice (some ⟨gs, 0, none⟩) ln sc, .int .i64 key, .func (.func 60) #[] #[]] X fun e w2 => e = .returned (.tuple #[.int .i64 (k : Int), .bool true]) ∧ (w2.cell? ⟨p, 2, none⟩ = some (.slice (some ⟨gs, 0, none⟩) ln sc) ∧ w2.cell? ⟨y, 0, none⟩ = some (.int .i64 key)) ∧ Hid (W2.grownBy w2 none)) := by
    intro X hX
    obtain ⟨hE, hS, hr, hn, hk, hx, hhd, hln, hp⟩ := HA.out
    have GX : W2.grownBy X none := grownBy_same (grownBy_refl _ _) hX
    have hSX : ElAt X 74 3 gs S := hS.kept (fun j hj _ => (grownBy_trans HG2.out.1 GX).block j hj (by simp))
    have h := search_any gs sc S key X hSX hr hn
    rw [hln] at h
    refine h.mono ?_
    rintro e w2 ⟨k', rfl, hk', hG2⟩
    obtain rfl := hk.one hk'
    have G3 : W2.grownBy w2 none := grownBy_trans GX hG2
    exact ⟨by rw [HK.out], ⟨((bcell G3).1 _ _ (cell_block_lt p2)).trans p2, ((bcell G3).1 _ _ (cell_block_lt y0)).trans y0⟩, G3⟩
  clear hW2 hy hpl
  go_region_held3 (fun w' => w'.cell? ⟨p, 2, none⟩ = some (.slice (some ⟨gs, 0, none⟩) ln sc) ∧ w'.cell? ⟨y, 0, none⟩ = some (.int .i64 key)) (first | go_keep | exact ⟨p2, y0⟩ | exact hD | fail)
    (first
      | (go_at_call 59; refine (HS.out _ (by exact ⟨rfl, rfl, rfl, rfl⟩)).mono ?_; rintro e w2 ⟨rfl, hD, HG3⟩)
      | fail)
  all_goals
    clear p2 y0
    obtain ⟨p2, y0⟩ := hD
    have y1 : w2.cell? ⟨y, 1, none⟩ = some (.int .i64 sq) := ((bcell HG3.out).1 _ _ (Array.getElem?_eq_some_iff.1 HG2.out.2.1).1).trans (by simp [World.cell?, HG2.out.2.1])
    have y2 : w2.cell? ⟨y, 2, none⟩ = some (.slice (some ⟨gx, 0, none⟩) (len - 8) cx) := ((bcell HG3.out).1 _ _ (Array.getElem?_eq_some_iff.1 HG2.out.2.1).1).trans (by simp [World.cell?, HG2.out.2.1])
    have HG4 : Hid (w.grownBy w2 none ∧ Own w2 5 gx (zs.drop 8)) := ⟨grownBy_trans HG2.out.1 HG3.out, HG2.out.2.2.grown HG3.out (by simp)⟩
    have hS4 : ElAt w2 74 3 gs S := HA.out.2.1.kept (fun j hj _ => HG4.out.1.block j hj (by simp))
    obtain ⟨m0, m1, m2, hhd, s0, s1, s2, s3⟩ := hS4.get3 HA.out.2.2.2.2.2.1
    obtain ⟨rfl, rfl, rfl⟩ : n0 = m0 ∧ n1 = m1 ∧ n2 = m2 := by
      have h1 := HA.out.2.2.2.2.2.2.1
      rw [hhd] at h1
      simp at h1
      exact ⟨h1.1.symm, h1.2.1.symm, h1.2.2.symm⟩
    have HPA : Hid (∀ X : World, Same w2 X → Calls Tryd.prog 61 #[.agg #[.int .i64 n0, .int .i64 n1, .int .i64 n2, .slice (oad x.o) x.d.length x.cp], .agg #[.int .i64 key, .int .i64 sq, .slice (some ⟨gx, 0, none⟩) (len - 8) cx]] X fun e w' => ∃ v1 v2, e = .returned (.tuple #[v1, v2]) ∧ Hid ((sameItem n1 x.d sq (zs.drop 8) ∧ v1 = .int .i64 n2 ∧ v2 = .nilIface) ∨ (¬ sameItem n1 x.d sq (zs.drop 8) ∧ v1 = .int .i64 0 ∧ v2 = .iface 150 (.pointer (some (ad 4))))) ∧ (w'.cell? ⟨p, 2, none⟩ = some (.slice (some ⟨gs, 0, none⟩) ln sc) ∧ w'.cell? ⟨y, 0, none⟩ = some (.int .i64 key) ∧ w'.cell? ⟨y, 1, none⟩ = some (.int .i64 sq) ∧ w'.cell? ⟨y, 2, none⟩ = some (.slice (some ⟨gx, 0, none⟩) (len - 8) cx) ∧ w'.cell? ⟨gs, k * 4, none⟩ = some (.int .i64 n0) ∧ w'.cell? ⟨gs, k * 4 + 1, none⟩ = some (.int .i64 n1) ∧ w'.cell? ⟨gs, k * 4 + 2, none⟩ = some (.int .i64 n2) ∧ w'.cell? ⟨gs, k * 4 + 3, none⟩ = some (.slice (oad x.o) x.d.length x.cp)) ∧ Hid (w.grownBy w' none)) := by
      intro X hX
      have GX : w2.grownBy X none := grownBy_same (grownBy_refl _ _) hX
      have GW : w.grownBy X none := grownBy_trans HG4.out.1 GX
      refine (placeAgain_any n0 n1 n2 (oad x.o) x.d.length x.cp x.d key sq (some ⟨gx, 0, none⟩) (len - 8) cx (zs.drop 8) ad X (HA.out.1.grown GW) ((hS4.own k x HA.out.2.2.2.2.2.1).2.1.sl.grown0 GX) ((HG4.out.2.sl _ HL.out).grown0 GX)).mono ?_
      rintro e w' ⟨h1, h2⟩
      have G5 : w2.grownBy w' none := grownBy_trans GX h2
      have hc : ∀ {a o v}, w2.cell? ⟨a, o, none⟩ = some v → w'.cell? ⟨a, o, none⟩ = some v := fun h => ((bcell G5).1 _ _ (cell_block_lt h)).trans h
      rcases h1 with ⟨h1, rfl⟩ | ⟨h1, rfl⟩
      · exact ⟨_, _, rfl, .inl ⟨h1, rfl, rfl⟩, ⟨hc p2, hc y0, hc y1, hc y2, hc s0, hc s1, hc s2, hc s3⟩, grownBy_trans GW h2⟩
      · exact ⟨_, _, rfl, .inr ⟨h1, rfl, rfl⟩, ⟨hc p2, hc y0, hc y1, hc y2, hc s0, hc s1, hc s2, hc s3⟩, grownBy_trans GW h2⟩
    clear hS4 hhd HD HX
    obtain ⟨vd, hvd⟩ : ∃ vd, Value.slice (oad x.o) x.d.length x.cp = vd := ⟨_, rfl⟩
    rw [hvd] at s3 HPA
    clear hvd
    obtain ⟨vx, hvx⟩ : ∃ vx, Value.slice (some ⟨gx, 0, none⟩) (len - 8) cx = vx := ⟨_, rfl⟩
    rw [hvx] at y2 HPA
    clear hvx
    have hkI : (k : Int) < (ln : Int) := by omega
    go_wp2
    go_quiet (fail)
    go_wp2_with fail
    go_region_held3 (fun W => W.cell? ⟨p, 2, none⟩ = some (.slice (some ⟨gs, 0, none⟩) ln sc) ∧ W.cell? ⟨y, 0, none⟩ = some (.int .i64 key) ∧ W.cell? ⟨y, 1, none⟩ = some (.int .i64 sq) ∧ W.cell? ⟨y, 2, none⟩ = some vx ∧ W.cell? ⟨gs, k * 4, none⟩ = some (.int .i64 n0) ∧ W.cell? ⟨gs, k * 4 + 1, none⟩ = some (.int .i64 n1) ∧ W.cell? ⟨gs, k * 4 + 2, none⟩ = some (.int .i64 n2) ∧ W.cell? ⟨gs, k * 4 + 3, none⟩ = some vd) (first | go_keep | exact ⟨p2, y0, y1, y2, s0, s1, s2, s3⟩ | exact hD2 | fail)
      (first
        | (go_at_call 61; refine (HPA.out _ (by exact ⟨rfl, rfl, rfl, rfl⟩)).mono ?_; rintro e w3 ⟨v1, v2, rfl, HV, hD2, HG5⟩)
        | fail)
    all_goals
      go_wp2
      go_ret2
      rcases HV.out with ⟨h1, rfl, rfl⟩ | ⟨h1, rfl, rfl⟩
      · exact ⟨.inl ⟨h1, rfl⟩, HG5.out⟩
      · exact ⟨.inr ⟨h1, rfl⟩, HG5.out⟩
end Go.Proofs.YtdajcpcajdhplaaDoor
