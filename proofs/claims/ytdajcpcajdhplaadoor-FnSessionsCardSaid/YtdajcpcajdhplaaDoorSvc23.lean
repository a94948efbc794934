/-
  StDec2, EncI, ItemEncI, ItemBd, SesInv, SesLoop
-/
import Derived.Test.YtdajcpcajdhplaaDoorSvc22
import Derived.Test.YtdajcpcajdhplaaDoorSvc4
import Derived.Test.YtdajcpcajdhplaaDoorSvc1
import Derived.Test.YtdajcpcajdhplaaDoorSvc21
import Derived.Deep.RegionHeld3
import Derived.Test.YtdajcpcajdhplaaDoorSvc12
import Derived.Test.YtdajcpcajdhplaaDoorSvc20
import Derived.Test.YtdajcpcajdhplaaDoorSvc13
import Derived.Deep.AppendLies
/-
  DecodeState, the program's, walked: the function.
-/
namespace Go.Proofs.YtdajcpcajdhplaaDoor
open Go.RowKit

theorem Tryd.infoSes : (Tryd.prog.info? 74).map (fun i => (i.zero, i.size, i.bytes)) = some (some (.agg #[.int .i64 0, .int .i64 0, .int .i64 0, .slice none 0 0]), 4, 48) := by kernel_rfl
theorem PS.row {w0 wl wx : World} {p r b : Nat} {wr : Bool} {zs : List Nat} {row : Option Nat} (h : PS w0 wl p r b wr zs) (hg : wl.grownBy wx row) (hrow : ∀ k, row = some k → r < k) : PS w0 wx p r b wr zs := by
  cases row with
  | none => exact h.more hg
  | some k =>
    have hk := hrow k rfl; have h1 := h.hp; have h2 := h.hr; have h3 := h.hb; obtain ⟨off, len, cap, r1, r2, r3⟩ := h.rd; exact ⟨grownBy_new h.grown hg (by omega), ⟨off, len, cap, r1.grown hg (by simp only [ne_eq, Option.some.injEq]; omega), slb_same r2 hg (Nat.lt_of_lt_of_le h3 h.grown.size) (by omega), r3⟩, (hg.block p h.plt (by simp only [ne_eq, Option.some.injEq]; omega)).trans h.pv, h.hb, h.hp, h.hr⟩
theorem grownBy_pastS {a b c : World} {s g : Nat} (h : a.grownBy b (some s)) (k : b.grownBy c (some g)) (hg : a.heap.size ≤ g) : a.grownBy c (some s) :=
  ⟨k.os.trans h.os, k.tape.trans h.tape, k.output.trans h.output, Nat.le_trans h.size k.size, fun j hj hne => (k.block j (Nat.lt_of_lt_of_le hj h.size) (by simp only [ne_eq, Option.some.injEq]; omega)).trans (h.block j hj hne)⟩
/-- .. with the service that is being made -/
structure DS (w0 wl : World) (p r s b B : Nat) (v : Value) (L : List Se) (wr : Bool) (zs : List Nat) : Prop where
  ps : PS w0 wl p r b wr zs
  sv : wl.heap[s]? = some (.cells #[.int .i64 (B : Int), .slice none 0 0, v] 28 (0, 0))
  row : SesRow wl (s + 1) v L
  rs : r < s
theorem DS.slt {w0 wl : World} {p r s b B : Nat} {v : Value} {L : List Se} {wr : Bool} {zs : List Nat} (h : DS w0 wl p r s b B v L wr zs) : s < wl.heap.size := (Array.getElem?_eq_some_iff.1 h.sv).1
theorem DS.cells {w0 wl : World} {p r s b B : Nat} {v : Value} {L : List Se} {wr : Bool} {zs : List Nat} (h : DS w0 wl p r s b B v L wr zs) : wl.cell? ⟨s, 0, none⟩ = some (.int .i64 (B : Int)) ∧ wl.cell? ⟨s, 1, none⟩ = some (.slice none 0 0) ∧ wl.cell? ⟨s, 2, none⟩ = some v ∧ wl.frozen? ⟨s, 2, none⟩ = false := by
  have := h.sv
  simp [World.cell?, World.frozen?, this]
theorem DS.step {w0 wl wx : World} {p r s b B : Nat} {v : Value} {L : List Se} {wr wr' : Bool} {zs zs' : List Nat} (h : DS w0 wl p r s b B v L wr zs) (hps : PS w0 wx p r b wr' zs') (hg : wl.grownBy wx (some r)) : DS w0 wx p r s b B v L wr' zs' :=
  ⟨hps, (hg.block s h.slt (by have := h.rs; simp only [ne_eq, Option.some.injEq]; omega)).trans h.sv, h.row.grown hg (fun k e => by have := h.rs; simp only [Option.some.injEq] at e; omega), h.rs⟩
theorem DS.more {w0 wl wx : World} {p r s b B : Nat} {v : Value} {L : List Se} {wr : Bool} {zs : List Nat} (h : DS w0 wl p r s b B v L wr zs) (hg : wl.grownBy wx none) : DS w0 wx p r s b B v L wr zs :=
  ⟨h.ps.more hg, (hg.block s h.slt (by simp)).trans h.sv, h.row.grown hg (by simp), h.rs⟩
theorem DS.put {w0 wl wa : World} {p r s b B : Nat} {v v' : Value} {L : List Se} {wr : Bool} {zs : List Nat} (h : DS w0 wl p r s b B v L wr zs) (x : Se) (hx : SeOwn wl (s + 1) x) (hn : ∀ g, x.o = some g → g ∉ L.filterMap Se.o)
    (hown : wa.ownsRow (s + 1) 74 4 v' (L.length + 1) (L.flatMap Se.cells ++ x.cells)) (hg : wl.grownBy wa v.ownBlock) : DS w0 (wa.setCell ⟨s, 2, none⟩ v') p r s b B v' (L ++ [x]) wr zs := by
  have hrs := h.rs
  have hv : ∀ k, v.ownBlock = some k → s + 1 ≤ k := fun k e => (h.row.1.lt k e).1
  have hset : wa.grownBy (wa.setCell ⟨s, 2, none⟩ v') (some s) := grownBy_setCell (grownBy_refl _ _); have hsv : wa.heap[s]? = some (.cells #[.int .i64 (B : Int), .slice none 0 0, v] 28 (0, 0)) := (hg.block s h.slt (fun e => by have := hv s e.symm; omega)).trans h.sv; refine ⟨(h.ps.row hg (fun k e => by have := hv k e; omega)).row hset (fun k e => by simp only [Option.some.injEq] at e; omega), heap_setCell_same wa s 2 _ _ _ hsv, ?_, hrs⟩; exact (h.row.append hx hn hown hg).grown hset (fun k e => by simp only [Option.some.injEq] at e; omega)
def DecRes (w w' : World) (e : Ending) (zs : List Nat) : Prop :=
  w.grownBy w' none ∧ ((∃ B L v, e = .returned (.tuple #[.agg #[.int .i64 ((B : Nat) : Int), .slice none 0 0, v], .int .i64 0]) ∧ ValidS B (L.map Se.tell) ∧ encSt B (L.map Se.tell) = zs ∧ SesRow w' w.heap.size v L) ∨
    ((∀ B l, ValidS B l → encSt B l ≠ zs) ∧ e = .returned (.tuple #[.agg #[.int .i64 0, .slice none 0 0, .slice none 0 0], .int .i64 5])))
def SeSmall (x : Se) : Prop := x.c ≤ 1000000000 ∧ x.q ≤ 1000000000 ∧ x.i ≤ 1000000000 ∧ x.d.length ≤ 1073741824
theorem SeSmall.tell {x : Se} (h : SeSmall x) : smallS x.tell := by
  obtain ⟨h1, h2, h3, h4⟩ := h
  unfold smallS P64 Se.tell
  refine ⟨?_, ?_, ?_, ?_⟩ <;> simp only <;> omega
theorem small_all {L : List Se} (h : ∀ x ∈ L, SeSmall x) : ∀ x ∈ L.map Se.tell, smallS x := by
  intro x hx; obtain ⟨y, hy, rfl⟩ := List.mem_map.1 hx; exact (h y hy).tell
set_option maxRecDepth 4000 in
set_option maxHeartbeats 4000000 in
theorem implDecodeState_any (b off len cap : Nat) (zs : List Nat) (w : World) (hsl : SlB w (some ⟨b, off, none⟩) len zs) (hlc : len ≤ cap) (hm : cap ≤ maxLen) (hlen : len ≤ 1073741824) (hb : b < w.heap.size) :
    Calls Tryd.prog 16 #[.slice (some ⟨b, off, none⟩) len cap] w fun e w' => DecRes w w' e zs := by
  have P1 : PS w ((w.alloc (.cells #[.int .i64 0, .slice none 0 0, .slice none 0 0] 28)).alloc (.cells #[.slice (some ⟨b, off, none⟩) len cap, .bool false] 78)) w.heap.size (w.heap.size + 1) b false zs := by
    have G : w.grownBy ((w.alloc (.cells #[.int .i64 0, .slice none 0 0, .slice none 0 0] 28)).alloc (.cells #[.slice (some ⟨b, off, none⟩) len cap, .bool false] 78)) none := grownBy_alloc (World.grownBy_alloc w _ _) _; refine ⟨G, ⟨off, len, cap, ?_, hsl.grown0 G, hlc, hm, hlen⟩, ?_, hb, Nat.le_refl _, by omega⟩
    · exact heap_two w _ _
    · exact (Below.heap_alloc _ _ _ (by simp)).trans (heap_alloc_new w _)
  have HP1 : Hid (PS _ _ _ _ _ _ _) := P1; clear hsl P1
  go_enter Tryd.func16, Tryd.ntmps16
  go_wp2_with fail; refine HP1.out.number.mono ?_; rintro e w2 ⟨B, wr1, z1, rfl, hn1, hps1, -⟩
  have HD2 : Hid (DS w (w2.alloc (.cells #[.int .i64 (B : Int), .slice none 0 0, .slice none 0 0] 28)) w.heap.size (w.heap.size + 1) w2.heap.size b B (.slice none 0 0) [] wr1 z1 ∧ NumStep false zs B wr1 z1) := by
    refine ⟨⟨hps1.more (World.grownBy_alloc _ _ _), heap_alloc_new w2 _, SesRow.nil _ _, ?_⟩, hn1⟩; obtain ⟨_, _, _, h9, _⟩ := hps1.rd; exact h9.lt
  clear hn1 hps1 HP1; go_wp2_with fail; refine HD2.out.1.ps.number.mono ?_; rintro e w3 ⟨cnt, wr2, z2, rfl, hn2, hps2, hg2⟩; have hcnt : cnt ≤ 1000000000 := hn2.1; have hB : B ≤ 1000000000 := HD2.out.2.1
  have HD3 : Hid (DS w w3 w.heap.size (w.heap.size + 1) w2.heap.size b B (.slice none 0 0) [] wr2 z2 ∧ (wr2 = false → zs = leN B 8 ++ (leN cnt 8 ++ (encL [] ++ z2))) ∧ (∀ b' l', ValidS b' l' → encSt b' l' = zs → wr2 = false)) := by
    refine ⟨HD2.out.1.step hps2 hg2, fun h => ?_, fun b' l' hV he => ?_⟩
    · obtain ⟨h3, h4⟩ := hn2.back h; obtain ⟨h5, h6⟩ := HD2.out.2.back h3; rw [h6, h4]
      rfl
    · have h50 := hV.len
      unfold encSt at he
      obtain ⟨h3, _, h4⟩ := HD2.out.2.on rfl he.symm (by have := hV.1; omega); exact (hn2.on h3 h4 (by omega)).1
  clear hn2 hps2 hg2 HD2; generalize w2.heap.size = s at *; go_wp2
  go_loopw [6] (fun lf wl => ∃ (k : Nat) (L : List Se) (v : Value) (wr : Bool) (z : List Nat), lf = .int .i64 (k : Int) ∧ L.length + k = cnt ∧ DS w wl w.heap.size (w.heap.size + 1) s b B v L wr z ∧ (wr = false → zs = leN B 8 ++ (leN cnt 8 ++ (encL (L.map Se.tell) ++ z))) ∧ (∀ b' l', ValidS b' l' → encSt b' l' = zs → wr = false) ∧ ∀ x ∈ L, SeSmall x) (fun lf _ => (intOf lf).toNat)
  case atStart => exact ⟨cnt, [], _, wr2, z2, rfl, by simp, HD3.out.1, HD3.out.2.1, HD3.out.2.2, by simp⟩
  case round =>
    clear HD3; obtain ⟨k, L, v, wx, z, rfl, hLk, hD, hF, hGv, hsm⟩ := hrel; have HD : Hid (DS w wr w.heap.size (w.heap.size + 1) s b B v L wx z) := hD; have HF : Hid ((wx = false → zs = leN B 8 ++ (leN cnt 8 ++ (encL (L.map Se.tell) ++ z))) ∧ (∀ b' l', ValidS b' l' → encSt b' l' = zs → wx = false) ∧ ∀ x ∈ L, SeSmall x) := ⟨hF, hGv, hsm⟩
    have hrc : wr.cell? ⟨w.heap.size + 1, 1, none⟩ = some (.bool wx) := by obtain ⟨_, _, _, h9, _⟩ := hD.ps.rd; exact h9.cells.2.1
    clear hD hF hGv hsm
    by_cases hgo : 0 < k ∧ wx = false
    · obtain ⟨hk0, rfl⟩ := hgo
      have hk1 : (0 : Int) < (k : Int) := by omega
      as_aux_lemma =>
        go_wp2_with fail; refine HD.out.ps.number.mono ?_; rintro e w4 ⟨v1, r1, y1, rfl, s1, p1, g1⟩; have H4 : Hid (DS w w4 w.heap.size (w.heap.size + 1) s b B v L r1 y1 ∧ NumStep false z v1 r1 y1) := ⟨HD.out.step p1 g1, s1⟩; clear s1 p1 g1 HD hrc; go_wp2_with fail; refine H4.out.1.ps.number.mono ?_; rintro e w5 ⟨v2, r2, y2, rfl, s2, p2, g2⟩; have H5 : Hid (DS w w5 w.heap.size (w.heap.size + 1) s b B v L r2 y2 ∧ NumStep r1 y1 v2 r2 y2) := ⟨H4.out.1.step p2 g2, s2⟩; clear s2 p2 g2; go_wp2_with fail; refine H5.out.1.ps.number.mono ?_; rintro e w6 ⟨v3, r3, y3, rfl, s3, p3, g3⟩; have H6 : Hid (DS w w6 w.heap.size (w.heap.size + 1) s b B v L r3 y3 ∧ NumStep r2 y2 v3 r3 y3) := ⟨H5.out.1.step p3 g3, s3⟩; have hs6 := H6.out.1.slt; have hrs := H6.out.1.rs; clear s3 p3 g3; go_wp2_with fail; refine (H6.out.1.more (World.grownBy_alloc _ _ _)).ps.number.mono ?_; rintro e w7 ⟨v4, r4, y4, rfl, s4, p4, g4⟩
        have H7 : Hid (PS w w7 w.heap.size (w.heap.size + 1) b r4 y4 ∧ NumStep r3 y3 v4 r4 y4 ∧ w6.grownBy w7 (some (w.heap.size + 1)) ∧ w7.heap[w6.heap.size]? = some (.cells #[.int .i64 (v1 : Int), .int .i64 (v2 : Int), .int .i64 (v3 : Int), .slice none 0 0] 74 (0, 0))) :=
          ⟨p4, s4, grownBy_trans (grownBy_toSome (World.grownBy_alloc _ _ _)) g4, (g4.block _ (by simp) (by simp only [ne_eq, Option.some.injEq]; omega)).trans (heap_alloc_new w6 _)⟩
        clear s4 p4 g4; go_wp2_with fail; refine (H7.out.1.bytes v4).mono ?_; rintro e w8 ⟨o, m, cp, d, r5, y5, rfl, hO, ho, hgf, hmm, s5, p5, g5⟩; have h67 := H7.out.2.2.1.size; have hX7 : w6.heap.size < w7.heap.size := (Array.getElem?_eq_some_iff.1 H7.out.2.2.2).1; have hX8 : w8.heap[w6.heap.size]? = some (.cells #[.int .i64 (v1 : Int), .int .i64 (v2 : Int), .int .i64 (v3 : Int), .slice none 0 0] 74 (0, 0)) := (g5.block _ hX7 (by simp only [ne_eq, Option.some.injEq]; omega)).trans H7.out.2.2.2
        have hf3 : w8.frozen? ⟨w6.heap.size, 3, none⟩ = false := by simp [World.frozen?, hX8]
        have hc3 : w8.cell? ⟨w6.heap.size, 3, none⟩ = some (.slice none 0 0) := by simp [World.cell?, hX8]
        have hset : w8.grownBy (w8.setCell ⟨w6.heap.size, 3, none⟩ (.slice (oad o) m cp)) (some w6.heap.size) := grownBy_setCell (grownBy_refl _ _); have hG9 : w6.grownBy (w8.setCell ⟨w6.heap.size, 3, none⟩ (.slice (oad o) m cp)) (some (w.heap.size + 1)) := grownBy_pastS (grownBy_trans H7.out.2.2.1 g5) hset (Nat.le_refl _); have hX9 : (w8.setCell ⟨w6.heap.size, 3, none⟩ (.slice (oad o) m cp)).heap[w6.heap.size]? = some (.cells #[.int .i64 (v1 : Int), .int .i64 (v2 : Int), .int .i64 (v3 : Int), .slice (oad o) m cp] 74 (0, 0)) := heap_setCell_same w8 _ 3 _ _ _ hX8
        have hO9 : OwnS (w8.setCell ⟨w6.heap.size, 3, none⟩ (.slice (oad o) m cp)) 5 (oad o) m d := by
          refine hO.grown hset (fun g e => ?_)
          have h5 : o = some g := by rw [← blk_oad o]; exact e
          have := hgf g h5; simp only [ne_eq, Option.some.injEq]
          omega
        have HD9 : Hid (DS w (w8.setCell ⟨w6.heap.size, 3, none⟩ (.slice (oad o) m cp)) w.heap.size (w.heap.size + 1) s b B v L r5 y5 ∧ BytStep r4 y4 v4 m d r5 y5 ∧ OwnS (w8.setCell ⟨w6.heap.size, 3, none⟩ (.slice (oad o) m cp)) 5 (oad o) m d ∧ (o = none → cp = 0) ∧ (∀ g, o = some g → w6.heap.size ≤ g)) :=
          ⟨H6.out.1.step (p5.row hset (fun k e => by simp only [Option.some.injEq] at e; omega)) hG9, s5, hO9, ho, fun g e => by have := hgf g e; omega⟩
        clear hO ho hgf s5 p5 g5 hset hG9 hO9 hX8
        go_upto_region 8 with fail
        generalize w8.setCell ⟨w6.heap.size, 3, none⟩ (.slice (oad o) m cp) = W9 at *
        have hx0 : W9.cell? ⟨w6.heap.size, 0, none⟩ = some (.int .i64 (v1 : Int)) := by simp [World.cell?, hX9]
        have hx1 : W9.cell? ⟨w6.heap.size, 1, none⟩ = some (.int .i64 (v2 : Int)) := by simp [World.cell?, hX9]
        have hx2 : W9.cell? ⟨w6.heap.size, 2, none⟩ = some (.int .i64 (v3 : Int)) := by simp [World.cell?, hX9]
        have hx3 : W9.cell? ⟨w6.heap.size, 3, none⟩ = some (.slice (oad o) m cp) := by simp [World.cell?, hX9]
        obtain ⟨q0, q1, q2, q3⟩ := HD9.out.1.cells; have hs9 := HD9.out.1.slt
        have hlL : L.length ≤ 1000000000 := by omega
        obtain ⟨ir, hri, hr0, hr1, hr2⟩ := info_parts Tryd.infoSes; clear hX9 hf3 hc3 hX7 h67
        go_wp2_with (at_builtin; refine wpList_append_own _ rfl _ _ 26 rfl (s + 1) 74 ir (.agg #[.int .i64 0, .int .i64 0, .int .i64 0, .slice none 0 0]) 4 48 Tryd.underlying26 hri hr0 hr1 hr2 rfl (by decide) _ L.length (L.flatMap Se.cells) rfl (by exact World.ownsRow.alloc HD9.out.1.row.1 _) ⟨W9.heap.size, 0, none⟩ 1 1 [.int .i64 (v1 : Int), .int .i64 (v2 : Int), .int .i64 (v3 : Int), .slice (oad o) m cp] rfl rfl ?c1 ?c2 ?c3 ?c4 ?c5 ?_)
        case c1 =>
          intro j u hj
          match j, hj with
          | 0, hj => simp at hj; subst hj; simp [Addr.add]
          | 1, hj => simp at hj; subst hj; simp [Addr.add]
          | 2, hj => simp at hj; subst hj; simp [Addr.add]
          | 3, hj => simp at hj; subst hj; simp [Addr.add]
        case c2 => intro u hu; simp at hu; rcases hu with rfl | rfl | rfl | rfl <;> rfl
        case c3 => unfold maxLen; omega
        case c4 => omega
        case c5 => simp; omega
        intro v' wa hown' hgrow _
        obtain ⟨g', cap', rfl⟩ : ∃ g' c', v' = .slice (some ⟨g', 0, none⟩) (L.length + 1) c' := by
          rcases hown'.2 with ⟨_, h'⟩ | ⟨g', cap', cur, h', _⟩
          · omega
          · exact ⟨g', cap', h'⟩
        obtain ⟨x, hx⟩ : ∃ x : Se, x = ⟨v1, v2, v3, d, o, cp⟩ := ⟨_, rfl⟩; have hdm : d.length = m := HD9.out.2.2.1.1
        have hxc : x.cells = [.int .i64 (v1 : Int), .int .i64 (v2 : Int), .int .i64 (v3 : Int), .slice (oad o) m cp] := by rw [hx]; simp [Se.cells, hdm]
        rw [← hxc] at hown'; have hDa := HD9.out.1.more (World.grownBy_alloc W9 (.cells #[.int .i64 (v1 : Int), .int .i64 (v2 : Int), .int .i64 (v3 : Int), .slice (oad o) m cp] 74) none)
        have HZ : Hid (DS w (wa.setCell ⟨s, 2, none⟩ (.slice (some ⟨g', 0, none⟩) (L.length + 1) cap')) w.heap.size (w.heap.size + 1) s b B (.slice (some ⟨g', 0, none⟩) (L.length + 1) cap') (L ++ [x]) r5 y5) := by
          refine hDa.put x ⟨?_, ?_, ?_⟩ ?_ hown' hgrow
          · rw [hx]; simp only; rw [hdm]; exact HD9.out.2.2.1.grown0 (World.grownBy_alloc _ _ _)
          · rw [hx]; exact HD9.out.2.2.2.1
          · rw [hx]; intro g e; have := HD9.out.2.2.2.2 g e; omega
          · rw [hx]; intro g e hm'; have h1 := HD9.out.2.2.2.2 g e; have h2 := H6.out.1.row.lt g hm'
            omega
        have hsa : wa.frozen? ⟨s, 2, none⟩ = false := by
          have hb9 := hgrow.block s (by simp; omega) (fun e => by have := (HD9.out.1.row.1.lt s e.symm).1; omega); have h8 := hDa.cells.2.2.2
          unfold World.frozen? at h8 ⊢
          rw [hb9]; exact h8
        have hca : wa.cell? ⟨s, 2, none⟩ = some v := by
          have hb9 := hgrow.block s (by simp; omega) (fun e => by have := (HD9.out.1.row.1.lt s e.symm).1; omega); have h8 := hDa.cells.2.2.1
          unfold World.cell? at h8 ⊢
          rw [hb9]; exact h8
        have HR : Hid ((r5 = false → zs = leN B 8 ++ (leN cnt 8 ++ (encL ((L ++ [x]).map Se.tell) ++ y5))) ∧ (∀ b' l', ValidS b' l' → encSt b' l' = zs → r5 = false) ∧ ∀ x' ∈ L ++ [x], SeSmall x') := by
          have t1 := H4.out.2; have t2 := H5.out.2; have t3 := H6.out.2; have t4 := H7.out.2.1; have t5 := HD9.out.2.1; refine ⟨fun h => ?_, fun b' l' hV he => ?_, fun x' hx' => ?_⟩
          · obtain ⟨_, h7⟩ := step_back t1 t2 t3 t4 t5 hdm h; rw [HF.out.1 (by simp), h7, List.map_append, List.map_cons, List.map_nil, encL_snoc, hx]
            simp [Se.tell]
          · have h7 := HF.out.1 (by simp); obtain ⟨e1, e2, e3, e4⟩ := encSt_read (by unfold P64; omega) (by unfold P64; omega) (small_all HF.out.2.2) (by simp; omega) hV (he.trans h7)
            have hlt : (L.map Se.tell).length < l'.length := by simp; omega
            rw [List.drop_eq_getElem_cons hlt, encL_cons] at e4; exact step_on _ b' t1 t2 t3 t4 t5 rfl e4 (hV.2.1 _ (List.getElem_mem hlt)) hV.1
          · rcases List.mem_append.1 hx' with h | h
            · exact HF.out.2.2 x' h
            · obtain rfl : x' = x := by simpa using h
              rw [hx]; exact ⟨t1.1, t2.1, t3.1, by simp only; omega⟩
        clear hown' hgrow hDa HD9 H4 H5 H6 H7 HF q0 q1 q2 q3 hx0 hx1 hx2 hx3; go_wp2; go_roundw
        case rel => exact ⟨k - 1, L ++ [x], _, r5, y5, by go_num, by simp; omega, HZ.out, HR.out⟩
        case measure => simp [intOf]; omega
    · as_aux_lemma =>
        obtain ⟨f1, f2, f3⟩ := HF.out; have hpv : wr.heap[w.heap.size]? = _ := HD.out.ps.pv
        have z0 : wr.cell? ⟨w.heap.size, 0, none⟩ = some (.int .i64 0) := by simp [World.cell?, hpv]
        have z1 : wr.cell? ⟨w.heap.size, 1, none⟩ = some (.slice none 0 0) := by simp [World.cell?, hpv]
        have z2 : wr.cell? ⟨w.heap.size, 2, none⟩ = some (.slice none 0 0) := by simp [World.cell?, hpv]
        have x0 : wr.frozen? ⟨w.heap.size, 0, none⟩ = false := by simp [World.frozen?, hpv]
        have x1 : wr.frozen? ⟨w.heap.size, 1, none⟩ = false := by simp [World.frozen?, hpv]
        have x2 : wr.frozen? ⟨w.heap.size, 2, none⟩ = false := by simp [World.frozen?, hpv]
        obtain ⟨off', len', cap', hrd, hrsl, hr1, hr2, hr3⟩ := HD.out.ps.rd; have c0 := hrd.cells.1; have hzl : z.length = len' := hrsl.1; have HG : Hid (w.grownBy wr none) := HD.out.ps.grown; clear hrd hrsl hpv
        cases wx
        · obtain rfl : k = 0 := by
            rcases Nat.eq_zero_or_pos k with h | h
            · exact h
            · exact absurd ⟨h, rfl⟩ hgo
          have hzs := f1 rfl
          have HNO : Hid (∀ b' l', ValidS b' l' → encSt b' l' = zs → b' = B ∧ l' = L.map Se.tell ∧ len' = 0) := by
            intro b' l' hV he; obtain ⟨e1, e2, e3, e4⟩ := encSt_read (by unfold P64; omega) (by unfold P64; omega) (small_all f3) (by simp; omega) hV (he.trans hzs)
            have hll : l'.length = (L.map Se.tell).length := by rw [e2]; simp; omega
            rw [← hll, List.take_length] at e3; rw [← hll, List.drop_length, encL_nil] at e4; exact ⟨e1, e3, by rw [← hzl, e4]; rfl⟩
          by_cases hl0 : len' = 0
          · subst hl0
            have HZS : Hid (encSt B (L.map Se.tell) = zs) := by
              have hzn : z = [] := List.eq_nil_of_length_eq_zero hzl
              show _ = _
              rw [hzs, hzn, List.append_nil, encSt]
              congr 3
              simp
              omega
            obtain ⟨q0, q1, q2, q3⟩ := HD.out.cells; obtain ⟨oa, cpv, rfl, hss, hc1, hc2⟩ := HD.out.row.sl; have HV : Hid (Calls _ _ _ _ _) := svalid_any B oa cpv L wr hss (by omega) (fun x hx => by have := f3 x hx; unfold SeSmall at this; omega) (by omega); have HROW : Hid (SesRow wr (s + 1) (.slice oa L.length cpv) L ∧ w.heap.size ≤ s + 1) := ⟨HD.out.row, by have := HD.out.rs; omega⟩; have hszs := HD.out.slt; have hszp := HD.out.ps.plt; clear hss hzs f1 f2 f3 HF hgo; go_wp2_with fail; refine HV.out.mono ?_; rintro e w4 ⟨rv, rfl, hrv, hG4⟩; obtain ⟨hc, hf⟩ := bcell hG4; have z0' := (hc _ 0 hszp).trans z0; have z1' := (hc _ 1 hszp).trans z1; have z2' := (hc _ 2 hszp).trans z2; have x0' := (hf _ 0 hszp).trans x0; have x1' := (hf _ 1 hszp).trans x1; have x2' := (hf _ 2 hszp).trans x2; have q0' := (hc _ 0 hszs).trans q0; have q1' := (hc _ 1 hszs).trans q1; have q2' := (hc _ 2 hszs).trans q2; have R : Hid (w.grownBy w4 none ∧ (rv = true ↔ ValidS B (L.map Se.tell)) ∧ SesRow w4 (s + 1) (.slice oa L.length cpv) L) := ⟨grownBy_trans HG.out hG4, hrv, HROW.out.1.grown hG4 (by simp)⟩; clear hc hf hG4 hrv HV
            cases rv
            · go_wp2; refine bodyPost_ret (v := .tuple #[.agg #[.int .i64 0, .slice none 0 0, .slice none 0 0], .int .i64 5]) (by simp [results, Tryd.results16, go_sem, z0', z1', z2']) rfl ⟨?_, .inr ⟨fun b' l' hV he => ?_, rfl⟩⟩
              · exact grownBy_setNew (grownBy_setNew (grownBy_setNew R.out.1 (by simp)) (by simp)) (by simp)
              · obtain ⟨rfl, rfl, -⟩ := HNO.out b' l' hV he; have := R.out.2.1.2 hV
                cases this
            · go_wp2; refine bodyPost_ret (v := .tuple #[.agg #[.int .i64 (B : Int), .slice none 0 0, .slice oa L.length cpv], .int .i64 0]) (by simp [results, Tryd.results16, go_sem, z0', z1', z2']) rfl ⟨?_, .inl ⟨B, L, _, rfl, R.out.2.1.1 (by simp), HZS.out, ?_⟩⟩
              · exact grownBy_setNew (grownBy_setNew (grownBy_setNew R.out.1 (by simp)) (by simp)) (by simp)
              · have hst : ∀ (W : World) (i : Nat) (u : Value), SesRow W (s + 1) (.slice oa L.length cpv) L → SesRow (W.setCell ⟨w.heap.size, i, none⟩ u) (s + 1) (.slice oa L.length cpv) L := fun W i u h => h.grown (grownBy_setCell (grownBy_refl W (some w.heap.size))) (fun k e => by have := HD.out.rs; simp only [Option.some.injEq] at e; omega)
                exact (hst _ _ _ (hst _ _ _ (hst _ _ _ R.out.2.2))).lower HROW.out.2
          · have hl1 : (0 : Int) < (len' : Int) := by omega
            clear f1 f2 f3 HF hgo hzs; go_wp2; refine bodyPost_ret (v := .tuple #[.agg #[.int .i64 0, .slice none 0 0, .slice none 0 0], .int .i64 5]) (by simp [results, Tryd.results16, go_sem, z0, z1, z2]) rfl ⟨?_, .inr ⟨fun b' l' hV he => ?_, rfl⟩⟩
            · exact grownBy_setNew (grownBy_setNew (grownBy_setNew HG.out (by simp)) (by simp)) (by simp)
            · exact hl0 (HNO.out b' l' hV he).2.2
        · have HNO : Hid (∀ b' l', ValidS b' l' → encSt b' l' = zs → true = false) := f2; clear f1 f2 f3 HF hgo
          by_cases hk0 : 0 < k
          · have hk1 : (0 : Int) < (k : Int) := by omega
            go_wp2; refine bodyPost_ret (v := .tuple #[.agg #[.int .i64 0, .slice none 0 0, .slice none 0 0], .int .i64 5]) (by simp [results, Tryd.results16, go_sem, z0, z1, z2]) rfl ⟨?_, .inr ⟨fun b' l' hV he => ?_, rfl⟩⟩
            · exact grownBy_setNew (grownBy_setNew (grownBy_setNew HG.out (by simp)) (by simp)) (by simp)
            · cases HNO.out b' l' hV he
          · obtain rfl : k = 0 := by omega
            go_wp2; refine bodyPost_ret (v := .tuple #[.agg #[.int .i64 0, .slice none 0 0, .slice none 0 0], .int .i64 5]) (by simp [results, Tryd.results16, go_sem, z0, z1, z2]) rfl ⟨?_, .inr ⟨fun b' l' hV he => ?_, rfl⟩⟩
            · exact grownBy_setNew (grownBy_setNew (grownBy_setNew HG.out (by simp)) (by simp)) (by simp)
            · cases HNO.out b' l' hV he
def seOf (x : El) : Se := ⟨x.c.toNat, x.q.toNat, x.i.toNat, x.d, x.o, x.cp⟩
theorem seOf_el (x : El) (hl : x.hd.length = 3) (h : 0 ≤ x.c ∧ 0 ≤ x.q ∧ 0 ≤ x.i) : (seOf x).el = x := by
  obtain ⟨hd, d, o, cp⟩ := x; simp only at hl
  match hd, hl with
  | [a, b, c], _ =>
    simp only [El.c, El.q, El.i, List.getD_cons_zero, List.getD_cons_succ] at h
    simp [seOf, Se.el, El.c, El.q, El.i]
    omega
theorem rises_of {l : List El} (hc : ∀ x ∈ l, 0 ≤ x.c) : ∀ b : Nat, risesE (b : Int) l → rises b (l.map (fun x => (seOf x).tell)) := by
  induction l with
  | nil => intro b _; trivial
  | cons x l ih =>
    intro b h; obtain ⟨h1, h2⟩ := h; have hx := hc x (by simp)
    have e : ((x.c.toNat : Nat) : Int) = x.c := by omega
    refine ⟨by show b < x.c.toNat; omega, ih (fun y hy => hc y (by simp [hy])) x.c.toNat (by rw [e]; exact h2)⟩
theorem valid_seI {b : Int} {K S : List El} (hV : ValidV b K S) (hl : ∀ x ∈ S, x.hd.length = 3) :
    ∃ (cn : Nat) (L : List Se), S = L.map Se.el ∧ b + (K.length : Int) = (cn : Int) ∧ ValidW cn (L.map Se.tell) := by
  obtain ⟨h0, h1, h2, -, h4, h5⟩ := hV; obtain ⟨cn, hcn⟩ : ∃ cn : Nat, b + (K.length : Int) = (cn : Int) := ⟨(b + (K.length : Int)).toNat, by omega⟩
  have hpos : ∀ x ∈ S, 0 ≤ x.c ∧ 0 ≤ x.q ∧ 0 ≤ x.i := fun x hx => by
    obtain ⟨h6, h7, _⟩ := h4 x hx
    unfold okE itemOk at h6
    omega
  have hS : S = (S.map seOf).map Se.el := by
    rw [List.map_map]
    conv => lhs; rw [← List.map_id S]
    exact List.map_congr_left fun x hx => (seOf_el x (hl x hx) (hpos x hx)).symm
  refine ⟨cn, S.map seOf, hS, hcn, ⟨by omega, fun y hy => ?_, ?_⟩⟩
  · rw [List.map_map] at hy; obtain ⟨x, hx, rfl⟩ := List.mem_map.1 hy; obtain ⟨h6, h7, h8⟩ := h4 x hx
    unfold okE itemOk at h6
    refine ⟨⟨?_, ?_, ?_, ?_, ?_⟩, ?_⟩ <;> simp only [Function.comp_apply, seOf, Se.tell] <;> omega
  · rw [List.map_map]; exact rises_of (fun x hx => (hpos x hx).1) 0 h5
theorem ElO.ses {w : World} {oa : Option Addr} {cap : Nat} {L : List Se} (h : ElO w 74 3 oa cap (L.map Se.el)) : SesSl w oa L := by
  intro i x hx
  have hx' : (L.map Se.el)[i]? = some x.el := by simp [hx]
  rcases h with ⟨_, _, h0⟩ | ⟨g, rfl, hA⟩
  · rw [h0] at hx'; simp at hx'
  · exact ⟨g, rfl, hA.cell hx' (j := 0) rfl, hA.cell hx' (j := 1) rfl, hA.cell hx' (j := 2) rfl, hA.slice hx', (hA.own i _ hx').2.1, hA.lt⟩
theorem SvAt.hd3 {w : World} {s : Sv} (h : SvAt w s) : ∀ x ∈ s.S, x.hd.length = 3 := by
  intro x hx; obtain ⟨i, hi⟩ := List.getElem?_of_mem hx
  rcases h.ss with ⟨_, _, h0⟩ | ⟨g, _, hA⟩
  · rw [h0] at hi; simp at hi
  · exact (hA.own i x hi).1
theorem encSt_short {b : Nat} {l : List Sn} (h : ValidW b l) : (encSt b l).length ≤ 1073741824 := by
  have h1 := h.len
  have h2 : ∀ l : List Sn, (∀ x ∈ l, x.d.length ≤ 64) → (encL l).length ≤ 96 * l.length := by
    intro l
    induction l with
    | nil => intro _; simp [encL]
    | cons x l ih =>
      intro hx; have h3 := ih (fun y hy => hx y (by simp [hy])); have h4 := hx x (by simp); rw [encL_cons, List.length_append, encS_len]; simp only [List.length_cons]
      omega
  have h3 := h2 l (fun x hx => (h.2.1 x hx).1.2.2.2.2)
  have h4 : (encSt b l).length = 16 + (encL l).length := by simp [encSt, leN_len]; omega
  omega
theorem implEnc_valid (s : Sv) (w : World) (h : SvAt w s) (hs : SvSmall s) (hV : ValidV s.b s.K s.S) : Calls Tryd.prog 15 #[.agg #[.int .i64 s.b, .slice s.ko s.K.length s.kc, .slice s.so s.S.length s.sc]] w fun e w' => ∃ (g n cp cn : Nat) (L : List Se), e = .returned (.tuple #[.slice (some ⟨g, 0, none⟩) n cp, .int .i64 0]) ∧ Hid (s.S = L.map Se.el ∧ s.b + (s.K.length : Int) = (cn : Int) ∧ ValidW cn (L.map Se.tell) ∧ n = (encSt cn (L.map Se.tell)).length ∧ w.heap.size ≤ g ∧ Own w' 5 g (encSt cn (L.map Se.tell)) ∧ w.grownBy w' none ∧ n ≤ cp ∧ cp ≤ maxLen) := by
  have hval : ∀ w', w.grownBy w' none → Calls Tryd.prog 33 #[.agg #[.int .i64 s.b, .slice s.ko s.K.length s.kc, .slice s.so s.S.length s.sc]] w' fun e w'' => ∃ r : Bool, e = .returned (.bool r) ∧ (r = true ↔ ValidV s.b s.K s.S) ∧ w'.grownBy w'' none := fun w' hw' =>
    svalidE_any s.b s.ko s.kc s.K s.so s.sc s.S w' (h.kk.grown0 hw') (h.ss.grown0 hw') hs.1 hs.2.1 hs.2.2.1 hs.2.2.2
  obtain ⟨cn, L, hL, hcn, hW⟩ := valid_seI hV h.hd3; have hb0 := hV.1; obtain ⟨b, ko, kc, K, so, sc, S⟩ := s; simp only at *; subst hL
  have hd : ∀ x ∈ L, ∀ z ∈ x.d, z < 256 := by
    intro x hx; obtain ⟨i, hi⟩ := List.getElem?_of_mem hx; obtain ⟨_, _, _, _, _, _, h9, _⟩ := h.ss.ses i x hi; exact h9.sl.2.1
  have h1 := implEncG_ok b ko K.length kc cn hcn hb0 hs.1 so sc L w h.ss.ses hW hd (fun w' hw' => by
    have hv := hval w' hw'; rw [List.length_map] at hv; refine hv.mono ?_; rintro e w'' ⟨r, rfl, hr, hG⟩
    exact ⟨by rw [hr.2 hV], hG⟩)
  rw [List.length_map]; refine h1.mono ?_; rintro e w' ⟨g, n, cp, rfl, hn, hg, hO, hG, hc1, hc2⟩; exact ⟨g, n, cp, cn, L, rfl, rfl, hcn, hW, hn, hg, hO, hG, hc1, hc2⟩
theorem se_tells {L L' : List Se} (h : L.map Se.tell = L'.map Se.tell) : (L.map Se.el).map El.tell = (L'.map Se.el).map El.tell := by
  rw [List.map_map, List.map_map]
  have e : ∀ M : List Se, M.map (El.tell ∘ Se.el) = (M.map Se.tell).map (fun y => ([(y.c : Int), (y.q : Int), (y.i : Int)], y.d)) := fun M => by
    rw [List.map_map]
    exact List.map_congr_left fun x _ => rfl
  rw [e, e, h]
/-- read back: the sessions are the same, and nothing is kept -/
theorem implDec_valid (g n cp cn : Nat) (L : List Se) (w : World) (hO : Own w 5 g (encSt cn (L.map Se.tell))) (hn : n = (encSt cn (L.map Se.tell)).length) (hW : ValidW cn (L.map Se.tell)) (hcn : cn ≤ 1000000) (hc1 : n ≤ cp) (hc2 : cp ≤ maxLen) :
    Calls Tryd.prog 16 #[.slice (some ⟨g, 0, none⟩) n cp] w fun e w' => ∃ (oa : Option Addr) (sn cap : Nat) (S : List El), e = .returned (.tuple #[.agg #[.int .i64 (cn : Int), .slice none 0 0, .slice oa sn cap], .int .i64 0]) ∧ Hid (S.length = sn ∧ S.map El.tell = (L.map Se.el).map El.tell ∧ ElO w' 74 3 oa cap S ∧ (∀ k, ElB oa S k → w.heap.size ≤ k) ∧ w.grownBy w' none) := by
  have hV : ValidS cn (L.map Se.tell) := ⟨hcn, hW.2.1, hW.2.2⟩; refine (implDecodeState_any g 0 n cp _ w (hO.sl n hn.symm) hc1 hc2 (by rw [hn]; exact encSt_short hW) hO.lt).mono ?_; rintro e w' ⟨hG, ⟨B, L', v, rfl, hV', he, hrow⟩ | ⟨hno, _⟩⟩
  · obtain ⟨rfl, hLe⟩ := encSt_inj hV' hV he; obtain ⟨oa, cap, rfl, hA, hB⟩ := svOf_at B hrow; refine ⟨oa, L'.length, cap, L'.map Se.el, rfl, by simp, se_tells hLe, hA.ss, fun k hk => hB k (.inr hk), hG⟩
  · exact absurd rfl (hno _ _ hV)
/-- an item's bytes -/
def itemB (cl sq : Nat) (zs : List Nat) : List Nat := le4 cl ++ le4 sq ++ zs
theorem itemB_len (cl sq : Nat) (zs : List Nat) : (itemB cl sq zs).length = 8 + zs.length := by simp [itemB, le4_len]; omega
theorem itemB_lt (cl sq : Nat) (zs : List Nat) (h : ∀ z ∈ zs, z < 256) : ∀ z ∈ itemB cl sq zs, z < 256 := by
  intro z hz
  unfold itemB at hz
  rcases List.mem_append.1 hz with hz | hz
  · rcases List.mem_append.1 hz with hz | hz
    · exact le4_lt _ z hz
    · exact le4_lt _ z hz
  · exact h z hz

set_option maxHeartbeats 400000 in
theorem implEncodeItem_no (cl sq : Int) (oa : Option Addr) (len cap : Nat) (w : World) (h : ¬ itemOk cl sq len) (hx : len ≤ maxLen) :
    Calls Tryd.prog 9 #[.agg #[.int .i64 cl, .int .i64 sq, .slice oa len cap]] w fun e w' => e = .returned (.tuple #[.slice none 0 0, .int .i64 5]) ∧ w.grownBy w' none := by
  have HK : Hid (¬ itemOk cl sq len) := h; clear h
  go_enter Tryd.func9, Tryd.ntmps9
  go_wp2_with fail; refine (valid_no cl sq oa len cap _ HK.out hx).mono ?_; rintro e w1 ⟨rfl, hG1⟩; have HG : Hid (w.grownBy w1 none) := grownBy_trans (World.grownBy_alloc _ _ _) hG1; clear hG1; go_wp2
  go_ret2
  exact ⟨rfl, HG.out⟩

theorem put_first (n : Nat) : putN (List.replicate 8 0) 0 n 4 = le4 n ++ List.replicate 4 0 := by
  have := putN_four [] [0, 0, 0, 0] [0, 0, 0, 0] n rfl
  simpa using this
theorem put_second (a n : Nat) : putN (le4 a ++ List.replicate 4 0) 4 n 4 = le4 a ++ le4 n := by
  have := putN_four (le4 a) [0, 0, 0, 0] [] n rfl; rw [le4_len] at this
  simpa using this
set_option maxRecDepth 4000 in
set_option maxHeartbeats 1000000 in
theorem implEncodeItem_ok (cl sq : Nat) (oa : Option Addr) (len cap : Nat) (zs : List Nat) (w : World) (h : itemOk cl sq len) (hsl : SlB w oa len zs) :
    Calls Tryd.prog 9 #[.agg #[.int .i64 (cl : Int), .int .i64 (sq : Int), .slice oa len cap]] w fun e w' => ∃ g n cp, e = .returned (.tuple #[.slice (some ⟨g, 0, none⟩) n cp, .int .i64 0]) ∧ n = 8 + len ∧ w.heap.size ≤ g ∧ Own w' 5 g (itemB cl sq zs) ∧ w.grownBy w' none := by
  have HS : Hid (SlB w oa len zs) := hsl; have HK : Hid (itemOk cl sq len) := h; have hl : zs.length = len := hsl.1
  have hcl : cl ≤ 50 := by have := h.2.1; omega
  have hsq : sq ≤ 1000000000 := by have := h.2.2.2.1; omega
  have hln : len ≤ 64 := h.2.2.2.2; clear hsl h; obtain ⟨i0, TB⟩ := byteT
  go_enter Tryd.func9, Tryd.ntmps9
  go_wp2_with fail; refine (valid_yes cl sq oa len cap _ HK.out).mono ?_; rintro e w1 ⟨rfl, hG1⟩
  have hz : w.heap.size + 1 ≤ w1.heap.size := by have := hG1.size; simpa using this
  have A0 : w1.cell? ⟨w.heap.size, 0, none⟩ = some (.int .i64 (cl : Int)) := ((bcell hG1).1 _ _ (by simp)).trans (by simp); have A1 : w1.cell? ⟨w.heap.size, 1, none⟩ = some (.int .i64 (sq : Int)) := ((bcell hG1).1 _ _ (by simp)).trans (by simp); have A2 : w1.cell? ⟨w.heap.size, 2, none⟩ = some (.slice oa len cap) := ((bcell hG1).1 _ _ (by simp)).trans (by simp); have HG : Hid (w.grownBy w1 none) := grownBy_trans (World.grownBy_alloc _ _ _) hG1; clear hG1
  go_wp2_with (at_make; refine wpList_make_cap (by rfl) (.const (.int .i64 8)) (.tmp 11) TB (by rfl) (base := w1.heap.size) (n := 8) (cp := 8 + len) (by rfl) (by rfl) (by rfl) (by omega) (by omega) (by omega) (by omega) ?_)
  intro w2 hR2 hG2; have hz2 : w1.heap.size < w2.heap.size := (hR2.out.lt w1.heap.size rfl).2; have B0 : w2.cell? ⟨w.heap.size, 0, none⟩ = some (.int .i64 (cl : Int)) := ((bcell hG2.out).1 _ _ (by omega)).trans A0; have B1 : w2.cell? ⟨w.heap.size, 1, none⟩ = some (.int .i64 (sq : Int)) := ((bcell hG2.out).1 _ _ (by omega)).trans A1; have B2 : w2.cell? ⟨w.heap.size, 2, none⟩ = some (.slice oa len cap) := ((bcell hG2.out).1 _ _ (by omega)).trans A2; have HG2 : Hid (w.grownBy w2 none) := grownBy_trans HG.out hG2.out; clear A0 A1 A2 HG hG2; go_wp2_with fail; refine (putNumber_row w1.heap.size 8 (8 + len) w1.heap.size 0 8 (8 + len) cl (List.replicate 8 0) _ hR2.out (by intro z hz; have := List.eq_of_mem_replicate hz; omega) (by omega) (by omega) (by simp) (by omega)).mono ?_; rintro e w3 ⟨rfl, hR3, hG3⟩; rw [put_first] at hR3; have C1 : w3.cell? ⟨w.heap.size, 1, none⟩ = some (.int .i64 (sq : Int)) := keep_far hG3 (by omega) (by omega) B1; have C2 : w3.cell? ⟨w.heap.size, 2, none⟩ = some (.slice oa len cap) := keep_far hG3 (by omega) (by omega) B2
  have hz3 : w1.heap.size + 1 ≤ w3.heap.size := by have := hG3.size; omega
  have HG3 : Hid (w.grownBy w3 none) := grownBy_new HG2.out hG3 (by omega); have HR3 : Hid (_) := hR3; clear B0 B1 B2 HG2 hR2 hR3 hG3
  have HP : Hid (∀ (c : Nat) (X : World), Same w3 X → Calls Tryd.prog 29 #[.slice (some ⟨w1.heap.size, 4, none⟩) 4 c, .int .u32 (sq : Int)] X fun e w' => e = .returned (.tuple #[]) ∧ w'.cell? ⟨w.heap.size, 2, none⟩ = some (.slice oa len cap) ∧ Hid (w'.ownsRow w1.heap.size 5 1 (.slice (some ⟨w1.heap.size, 0, none⟩) 8 (8 + len)) 8 ((le4 cl ++ le4 sq).map bv)) ∧ Hid (w.grownBy w' none)) := by
    intro c X hX; refine (putNumber_row w1.heap.size 8 (8 + len) w1.heap.size 4 4 c sq (le4 cl ++ List.replicate 4 0) X (ownsRow_heap HR3.out hX.1) (fun z hz => (own_made HR3.out (by intro y hy; rcases List.mem_append.1 hy with h | h; exact le4_lt _ y h; have := List.eq_of_mem_replicate h; omega)).1 z hz) (by omega) (by omega) (by simp [le4_len]) (by omega)).mono ?_; rintro e w4 ⟨rfl, hR4, hG4⟩; rw [put_second] at hR4
    have hxz : X.heap.size = w3.heap.size := by rw [hX.1]
    have hxc : X.cell? ⟨w.heap.size, 2, none⟩ = some (.slice oa len cap) := (World.cell?_of_block (w := w3) (by rw [hX.1])).trans C2; exact ⟨rfl, keep_far hG4 (by omega) (by omega) hxc, hR4, grown_next hG4 HG3.out hX (by omega)⟩
  have hcp : ¬ (8 + len = 4) := by omega
  have ew : IntKind.u32.wrap (sq : Int) = sq := by rw [IntKind.wrap_u32']; omega
  go_wp2_with fail
  go_region_with (first
    | (go_at_call 29; refine (HP.out _ _ (by exact ⟨rfl, rfl, rfl, rfl⟩)).mono ?_; rintro e w4 ⟨rfl, D2, HR4, HG4⟩)
    | fail)
  have hz4 := HG4.out.size; have hz5 := (HR4.out.lt w1.heap.size rfl).2; clear HP HR3 HG3 C1 C2 hz3
  go_wp2_with (at_builtin; refine wpList_append_b (by rfl) (.tmp 24) (.tmp 26) TB (by rfl) (base := w1.heap.size) (g := w1.heap.size) (n := 8) (cap := 8 + len) (xs := le4 cl ++ le4 sq) (by rfl) (by exact HR4.out) (oa := oa) (m := len) (c := cap) (zs := zs) (by rfl) (by exact HS.out.grown0 HG4.out) (by omega) (by omega) ?_; intro g5 c5 w5 hown5 hgr5 hat5 hsz5)
  go_ret2
  have hg5 := (hown5.out.lt g5 rfl).1; refine ⟨g5, 8 + len, c5, rfl, rfl, by omega, ?_, grown_next hgr5.out HG4.out ⟨rfl, rfl, rfl, rfl⟩ (by omega)⟩; exact own_made hown5.out (itemB_lt cl sq zs HS.out.2.1)
/-- what EncodeItem tells: the bytes, the code -/
def itemR (cl sq : Int) (zs : List Nat) : List Nat := if itemOk cl sq zs.length then itemB cl.toNat sq.toNat zs else []
def itemC (cl sq : Int) (zs : List Nat) : Int := if itemOk cl sq zs.length then 0 else 5
theorem implEncodeItem_any (cl sq : Int) (oa : Option Addr) (len cap : Nat) (zs : List Nat) (w : World) (hsl : SlB w oa len zs) (hx : len ≤ maxLen) :
    Calls Tryd.prog 9 #[.agg #[.int .i64 cl, .int .i64 sq, .slice oa len cap]] w fun e w' => ∃ og n cp, e = .returned (.tuple #[.slice og n cp, .int .i64 (itemC cl sq zs)]) ∧ n ≤ 72 ∧ (og = none → cp = 0) ∧ (∀ g, blk og = some g → w.heap.size ≤ g) ∧ OwnS w' 5 og n (itemR cl sq zs) ∧ w.grownBy w' none := by
  have hl := hsl.1
  by_cases hb : itemOk cl sq zs.length
  · have e1 : itemR cl sq zs = itemB cl.toNat sq.toNat zs := if_pos hb; have e2 : itemC cl sq zs = 0 := if_pos hb; rw [e1, e2]; obtain ⟨c, rfl⟩ : ∃ c : Nat, cl = c := ⟨cl.toNat, by have := hb.1; omega⟩; obtain ⟨q, rfl⟩ : ∃ q : Nat, sq = q := ⟨sq.toNat, by have := hb.2.2.1; omega⟩; have h64 := hb.2.2.2.2; refine (implEncodeItem_ok c q oa len cap zs w (by rw [← hl]; exact hb) hsl).mono ?_; rintro e w' ⟨g, n, cp, rfl, hn, hg, hO, hG⟩; refine ⟨some ⟨g, 0, none⟩, n, cp, rfl, by omega, (fun h => by cases h), fun g' hg' => ?_, ?_, hG⟩
    · obtain rfl : g = g' := by simpa [blk] using hg'
      exact hg
    · exact hO.s (by rw [itemB_len]; omega)
  · have e1 : itemR cl sq zs = [] := if_neg hb; have e2 : itemC cl sq zs = 5 := if_neg hb; rw [e1, e2]; refine (implEncodeItem_no cl sq oa len cap w (by rw [← hl]; exact hb) hx).mono ?_; rintro e w' ⟨rfl, hG⟩; exact ⟨none, 0, 0, rfl, by omega, fun _ => rfl, (fun g hg => by cases hg), OwnS.none _ _, hG⟩
end Go.Proofs.YtdajcpcajdhplaaDoor
/-
  An item's bytes, read back.
-/
namespace Go.Proofs.YtdajcpcajdhplaaDoor

theorem leVal_le4 (n : Nat) (h : n < 4294967296) : leVal (le4 n) = n := by
  simp only [le4, leVal]
  omega
theorem itemB_dec (c q : Nat) (d : List Nat) (h : itemOk (c : Int) (q : Int) d.length) : decGood (itemB c q d) ∧ decCl (itemB c q d) = c ∧ decSq (itemB c q d) = q ∧ (itemB c q d).drop 8 = d := by
  have hc : c < 4294967296 := by have := h.2.1; omega
  have hq : q < 4294967296 := by have := h.2.2.2.1; omega
  have e1 : decCl (itemB c q d) = c := by
    show leVal ((le4 c ++ le4 q ++ d).take 4) = c
    rw [List.append_assoc, List.take_left' (le4_len c)]; exact leVal_le4 c hc
  have e2 : decSq (itemB c q d) = q := by
    show leVal (((le4 c ++ le4 q ++ d).drop 4).take 4) = q
    rw [List.append_assoc, List.drop_left' (le4_len c), List.take_left' (le4_len q)]; exact leVal_le4 q hq
  have e3 : (itemB c q d).drop 8 = d := by
    show (le4 c ++ le4 q ++ d).drop 8 = d
    rw [List.drop_left' (by simp [le4_len])]
  refine ⟨⟨by rw [itemB_len]; omega, ?_⟩, e1, e2, e3⟩; rw [e1, e2, itemB_len, show 8 + d.length - 8 = d.length by omega]; exact h
end Go.Proofs.YtdajcpcajdhplaaDoor
/-
  FnSessions: what lies while the items are applied.
-/
namespace Go.Proofs.YtdajcpcajdhplaaDoor
open Go.RowKit

theorem wpList_append_lies {P : Program} {w : World} {ops : Array Oper} {rest : List Oper} {o : Oper} {a : Act} {Q : Exit → Act → World → Prop} (hgd : o.guard = none) (s x : Operand) (t : TypeId)
    (ho : o.op = .call { callee := .builtin .append, args := #[s, x], argTypes := #[t, t] }) (base : Nat) (e : TypeId) (i : TypeInfo) (z : Value) (size bytes : Nat) (ht : P.underlying t = some (.slice e)) (hi : P.info? e = some i) (hz : i.zero = some z)
    (hsize : i.size = size) (hby : i.bytes = bytes) (hzs : z.cells.size = size) (hsz : 0 < size) (v : Value) (n : Nat) (xs : List Value) (hs : a.eval s = v) (hown : w.ownsRow base e size v n xs)
    (ad : Addr) (m c : Nat) (news : List Value) (hx : a.eval x = .slice (some ad) m c) (hl : news.length = m * size) (hnews : ∀ j u, news[j]? = some u → w.cell? (ad.add j) = some u) (h1 : ∀ u ∈ news, u.oneCell' = true)
    (hm : 0 < m) (h63 : n + m ≤ maxLen) (hbytes : (n + m) * bytes ≤ 140737488355328) (hbase : base ≤ w.heap.size)
    (h : ∀ g' cap' w', w'.ownsRow base e size (.slice (some ⟨g', 0, none⟩) (n + m) cap') (n + m) (xs ++ news) → w.grownBy w' v.ownBlock → (v.ownBlock = some g' ∨ g' = w.heap.size) → wpList P ops Q rest (a.put o.dst (.slice (some ⟨g', 0, none⟩) (n + m) cap')) w') : wpList P ops Q (o :: rest) a w := by
  refine wpList_plain hgd fun K hK => ?_
  obtain ⟨g', cap', w', hrun, h2, h3, h4, -⟩ := run_append_lies (P := P) w t o.type base e i z size bytes ht hi hz hsize hby hzs hsz v n xs hown ad m c news hl hnews h1 hm h63 hbytes hbase w.heap.size rfl
  unfold Oper.wp
  simp [execOp, ho, resolve, invoke, builtin, hs, hx, hrun, Result.andThen]
  exact hK _ _ (h g' cap' w' h2 h3 h4)
theorem SvAt.notB {w : World} {v : Sv} {k : Nat} {c : Array Value} {t : TypeId} {f : Nat × Nat} (h : SvAt w v) (hk : w.heap[k]? = some (.cells c t f)) (h1 : t ≠ 32) (h2 : t ≠ 74) (h3 : t ≠ 5) : ¬ SvB v k := by
  have row : ∀ {t' : TypeId} {m g : Nat} {L : List El}, t ≠ t' → ElAt w t' m g L → g ≠ k := fun {t' m g L} hne hA e => by
    subst e; obtain ⟨cur, hg, _⟩ := hA.row; rw [hg] at hk; simp only [Option.some.injEq, Obj.cells.injEq] at hk; exact hne hk.2.1.symm
  have dat : ∀ {t' : TypeId} {m g : Nat} {L : List El}, ElAt w t' m g L → ∀ x ∈ L, x.o ≠ some k := fun {t' m g L} hA x hx e => by
    obtain ⟨i, hi⟩ := List.getElem?_of_mem hx; exact h3 (own_type (ownS_blk (hA.own i x hi).2.1 e) hk).symm
  intro hb
  rcases hb with (hb | ⟨x, hx, e⟩) | (hb | ⟨x, hx, e⟩)
  · rcases h.kk with ⟨h0, _⟩ | ⟨g, h0, hA⟩
    · rw [h0] at hb; cases hb
    · rw [h0] at hb; exact row h1 hA (by simpa using hb)
  · rcases h.kk with ⟨_, _, h0⟩ | ⟨g, _, hA⟩
    · rw [h0] at hx; simp at hx
    · exact dat hA x hx e
  · rcases h.ss with ⟨h0, _⟩ | ⟨g, h0, hA⟩
    · rw [h0] at hb; cases hb
    · rw [h0] at hb; exact row h2 hA (by simpa using hb)
  · rcases h.ss with ⟨_, _, h0⟩ | ⟨g, _, hA⟩
    · rw [h0] at hx; simp at hx
    · exact dat hA x hx e
def svObj (v : Sv) : Obj := .cells #[.int .i64 v.b, .slice v.ko v.K.length v.kc, .slice v.so v.S.length v.sc] 28 (0, 0)
/-- memory: the source, the service in its box, the items given -/
structure SM (w wl : World) (zs : List Nat) (g bv : Nat) (v : Sv) (vg : Value) (G : List El) : Prop where
  gr : w.grownBy wl none
  src : Src wl g zs
  gl : w.heap.size ≤ g
  gb : g < bv
  box : wl.heap[bv]? = some (svObj v)
  full : SvFull wl v ∨ v = zeroSv
  row : wl.ownsRow (bv + 1) 32 3 vg G.length (G.flatMap El.cells)
  gd : ∀ x ∈ G, x.hd.length = 2 ∧ OwnS wl 5 (oad x.o) x.d.length x.d
  sep : ∀ k, vg.ownBlock = some k → ¬ SvB v k
theorem zero_at (w : World) : SvAt w zeroSv := ⟨.inl ⟨rfl, rfl, rfl⟩, .inl ⟨rfl, rfl, rfl⟩, by simp [zeroSv]⟩
theorem zero_noB (k : Nat) : ¬ SvB zeroSv k := by
  rintro ((h | ⟨x, hx, _⟩) | (h | ⟨x, hx, _⟩))
  · cases h
  · simp [zeroSv] at hx
  · cases h
  · simp [zeroSv] at hx
theorem SM.av {w wl : World} {zs : List Nat} {g bv : Nat} {v : Sv} {vg : Value} {G : List El} (h : SM w wl zs g bv v vg G) : SvAt wl v := by
  rcases h.full with h | rfl
  · exact h.at_
  · exact zero_at wl
theorem SvFull.apart {w w' : World} {T : Nat → Prop} {s : Sv} (h : SvFull w s) (hb : Only T w w') (hd : ∀ k, SvB s k → ¬ T k) : SvFull w' s := ⟨h.at_.apart hb hd, h.ks, h.ss, h.kb, h.sb⟩
theorem SM.slt {w wl : World} {zs : List Nat} {g bv : Nat} {v : Sv} {vg : Value} {G : List El} (h : SM w wl zs g bv v vg G) : bv < wl.heap.size := (Array.getElem?_eq_some_iff.1 h.box).1
theorem SM.cells {w wl : World} {zs : List Nat} {g bv : Nat} {v : Sv} {vg : Value} {G : List El} (h : SM w wl zs g bv v vg G) : wl.cell? ⟨bv, 0, none⟩ = some (.int .i64 v.b) ∧ wl.cell? ⟨bv, 1, none⟩ = some (.slice v.ko v.K.length v.kc) ∧ wl.cell? ⟨bv, 2, none⟩ = some (.slice v.so v.S.length v.sc) ∧ wl.frozen? ⟨bv, 0, none⟩ = false ∧ wl.frozen? ⟨bv, 1, none⟩ = false ∧ wl.frozen? ⟨bv, 2, none⟩ = false := by
  have := h.box
  simp [World.cell?, World.frozen?, this, svObj]
theorem SM.more {w wl wx : World} {zs : List Nat} {g bv : Nat} {v : Sv} {vg : Value} {G : List El} (h : SM w wl zs g bv v vg G) (hg : wl.grownBy wx none) : SM w wx zs g bv v vg G :=
  ⟨grownBy_trans h.gr hg, h.src.grown0 hg, h.gl, h.gb, (hg.block bv h.slt (by simp)).trans h.box, h.full.imp (fun h => h.grown0 hg) id, h.row.kept hg (by cases vg.ownBlock <;> simp), fun x hx => ⟨(h.gd x hx).1, (h.gd x hx).2.grown0 hg⟩, h.sep⟩
/-- a draw -/
theorem SM.drawn {w wl wx : World} {zs : List Nat} {g bv : Nat} {v : Sv} {vg : Value} {G : List El} (h : SM w wl zs g bv v vg G) (hg : wl.grownBy wx (some g)) (hs : Src wx g zs) : SM w wx zs g bv v vg G := by
  obtain ⟨_, _, _, _, _, hb, _⟩ := h.src; have hgb := h.gb; have hgl := h.gl; refine ⟨grownBy_new h.gr hg h.gl, hs, h.gl, h.gb, (hg.block bv h.slt (by simp; omega)).trans h.box, ?_, h.row.kept hg ?_, fun x hx => ⟨(h.gd x hx).1, (h.gd x hx).2.grown hg (fun k e e2 => ?_)⟩, h.sep⟩
  · rcases h.full with hf | hz
    · exact .inl (hf.apart (Only.of (S := fun k => k = g) hg (fun k e => by simpa using e.symm)) (fun k hk e => by subst e; exact hf.at_.notB hb (by decide) (by decide) (by decide) hk))
    · exact .inr hz
  · cases hv : vg.ownBlock with
    | none => exact .inl rfl
    | some k => exact .inr fun e => by have := (h.row.lt k hv).1; simp only [Option.some.injEq] at e; omega
  · rw [blk_oad] at e
    have hk : k = g := by simpa using e2
    subst hk; exact absurd (own_type (ownS_blk (h.gd x hx).2 e) hb) (by decide)
/-- another service in the box -/
theorem SM.put {w wl : World} {zs : List Nat} {g bv : Nat} {v r : Sv} {vg : Value} {G : List El} (h : SM w wl zs g bv v vg G) (hr : SvFull wl r) (hsep : ∀ k, vg.ownBlock = some k → ¬ SvB r k) :
    SM w (((wl.setCell ⟨bv, 0, none⟩ (.int .i64 r.b)).setCell ⟨bv, 1, none⟩ (.slice r.ko r.K.length r.kc)).setCell ⟨bv, 2, none⟩ (.slice r.so r.S.length r.sc)) zs g bv r vg G := by
  have hgb := h.gb; have hgl := h.gl; have hbox := h.box
  unfold svObj at hbox
  have hbn : ¬ SvB r bv := hr.at_.notB hbox (by decide) (by decide) (by decide); have O : Only (fun k => k = bv) wl (((wl.setCell ⟨bv, 0, none⟩ (.int .i64 r.b)).setCell ⟨bv, 1, none⟩ (.slice r.ko r.K.length r.kc)).setCell ⟨bv, 2, none⟩ (.slice r.so r.S.length r.sc)) := (((Only.refl (fun k => k = bv) wl).set bv 0 _ rfl).set bv 1 _ rfl).set bv 2 _ rfl; have hg : wl.grownBy (((wl.setCell ⟨bv, 0, none⟩ (.int .i64 r.b)).setCell ⟨bv, 1, none⟩ (.slice r.ko r.K.length r.kc)).setCell ⟨bv, 2, none⟩ (.slice r.so r.S.length r.sc)) (some bv) := ⟨O.os, O.tape, O.output, O.size, fun k hk hne => O.block k hk (fun e => hne (by rw [e]))⟩; refine ⟨grownBy_new h.gr hg (by omega), h.src.grown hg (fun r e => by simp only [Option.some.injEq] at e; omega), h.gl, h.gb, ?_, .inl (hr.apart O (fun k hk e => hbn (by rw [← e]; exact hk))), h.row.kept hg ?_, fun x hx => ⟨(h.gd x hx).1, (h.gd x hx).2.grown hg (fun k e e2 => ?_)⟩, hsep⟩
  · exact heap_setCell_same _ _ 2 _ _ _ (heap_setCell_same _ _ 1 _ _ _ (heap_setCell_same _ _ 0 _ _ _ hbox))
  · cases hv : vg.ownBlock with
    | none => exact .inl rfl
    | some k => exact .inr fun e => by have := (h.row.lt k hv).1; simp only [Option.some.injEq] at e; omega
  · rw [blk_oad] at e
    have hk : k = bv := by simpa using e2
    subst hk; exact absurd (own_type (ownS_blk (h.gd x hx).2 e) hbox) (by decide)
/-- an item more is given -/
theorem SM.give {w wl wa : World} {zs : List Nat} {g bv gv n cap : Nat} {v : Sv} {vg : Value} {G : List El} {x : El} (h : SM w wl zs g bv v vg G) (hx : x.hd.length = 2 ∧ OwnS wl 5 (oad x.o) x.d.length x.d) (hn : G.length + 1 = n)
    (hown : wa.ownsRow (bv + 1) 32 3 (.slice (some ⟨gv, 0, none⟩) n cap) n (G.flatMap El.cells ++ x.cells)) (hg : wl.grownBy wa vg.ownBlock) (hat : vg.ownBlock = some gv ∨ gv = wl.heap.size) : SM w wa zs g bv v (.slice (some ⟨gv, 0, none⟩) n cap) (G ++ [x]) ∧ ∀ k, SvB v k → wa.heap[k]? = wl.heap[k]? := by
  have hgb := h.gb; have hgl := h.gl; subst hn
  have hbv : ∀ k, vg.ownBlock = some k → bv + 1 ≤ k ∧ k < wl.heap.size := fun k e => h.row.lt k e
  have hvB : ∀ k, SvB v k → some k ≠ vg.ownBlock := fun k hk e => h.sep k e.symm hk
  have htype : ∀ k, vg.ownBlock = some k → ∃ c f, wl.heap[k]? = some (.cells c 32 f) := fun k e => by
    rcases h.row.2 with ⟨h0, _⟩ | ⟨g', cap', cur, h0, _, hg', _⟩
    · rw [h0] at e; cases e
    · rw [h0] at e; simp only [Value.ownBlock, Option.some.injEq] at e; subst e; exact ⟨cur, _, hg'⟩
  have hOw : ∀ {y : El}, OwnS wl 5 (oad y.o) y.d.length y.d → OwnS wa 5 (oad y.o) y.d.length y.d := fun {y} hy => hy.grown hg (fun k e e2 => by
    rw [blk_oad] at e; obtain ⟨c, f, ht⟩ := htype k e2.symm
    exact absurd (own_type (ownS_blk hy e) ht) (by decide))
  have hO : Only (fun k => vg.ownBlock = some k) wl wa := Only.of hg (fun k e => e); refine ⟨⟨grownBy_row h.gr hg (fun k e => by have := (hbv k e).1; omega), ?_, h.gl, h.gb, (hg.block bv h.slt (fun e => by have := (hbv bv e.symm).1; omega)).trans h.box, h.full.imp (fun hf => hf.apart hO (fun k hk e => hvB k hk e.symm)) id, by simpa using hown, fun y hy => ?_, fun k e => ?_⟩, fun k hk => hg.block k (h.av.lt k hk) (hvB k hk)⟩
  · cases hv : vg.ownBlock with
    | none => rw [hv] at hg; exact h.src.grown0 hg
    | some k => rw [hv] at hg; exact h.src.grown hg (fun r e => by simp only [Option.some.injEq] at e; have := (hbv k hv).1; omega)
  · rcases List.mem_append.1 hy with hy | hy
    · exact ⟨(h.gd y hy).1, hOw (h.gd y hy).2⟩
    · obtain rfl : y = x := by simpa using hy
      exact ⟨hx.1, hOw hx.2⟩
  · simp only [Value.ownBlock, Option.some.injEq] at e; subst e
    rcases hat with hat | hat
    · exact h.sep gv hat
    · intro hk; have := h.av.lt gv hk
      omega
/-- meaning: the service is that of the items given -/
structure SK (v : Sv) (G : List El) : Prop where
  kn : Kn G v.S
  vb : v.b = 0
  vk : v.K.map El.tell = G.map El.tell
  n : G.length ≤ 60
theorem SK.start : SK zeroSv [] := ⟨Kn.nil, rfl, rfl, by simp⟩
theorem SK.valid {v : Sv} {G : List El} (h : SK v G) : ValidV v.b v.K v.S := by
  rw [h.vb]; exact h.kn.valid h.vk (by have := h.n; omega)
theorem SK.small {v : Sv} {G : List El} (h : SK v G) : SvSmall v := by
  have hV := h.valid
  have hl : v.K.length = G.length := by have := congrArg List.length h.vk; simpa using this
  have hn := h.n
  have hs : (v.S.length : Int) ≤ 50 - 0 := by
    have : ∀ (S : List El) (b : Int), b ≤ 50 → risesE b S → (∀ x ∈ S, x.c ≤ 50) → (S.length : Int) ≤ 50 - b := by
      intro S
      induction S with
      | nil => intro b hb _ _; simp; omega
      | cons y S ih =>
        intro b hb h hm; have h1 := ih y.c (hm y (by simp)) h.2 (fun x hx => hm x (by simp [hx])); have h2 := h.1; simp only [List.length_cons]
        omega
    exact this v.S 0 (by omega) hV.2.2.2.2.2 (fun x hx => by have h1 := (hV.2.2.2.2.1 x hx).1; unfold okE itemOk at h1; omega)
  refine ⟨by omega, by omega, fun x hx => ?_, fun x hx => ?_⟩
  · have h1 := hV.2.2.2.1 x hx; unfold okE itemOk at h1; omega
  · have h1 := (hV.2.2.2.2.1 x hx).1; unfold okE itemOk at h1; omega
theorem SM.clone {w wl : World} {zs : List Nat} {g bv : Nat} {v : Sv} {vg : Value} {G : List El} (h : SM w wl zs g bv v vg G) (hs : SvSmall v) : CloneAt v wl := by
  rcases h.full with hf | rfl
  · exact cloneAt_full hf hs
  · exact cloneAt_nil wl
/-- the program's Apply, on the service in the box -/
theorem ses_apply {w wl : World} {zs : List Nat} {g bv : Nat} {v : Sv} {vg : Value} {G : List El} (h : SM w wl zs g bv v vg G) (hk : SK v G) {ad : Nat → Addr} (hE : ErrsAt wl ad) (ys : List Nat) (gq len cap : Nat) (X : World) (hX : wl.grownBy X none) (hO : Own X 5 gq ys) (hl : ys.length = len) (hc : len ≤ cap) (hm : len ≤ 1073741824) :
    Calls Tryd.prog 13 #[.agg #[.int .i64 v.b, .slice v.ko v.K.length v.kc, .slice v.so v.S.length v.sc], .slice (some ⟨gq, 0, none⟩) len cap] X fun e w' => ∃ (r : Sv) (pl c : Int), e = .returned (.tuple #[.agg #[.int .i64 r.b, .slice r.ko r.K.length r.kc, .slice r.so r.S.length r.sc], .int .i64 pl, .int .i64 c]) ∧ Hid (r.b = 0 ∧ ApSays 0 v.K v.S ys pl c (r.K.map El.tell) (r.S.map El.tell) ∧ SvFull w' r ∧ (∀ k, SvB r k → X.heap.size ≤ k) ∧ X.grownBy w' none) := by
  have hx := h.more hX; refine (implApply_gen v (some ⟨gq, 0, none⟩) len cap ys ad X (hE.grown hX) (hO.sl len hl) hc hm hx.av (hx.clone hk.small) hk.small hk.valid).mono ?_; rintro e w' ⟨q, r, pl, c, rfl, hq, hb, hsay, hF, hB, hG⟩; rw [hk.vb] at hb hsay; exact ⟨r, pl, c, rfl, hb, hsay.tell (congrArg (fun t => t.2.1) hq) (congrArg (fun t => t.2.2) hq), hF, hB, hG⟩
def StaleTo (G : List El) (c q : Int) (j : Nat) (b : Bool) : Prop := b = true ↔ ∃ (i : Nat) (y : El), i < j ∧ G[i]? = some y ∧ y.c = c ∧ q ≤ y.q
def PlaceTo (G : List El) (x : El) (j p : Nat) : Prop := (p = G.length ∧ ∀ (i : Nat) (y : El), i < j → G[i]? = some y → ¬ same3 x y) ∨ ∃ y, p < j ∧ G[p]? = some y ∧ same3 x y
def OverTo (G : List El) (c q : Int) (j p1 p2 : Nat) : Prop := (p2 = G.length ∧ ∃ (i : Nat) (y : El), i < j ∧ G[i]? = some y ∧ y.c = c ∧ q < y.q) ∨ (p2 = p1 ∧ ∀ (i : Nat) (y : El), i < j → G[i]? = some y → y.c = c → ¬ q < y.q)
theorem lt_succ_or {i j : Nat} (h : i < j + 1) : i < j ∨ i = j := by omega
theorem StaleTo.zero (G : List El) (c q : Int) : StaleTo G c q 0 false := by
  refine ⟨(fun h => by cases h), (fun ⟨i, y, h, _⟩ => by omega)⟩
theorem StaleTo.yes {G : List El} {c q : Int} {j : Nat} {y : El} (hy : G[j]? = some y) (h1 : y.c = c) (h2 : q ≤ y.q) : StaleTo G c q (j + 1) true := ⟨fun _ => ⟨j, y, by omega, hy, h1, h2⟩, fun _ => rfl⟩
theorem StaleTo.no {G : List El} {c q : Int} {j : Nat} {b : Bool} {y : El} (h : StaleTo G c q j b) (hy : G[j]? = some y) (hn : ¬ (y.c = c ∧ q ≤ y.q)) : StaleTo G c q (j + 1) b := by
  refine ⟨fun hb => ?_, fun ⟨i, z, hi, hz, h1, h2⟩ => ?_⟩
  · obtain ⟨i, z, hi, hz⟩ := h.1 hb; exact ⟨i, z, by omega, hz⟩
  · rcases lt_succ_or hi with hi | rfl
    · exact h.2 ⟨i, z, hi, hz, h1, h2⟩
    · rw [hy] at hz; obtain rfl := Option.some.inj hz; exact absurd ⟨h1, h2⟩ hn
theorem PlaceTo.zero (G : List El) (x : El) : PlaceTo G x 0 G.length := .inl ⟨rfl, fun i y h => by omega⟩
theorem PlaceTo.yes {G : List El} {x y : El} {j : Nat} (hy : G[j]? = some y) (hs : same3 x y) : PlaceTo G x (j + 1) j := .inr ⟨y, by omega, hy, hs⟩
theorem PlaceTo.no {G : List El} {x y : El} {j p : Nat} (h : PlaceTo G x j p) (hy : G[j]? = some y) (hs : ¬ same3 x y) : PlaceTo G x (j + 1) p := by
  rcases h with ⟨h1, h2⟩ | ⟨z, h1, h2⟩
  · refine .inl ⟨h1, fun i z hi hz => ?_⟩
    rcases lt_succ_or hi with hi | rfl
    · exact h2 i z hi hz
    · rw [hy] at hz; obtain rfl := Option.some.inj hz; exact hs
  · exact .inr ⟨z, by omega, h2⟩
theorem OverTo.zero (G : List El) (c q : Int) (p : Nat) : OverTo G c q 0 p p := .inr ⟨rfl, fun i y h => by omega⟩
theorem OverTo.yes {G : List El} {c q : Int} {j p1 : Nat} {y : El} (hy : G[j]? = some y) (h1 : y.c = c) (h2 : q < y.q) : OverTo G c q (j + 1) p1 G.length := .inl ⟨rfl, j, y, by omega, hy, h1, h2⟩
theorem OverTo.no {G : List El} {c q : Int} {j p1 p2 : Nat} {y : El} (h : OverTo G c q j p1 p2) (hy : G[j]? = some y) (hn : ¬ (y.c = c ∧ q < y.q)) : OverTo G c q (j + 1) p1 p2 := by
  rcases h with ⟨h1, i, z, hi, hz⟩ | ⟨h1, h2⟩
  · exact .inl ⟨h1, i, z, by omega, hz⟩
  · refine .inr ⟨h1, fun i z hi hz hc hq => ?_⟩
    rcases lt_succ_or hi with hi | rfl
    · exact h2 i z hi hz hc hq
    · rw [hy] at hz; obtain rfl := Option.some.inj hz; exact hn ⟨hc, hq⟩
/-- an item of a row -/
theorem row_get2 {w : World} {base n cap : Nat} {og : Option Addr} {G : List El} (h : w.ownsRow base 32 3 (.slice og n cap) n (G.flatMap El.cells)) (hn : G.length = n) (hds : ∀ x ∈ G, x.hd.length = 2) {j : Nat} {y : El} (hy : G[j]? = some y) :
    ∃ (gr : Nat) (n0 n1 : Int), og = some ⟨gr, 0, none⟩ ∧ y.hd = [n0, n1] ∧ w.cell? ⟨gr, j * 3, none⟩ = some (.int .i64 n0) ∧ w.cell? ⟨gr, j * 3 + 1, none⟩ = some (.int .i64 n1) ∧ w.cell? ⟨gr, j * 3 + 2, none⟩ = some (.slice (oad y.o) y.d.length y.cp) := by
  have hjn := (List.getElem?_eq_some_iff.1 hy).1
  obtain ⟨n0, n1, hhd⟩ : ∃ n0 n1, y.hd = [n0, n1] := by
    have := hds y (List.mem_of_getElem? hy)
    match y.hd, this with
    | [a, b], _ => exact ⟨a, b, rfl⟩
  rcases h.2 with ⟨_, h0⟩ | ⟨g, cap', cur, h0, _, hg, _, _, hs, htake⟩
  · omega
  · simp only [Value.slice.injEq] at h0
    have hc : ∀ (i : Nat) (v : Value), i < 3 → y.cells[i]? = some v → w.cell? ⟨g, j * 3 + i, none⟩ = some v := fun i v hi hv => by
      have h1 := elflat_get 2 G hds j y i hy hi; rw [hv, ← htake, List.getElem?_take, if_pos (by omega), Array.getElem?_toList] at h1
      simp [World.cell?, hg, h1]
    have hcs : y.cells = [.int .i64 n0, .int .i64 n1, .slice (oad y.o) y.d.length y.cp] := by simp [El.cells, hhd]
    exact ⟨g, n0, n1, h0.1, hhd, hc 0 _ (by omega) (by rw [hcs]; rfl), hc 1 _ (by omega) (by rw [hcs]; rfl), hc 2 _ (by omega) (by rw [hcs]; rfl)⟩
theorem judge_to {G K S : List El} {x : El} {zs : List Nat} {pl c : Int} {KK SS : List (List Int × List Nat)} {st : Bool} {p1 p2 : Nat} (h : Kn G S) (hK : K.map El.tell = G.map El.tell) (hn : G.length < 1000000) (hx : okE x) (hxl : x.hd = [x.c, x.q]) (hd : decGood zs) (h1 : (decCl zs : Int) = x.c) (h2 : (decSq zs : Int) = x.q) (h3 : zs.drop 8 = x.d)
    (ha : ApSays 0 K S zs pl c KK SS) (hst : StaleTo G x.c x.q G.length st) (hp1 : PlaceTo G x G.length p1) (hp2 : OverTo G x.c x.q G.length p1 p2) :
    (c = 4 ∧ pl = 0 ∧ st = true ∧ p2 = G.length ∧ KK = G.map El.tell ∧ SS = S.map El.tell) ∨ (c = 0 ∧ pl = (p2 : Int) ∧ st = true ∧ p2 ≠ G.length ∧ KK = G.map El.tell ∧ SS = S.map El.tell) ∨
      (c = 0 ∧ pl = (G.length : Int) ∧ st = false ∧ p2 = G.length ∧ KK = (G ++ [x]).map El.tell ∧ ∃ S', SS = S'.map El.tell ∧ Kn (G ++ [x]) S') := by
  have lt : ∀ {i : Nat} {y : El}, G[i]? = some y → i < G.length := fun h => (List.getElem?_eq_some_iff.1 h).1
  refine judge (p1 := p1) h hK hn hx hxl hd h1 h2 h3 ha ⟨fun hb => ?_, fun ⟨j, y, hy⟩ => hst.2 ⟨j, y, lt hy.1, hy⟩⟩ ?_ ?_
  · obtain ⟨j, y, _, hy⟩ := hst.1 hb; exact ⟨j, y, hy⟩
  · rcases hp1 with ⟨e, hno⟩ | ⟨y, _, hy⟩
    · exact .inl ⟨e, fun j y hy => hno j y (lt hy) hy⟩
    · exact .inr ⟨y, hy⟩
  · rcases hp2 with ⟨e, j, y, _, hy⟩ | ⟨e, hno⟩
    · exact .inl ⟨e, j, y, hy⟩
    · exact .inr ⟨e, fun j y hy hc => hno j y (lt hy) hy hc⟩
theorem svz3 {W : World} {k : Nat} (h : W.heap[k]? = some (.cells #[.int .i64 0, .slice none 0 0, .slice none 0 0] 28 (0, 0))) : (W.cell? ⟨k, 0, none⟩ = some (.int .i64 0) ∧ W.cell? ⟨k, 1, none⟩ = some (.slice none 0 0) ∧ W.cell? ⟨k, 2, none⟩ = some (.slice none 0 0)) ∧ W.frozen? ⟨k, 0, none⟩ = false ∧ W.frozen? ⟨k, 1, none⟩ = false ∧ W.frozen? ⟨k, 2, none⟩ = false := by
  simp [World.cell?, World.frozen?, h]
/-- what Apply left, in a variable of its own -/
def NextAt (wr wx : World) (v : Sv) (ys : List Nat) (p a b : Value) : Prop :=
  ∃ (bn : Nat) (r : Sv) (pl c : Int), p = .pointer (some ⟨bn, 0, none⟩) ∧ a = .int .i64 pl ∧ b = .int .i64 c ∧ r.b = 0 ∧ ApSays 0 v.K v.S ys pl c (r.K.map El.tell) (r.S.map El.tell) ∧ wx.heap[bn]? = some (svObj r) ∧ SvFull wx r ∧ (∀ k, SvB r k → wr.heap.size ≤ k) ∧ wr.grownBy wx none ∧ wr.heap.size ≤ bn
theorem next_alloc {wr X w3 : World} {v r : Sv} {ys : List Nat} {pl c : Int} (hX : wr.grownBy X none) (h : r.b = 0 ∧ ApSays 0 v.K v.S ys pl c (r.K.map El.tell) (r.S.map El.tell) ∧ SvFull w3 r ∧ (∀ k, SvB r k → X.heap.size ≤ k) ∧ X.grownBy w3 none) :
    NextAt wr (w3.alloc (.cells #[.int .i64 r.b, .slice r.ko r.K.length r.kc, .slice r.so r.S.length r.sc] 28)) v ys (.pointer (some ⟨w3.heap.size, 0, none⟩)) (.int .i64 pl) (.int .i64 c) := by
  have G3 := grownBy_trans hX h.2.2.2.2; have GA := World.grownBy_alloc w3 (.cells #[.int .i64 r.b, .slice r.ko r.K.length r.kc, .slice r.so r.S.length r.sc] 28) none; exact ⟨_, r, pl, c, rfl, rfl, rfl, h.1, h.2.1, heap_alloc_new w3 _, h.2.2.1.grown0 GA, fun k hk => Nat.le_trans hX.size (h.2.2.2.1 k hk), grownBy_trans G3 GA, G3.size⟩
theorem next_set {wr X w3 : World} {v r : Sv} {ys : List Nat} {pl c : Int} {k : Nat} (hX : wr.grownBy X none) (h : r.b = 0 ∧ ApSays 0 v.K v.S ys pl c (r.K.map El.tell) (r.S.map El.tell) ∧ SvFull w3 r ∧ (∀ k, SvB r k → X.heap.size ≤ k) ∧ X.grownBy w3 none) (hk : w3.heap[k]? = some (.cells #[.int .i64 0, .slice none 0 0, .slice none 0 0] 28 (0, 0))) (hlo : wr.heap.size ≤ k) :
    NextAt wr (((w3.setCell ⟨k, 0, none⟩ (.int .i64 r.b)).setCell ⟨k, 1, none⟩ (.slice r.ko r.K.length r.kc)).setCell ⟨k, 2, none⟩ (.slice r.so r.S.length r.sc)) v ys (.pointer (some ⟨k, 0, none⟩)) (.int .i64 pl) (.int .i64 c) := by
  have G3 := grownBy_trans hX h.2.2.2.2; have O : Only (fun j => j = k) w3 (((w3.setCell ⟨k, 0, none⟩ (.int .i64 r.b)).setCell ⟨k, 1, none⟩ (.slice r.ko r.K.length r.kc)).setCell ⟨k, 2, none⟩ (.slice r.so r.S.length r.sc)) := (((Only.refl (fun j => j = k) w3).set k 0 _ rfl).set k 1 _ rfl).set k 2 _ rfl; refine ⟨k, r, pl, c, rfl, rfl, rfl, h.1, h.2.1, heap_setCell_same _ _ 2 _ _ _ (heap_setCell_same _ _ 1 _ _ _ (heap_setCell_same _ _ 0 _ _ _ hk)), h.2.2.1.apart O (fun j hj e => ?_), fun j hj => Nat.le_trans hX.size (h.2.2.2.1 j hj), grownBy_setNew (grownBy_setNew (grownBy_setNew G3 hlo) hlo) hlo, hlo⟩; subst e; exact h.2.2.1.at_.notB hk (by decide) (by decide) (by decide) hj
end Go.Proofs.YtdajcpcajdhplaaDoor
