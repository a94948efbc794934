/-
  DecodeState, the program's, walked: the function.
-/
import Derived.Test.YtdajcpcajdhplaaDoorStDec
namespace Go.Proofs.YtdajcpcajdhplaaDoor
open Go.RowKit

theorem Tryd.infoSes : (Tryd.prog.info? 74).map (fun i => (i.zero, i.size, i.bytes)) = some (some (.agg #[.int .i64 0, .int .i64 0, .int .i64 0, .slice none 0 0]), 4, 48) := by kernel_rfl
theorem PS.row {w0 wl wx : World} {p r b : Nat} {wr : Bool} {zs : List Nat} {row : Option Nat} (h : PS w0 wl p r b wr zs) (hg : wl.grownBy wx row) (hrow : ∀ k, row = some k → r < k) : PS w0 wx p r b wr zs := by
  cases row with
  | none => exact h.more hg
  | some k =>
    have hk := hrow k rfl
    have h1 := h.hp
    have h2 := h.hr
    have h3 := h.hb
    obtain ⟨off, len, cap, r1, r2, r3⟩ := h.rd
    exact ⟨grownBy_new h.grown hg (by omega), ⟨off, len, cap, r1.grown hg (by simp only [ne_eq, Option.some.injEq]; omega), slb_same r2 hg (Nat.lt_of_lt_of_le h3 h.grown.size) (by omega), r3⟩, (hg.block p h.plt (by simp only [ne_eq, Option.some.injEq]; omega)).trans h.pv, h.hb, h.hp, h.hr⟩
theorem grownBy_pastS {a b c : World} {s g : Nat} (h : a.grownBy b (some s)) (k : b.grownBy c (some g)) (hg : a.heap.size ≤ g) : a.grownBy c (some s) :=
  ⟨k.os.trans h.os, k.tape.trans h.tape, k.output.trans h.output, Nat.le_trans h.size k.size, fun j hj hne => (k.block j (Nat.lt_of_lt_of_le hj h.size) (by simp only [ne_eq, Option.some.injEq]; omega)).trans (h.block j hj hne)⟩
/-- .. with the service that is being made -/
structure DS (w0 wl : World) (p r s b B : Nat) (v : Value) (L : List Se) (wr : Bool) (zs : List Nat) : Prop where
  ps : PS w0 wl p r b wr zs
  sv : wl.heap[s]? = some (.cells #[.int .i64 (B : Int), .slice none 0 0, v] 28 (0, 0))
  row : SesRow wl (s + 1) v L
  rs : r < s
theorem DS.slt {w0 wl : World} {p r s b B : Nat} {v : Value} {L : List Se} {wr : Bool} {zs : List Nat} (h : DS w0 wl p r s b B v L wr zs) : s < wl.heap.size := (Array.getElem?_eq_some_iff.1 h.sv).1
theorem DS.cells {w0 wl : World} {p r s b B : Nat} {v : Value} {L : List Se} {wr : Bool} {zs : List Nat} (h : DS w0 wl p r s b B v L wr zs) : wl.cell? ⟨s, 0, none⟩ = some (.int .i64 (B : Int)) ∧ wl.cell? ⟨s, 1, none⟩ = some (.slice none 0 0) ∧ wl.cell? ⟨s, 2, none⟩ = some v ∧ wl.frozen? ⟨s, 2, none⟩ = false := by
  have := h.sv
  simp [World.cell?, World.frozen?, this]
theorem DS.step {w0 wl wx : World} {p r s b B : Nat} {v : Value} {L : List Se} {wr wr' : Bool} {zs zs' : List Nat} (h : DS w0 wl p r s b B v L wr zs) (hps : PS w0 wx p r b wr' zs') (hg : wl.grownBy wx (some r)) : DS w0 wx p r s b B v L wr' zs' :=
  ⟨hps, (hg.block s h.slt (by have := h.rs; simp only [ne_eq, Option.some.injEq]; omega)).trans h.sv, h.row.grown hg (fun k e => by have := h.rs; simp only [Option.some.injEq] at e; omega), h.rs⟩
theorem DS.more {w0 wl wx : World} {p r s b B : Nat} {v : Value} {L : List Se} {wr : Bool} {zs : List Nat} (h : DS w0 wl p r s b B v L wr zs) (hg : wl.grownBy wx none) : DS w0 wx p r s b B v L wr zs :=
  ⟨h.ps.more hg, (hg.block s h.slt (by simp)).trans h.sv, h.row.grown hg (by simp), h.rs⟩
theorem DS.put {w0 wl wa : World} {p r s b B : Nat} {v v' : Value} {L : List Se} {wr : Bool} {zs : List Nat} (h : DS w0 wl p r s b B v L wr zs) (x : Se) (hx : SeOwn wl (s + 1) x) (hn : ∀ g, x.o = some g → g ∉ L.filterMap Se.o)
    (hown : wa.ownsRow (s + 1) 74 4 v' (L.length + 1) (L.flatMap Se.cells ++ x.cells)) (hg : wl.grownBy wa v.ownBlock) : DS w0 (wa.setCell ⟨s, 2, none⟩ v') p r s b B v' (L ++ [x]) wr zs := by
  have hrs := h.rs
  have hv : ∀ k, v.ownBlock = some k → s + 1 ≤ k := fun k e => (h.row.1.lt k e).1
  have hset : wa.grownBy (wa.setCell ⟨s, 2, none⟩ v') (some s) := grownBy_setCell (grownBy_refl _ _)
  have hsv : wa.heap[s]? = some (.cells #[.int .i64 (B : Int), .slice none 0 0, v] 28 (0, 0)) := (hg.block s h.slt (fun e => by have := hv s e.symm; omega)).trans h.sv
  refine ⟨(h.ps.row hg (fun k e => by have := hv k e; omega)).row hset (fun k e => by simp only [Option.some.injEq] at e; omega), heap_setCell_same wa s 2 _ _ _ hsv, ?_, hrs⟩
  exact (h.row.append hx hn hown hg).grown hset (fun k e => by simp only [Option.some.injEq] at e; omega)
def DecRes (w w' : World) (e : Ending) (zs : List Nat) : Prop :=
  w.grownBy w' none ∧ ((∃ B L v, e = .returned (.tuple #[.agg #[.int .i64 ((B : Nat) : Int), .slice none 0 0, v], .int .i64 0]) ∧ ValidS B (L.map Se.tell) ∧ encSt B (L.map Se.tell) = zs ∧ SesRow w' w.heap.size v L) ∨
    ((∀ B l, ValidS B l → encSt B l ≠ zs) ∧ e = .returned (.tuple #[.agg #[.int .i64 0, .slice none 0 0, .slice none 0 0], .int .i64 5])))
def SeSmall (x : Se) : Prop := x.c ≤ 1000000000 ∧ x.q ≤ 1000000000 ∧ x.i ≤ 1000000000 ∧ x.d.length ≤ 1073741824
theorem SeSmall.tell {x : Se} (h : SeSmall x) : smallS x.tell := by
  obtain ⟨h1, h2, h3, h4⟩ := h
  unfold smallS P64 Se.tell
  refine ⟨?_, ?_, ?_, ?_⟩ <;> simp only <;> omega
theorem small_all {L : List Se} (h : ∀ x ∈ L, SeSmall x) : ∀ x ∈ L.map Se.tell, smallS x := by
  intro x hx
  obtain ⟨y, hy, rfl⟩ := List.mem_map.1 hx
  exact (h y hy).tell
set_option maxRecDepth 4000 in
set_option maxHeartbeats 4000000 in
theorem implDecodeState_any (b off len cap : Nat) (zs : List Nat) (w : World) (hsl : SlB w (some ⟨b, off, none⟩) len zs) (hlc : len ≤ cap) (hm : cap ≤ maxLen) (hlen : len ≤ 1073741824) (hb : b < w.heap.size) :
    Calls Tryd.prog 16 #[.slice (some ⟨b, off, none⟩) len cap] w fun e w' => DecRes w w' e zs := by
  have P1 : PS w ((w.alloc (.cells #[.int .i64 0, .slice none 0 0, .slice none 0 0] 28)).alloc (.cells #[.slice (some ⟨b, off, none⟩) len cap, .bool false] 78)) w.heap.size (w.heap.size + 1) b false zs := by
    have G : w.grownBy ((w.alloc (.cells #[.int .i64 0, .slice none 0 0, .slice none 0 0] 28)).alloc (.cells #[.slice (some ⟨b, off, none⟩) len cap, .bool false] 78)) none := grownBy_alloc (World.grownBy_alloc w _ _) _
    refine ⟨G, ⟨off, len, cap, ?_, hsl.grown0 G, hlc, hm, hlen⟩, ?_, hb, Nat.le_refl _, by omega⟩
    · exact heap_two w _ _
    · exact (Below.heap_alloc _ _ _ (by simp)).trans (heap_alloc_new w _)
  have HP1 : Hid (PS _ _ _ _ _ _ _) := P1
  clear hsl P1
  go_enter Tryd.func16, Tryd.ntmps16
  go_wp2_with fail
  refine HP1.out.number.mono ?_
  rintro e w2 ⟨B, wr1, z1, rfl, hn1, hps1, -⟩
  have HD2 : Hid (DS w (w2.alloc (.cells #[.int .i64 (B : Int), .slice none 0 0, .slice none 0 0] 28)) w.heap.size (w.heap.size + 1) w2.heap.size b B (.slice none 0 0) [] wr1 z1 ∧ NumStep false zs B wr1 z1) := by
    refine ⟨⟨hps1.more (World.grownBy_alloc _ _ _), heap_alloc_new w2 _, SesRow.nil _ _, ?_⟩, hn1⟩
    obtain ⟨_, _, _, h9, _⟩ := hps1.rd
    exact h9.lt
  clear hn1 hps1 HP1
  go_wp2_with fail
  refine HD2.out.1.ps.number.mono ?_
  rintro e w3 ⟨cnt, wr2, z2, rfl, hn2, hps2, hg2⟩
  have hcnt : cnt ≤ 1000000000 := hn2.1
  have hB : B ≤ 1000000000 := HD2.out.2.1
  have HD3 : Hid (DS w w3 w.heap.size (w.heap.size + 1) w2.heap.size b B (.slice none 0 0) [] wr2 z2 ∧ (wr2 = false → zs = leN B 8 ++ (leN cnt 8 ++ (encL [] ++ z2))) ∧ (∀ b' l', ValidS b' l' → encSt b' l' = zs → wr2 = false)) := by
    refine ⟨HD2.out.1.step hps2 hg2, fun h => ?_, fun b' l' hV he => ?_⟩
    · obtain ⟨h3, h4⟩ := hn2.back h
      obtain ⟨h5, h6⟩ := HD2.out.2.back h3
      rw [h6, h4]
      rfl
    · have h50 := hV.len
      unfold encSt at he
      obtain ⟨h3, _, h4⟩ := HD2.out.2.on rfl he.symm (by have := hV.1; omega)
      exact (hn2.on h3 h4 (by omega)).1
  clear hn2 hps2 hg2 HD2
  generalize w2.heap.size = s at *
  go_wp2
  go_loopw [6] (fun lf wl => ∃ (k : Nat) (L : List Se) (v : Value) (wr : Bool) (z : List Nat), lf = .int .i64 (k : Int) ∧ L.length + k = cnt ∧ DS w wl w.heap.size (w.heap.size + 1) s b B v L wr z ∧ (wr = false → zs = leN B 8 ++ (leN cnt 8 ++ (encL (L.map Se.tell) ++ z))) ∧ (∀ b' l', ValidS b' l' → encSt b' l' = zs → wr = false) ∧ ∀ x ∈ L, SeSmall x) (fun lf _ => (intOf lf).toNat)
  case atStart => exact ⟨cnt, [], _, wr2, z2, rfl, by simp, HD3.out.1, HD3.out.2.1, HD3.out.2.2, by simp⟩
  case round =>
    clear HD3
    obtain ⟨k, L, v, wx, z, rfl, hLk, hD, hF, hGv, hsm⟩ := hrel
    have HD : Hid (DS w wr w.heap.size (w.heap.size + 1) s b B v L wx z) := hD
    have HF : Hid ((wx = false → zs = leN B 8 ++ (leN cnt 8 ++ (encL (L.map Se.tell) ++ z))) ∧ (∀ b' l', ValidS b' l' → encSt b' l' = zs → wx = false) ∧ ∀ x ∈ L, SeSmall x) := ⟨hF, hGv, hsm⟩
    have hrc : wr.cell? ⟨w.heap.size + 1, 1, none⟩ = some (.bool wx) := by obtain ⟨_, _, _, h9, _⟩ := hD.ps.rd; exact h9.cells.2.1
    clear hD hF hGv hsm
    by_cases hgo : 0 < k ∧ wx = false
    · obtain ⟨hk0, rfl⟩ := hgo
      have hk1 : (0 : Int) < (k : Int) := by omega
      as_aux_lemma =>
        go_wp2_with fail
        refine HD.out.ps.number.mono ?_
        rintro e w4 ⟨v1, r1, y1, rfl, s1, p1, g1⟩
        have H4 : Hid (DS w w4 w.heap.size (w.heap.size + 1) s b B v L r1 y1 ∧ NumStep false z v1 r1 y1) := ⟨HD.out.step p1 g1, s1⟩
        clear s1 p1 g1 HD hrc
        go_wp2_with fail
        refine H4.out.1.ps.number.mono ?_
        rintro e w5 ⟨v2, r2, y2, rfl, s2, p2, g2⟩
        have H5 : Hid (DS w w5 w.heap.size (w.heap.size + 1) s b B v L r2 y2 ∧ NumStep r1 y1 v2 r2 y2) := ⟨H4.out.1.step p2 g2, s2⟩
        clear s2 p2 g2
        go_wp2_with fail
        refine H5.out.1.ps.number.mono ?_
        rintro e w6 ⟨v3, r3, y3, rfl, s3, p3, g3⟩
        have H6 : Hid (DS w w6 w.heap.size (w.heap.size + 1) s b B v L r3 y3 ∧ NumStep r2 y2 v3 r3 y3) := ⟨H5.out.1.step p3 g3, s3⟩
        have hs6 := H6.out.1.slt
        have hrs := H6.out.1.rs
        clear s3 p3 g3
        go_wp2_with fail
        refine (H6.out.1.more (World.grownBy_alloc _ _ _)).ps.number.mono ?_
        rintro e w7 ⟨v4, r4, y4, rfl, s4, p4, g4⟩
        have H7 : Hid (PS w w7 w.heap.size (w.heap.size + 1) b r4 y4 ∧ NumStep r3 y3 v4 r4 y4 ∧ w6.grownBy w7 (some (w.heap.size + 1)) ∧ w7.heap[w6.heap.size]? = some (.cells #[.int .i64 (v1 : Int), .int .i64 (v2 : Int), .int .i64 (v3 : Int), .slice none 0 0] 74 (0, 0))) :=
          ⟨p4, s4, grownBy_trans (grownBy_toSome (World.grownBy_alloc _ _ _)) g4, (g4.block _ (by simp) (by simp only [ne_eq, Option.some.injEq]; omega)).trans (heap_alloc_new w6 _)⟩
        clear s4 p4 g4
        go_wp2_with fail
        refine (H7.out.1.bytes v4).mono ?_
        rintro e w8 ⟨o, m, cp, d, r5, y5, rfl, hO, ho, hgf, hmm, s5, p5, g5⟩
        have h67 := H7.out.2.2.1.size
        have hX7 : w6.heap.size < w7.heap.size := (Array.getElem?_eq_some_iff.1 H7.out.2.2.2).1
        have hX8 : w8.heap[w6.heap.size]? = some (.cells #[.int .i64 (v1 : Int), .int .i64 (v2 : Int), .int .i64 (v3 : Int), .slice none 0 0] 74 (0, 0)) := (g5.block _ hX7 (by simp only [ne_eq, Option.some.injEq]; omega)).trans H7.out.2.2.2
        have hf3 : w8.frozen? ⟨w6.heap.size, 3, none⟩ = false := by simp [World.frozen?, hX8]
        have hc3 : w8.cell? ⟨w6.heap.size, 3, none⟩ = some (.slice none 0 0) := by simp [World.cell?, hX8]
        have hset : w8.grownBy (w8.setCell ⟨w6.heap.size, 3, none⟩ (.slice (oad o) m cp)) (some w6.heap.size) := grownBy_setCell (grownBy_refl _ _)
        have hG9 : w6.grownBy (w8.setCell ⟨w6.heap.size, 3, none⟩ (.slice (oad o) m cp)) (some (w.heap.size + 1)) := grownBy_pastS (grownBy_trans H7.out.2.2.1 g5) hset (Nat.le_refl _)
        have hX9 : (w8.setCell ⟨w6.heap.size, 3, none⟩ (.slice (oad o) m cp)).heap[w6.heap.size]? = some (.cells #[.int .i64 (v1 : Int), .int .i64 (v2 : Int), .int .i64 (v3 : Int), .slice (oad o) m cp] 74 (0, 0)) := heap_setCell_same w8 _ 3 _ _ _ hX8
        have hO9 : OwnS (w8.setCell ⟨w6.heap.size, 3, none⟩ (.slice (oad o) m cp)) 5 (oad o) m d := by
          refine hO.grown hset (fun g e => ?_)
          have h5 : o = some g := by rw [← blk_oad o]; exact e
          have := hgf g h5
          simp only [ne_eq, Option.some.injEq]
          omega
        have HD9 : Hid (DS w (w8.setCell ⟨w6.heap.size, 3, none⟩ (.slice (oad o) m cp)) w.heap.size (w.heap.size + 1) s b B v L r5 y5 ∧ BytStep r4 y4 v4 m d r5 y5 ∧ OwnS (w8.setCell ⟨w6.heap.size, 3, none⟩ (.slice (oad o) m cp)) 5 (oad o) m d ∧ (o = none → cp = 0) ∧ (∀ g, o = some g → w6.heap.size ≤ g)) :=
          ⟨H6.out.1.step (p5.row hset (fun k e => by simp only [Option.some.injEq] at e; omega)) hG9, s5, hO9, ho, fun g e => by have := hgf g e; omega⟩
        clear hO ho hgf s5 p5 g5 hset hG9 hO9 hX8
        go_upto_region 8 with fail
        generalize w8.setCell ⟨w6.heap.size, 3, none⟩ (.slice (oad o) m cp) = W9 at *
        have hx0 : W9.cell? ⟨w6.heap.size, 0, none⟩ = some (.int .i64 (v1 : Int)) := by simp [World.cell?, hX9]
        have hx1 : W9.cell? ⟨w6.heap.size, 1, none⟩ = some (.int .i64 (v2 : Int)) := by simp [World.cell?, hX9]
        have hx2 : W9.cell? ⟨w6.heap.size, 2, none⟩ = some (.int .i64 (v3 : Int)) := by simp [World.cell?, hX9]
        have hx3 : W9.cell? ⟨w6.heap.size, 3, none⟩ = some (.slice (oad o) m cp) := by simp [World.cell?, hX9]
        obtain ⟨q0, q1, q2, q3⟩ := HD9.out.1.cells
        have hs9 := HD9.out.1.slt
        have hlL : L.length ≤ 1000000000 := by omega
        obtain ⟨ir, hri, hr0, hr1, hr2⟩ := info_parts Tryd.infoSes
        clear hX9 hf3 hc3 hX7 h67
        go_wp2_with (at_builtin; refine wpList_append_own _ rfl _ _ 26 rfl (s + 1) 74 ir (.agg #[.int .i64 0, .int .i64 0, .int .i64 0, .slice none 0 0]) 4 48 Tryd.underlying26 hri hr0 hr1 hr2 rfl (by decide) _ L.length (L.flatMap Se.cells) rfl (by exact World.ownsRow.alloc HD9.out.1.row.1 _) ⟨W9.heap.size, 0, none⟩ 1 1 [.int .i64 (v1 : Int), .int .i64 (v2 : Int), .int .i64 (v3 : Int), .slice (oad o) m cp] rfl rfl ?c1 ?c2 ?c3 ?c4 ?c5 ?_)
        case c1 =>
          intro j u hj
          match j, hj with
          | 0, hj => simp at hj; subst hj; simp [Addr.add]
          | 1, hj => simp at hj; subst hj; simp [Addr.add]
          | 2, hj => simp at hj; subst hj; simp [Addr.add]
          | 3, hj => simp at hj; subst hj; simp [Addr.add]
        case c2 => intro u hu; simp at hu; rcases hu with rfl | rfl | rfl | rfl <;> rfl
        case c3 => unfold maxLen; omega
        case c4 => omega
        case c5 => simp; omega
        intro v' wa hown' hgrow _
        obtain ⟨g', cap', rfl⟩ : ∃ g' c', v' = .slice (some ⟨g', 0, none⟩) (L.length + 1) c' := by
          rcases hown'.2 with ⟨_, h'⟩ | ⟨g', cap', cur, h', _⟩
          · omega
          · exact ⟨g', cap', h'⟩
        obtain ⟨x, hx⟩ : ∃ x : Se, x = ⟨v1, v2, v3, d, o, cp⟩ := ⟨_, rfl⟩
        have hdm : d.length = m := HD9.out.2.2.1.1
        have hxc : x.cells = [.int .i64 (v1 : Int), .int .i64 (v2 : Int), .int .i64 (v3 : Int), .slice (oad o) m cp] := by rw [hx]; simp [Se.cells, hdm]
        rw [← hxc] at hown'
        have hDa := HD9.out.1.more (World.grownBy_alloc W9 (.cells #[.int .i64 (v1 : Int), .int .i64 (v2 : Int), .int .i64 (v3 : Int), .slice (oad o) m cp] 74) none)
        have HZ : Hid (DS w (wa.setCell ⟨s, 2, none⟩ (.slice (some ⟨g', 0, none⟩) (L.length + 1) cap')) w.heap.size (w.heap.size + 1) s b B (.slice (some ⟨g', 0, none⟩) (L.length + 1) cap') (L ++ [x]) r5 y5) := by
          refine hDa.put x ⟨?_, ?_, ?_⟩ ?_ hown' hgrow
          · rw [hx]; simp only; rw [hdm]; exact HD9.out.2.2.1.grown0 (World.grownBy_alloc _ _ _)
          · rw [hx]; exact HD9.out.2.2.2.1
          · rw [hx]; intro g e; have := HD9.out.2.2.2.2 g e; omega
          · rw [hx]
            intro g e hm'
            have h1 := HD9.out.2.2.2.2 g e
            have h2 := H6.out.1.row.lt g hm'
            omega
        have hsa : wa.frozen? ⟨s, 2, none⟩ = false := by
          have hb9 := hgrow.block s (by simp; omega) (fun e => by have := (HD9.out.1.row.1.lt s e.symm).1; omega)
          have h8 := hDa.cells.2.2.2
          unfold World.frozen? at h8 ⊢
          rw [hb9]
          exact h8
        have hca : wa.cell? ⟨s, 2, none⟩ = some v := by
          have hb9 := hgrow.block s (by simp; omega) (fun e => by have := (HD9.out.1.row.1.lt s e.symm).1; omega)
          have h8 := hDa.cells.2.2.1
          unfold World.cell? at h8 ⊢
          rw [hb9]
          exact h8
        have HR : Hid ((r5 = false → zs = leN B 8 ++ (leN cnt 8 ++ (encL ((L ++ [x]).map Se.tell) ++ y5))) ∧ (∀ b' l', ValidS b' l' → encSt b' l' = zs → r5 = false) ∧ ∀ x' ∈ L ++ [x], SeSmall x') := by
          have t1 := H4.out.2
          have t2 := H5.out.2
          have t3 := H6.out.2
          have t4 := H7.out.2.1
          have t5 := HD9.out.2.1
          refine ⟨fun h => ?_, fun b' l' hV he => ?_, fun x' hx' => ?_⟩
          · obtain ⟨_, h7⟩ := step_back t1 t2 t3 t4 t5 hdm h
            rw [HF.out.1 (by simp), h7, List.map_append, List.map_cons, List.map_nil, encL_snoc, hx]
            simp [Se.tell]
          · have h7 := HF.out.1 (by simp)
            obtain ⟨e1, e2, e3, e4⟩ := encSt_read (by unfold P64; omega) (by unfold P64; omega) (small_all HF.out.2.2) (by simp; omega) hV (he.trans h7)
            have hlt : (L.map Se.tell).length < l'.length := by simp; omega
            rw [List.drop_eq_getElem_cons hlt, encL_cons] at e4
            exact step_on _ b' t1 t2 t3 t4 t5 rfl e4 (hV.2.1 _ (List.getElem_mem hlt)) hV.1
          · rcases List.mem_append.1 hx' with h | h
            · exact HF.out.2.2 x' h
            · obtain rfl : x' = x := by simpa using h
              rw [hx]
              exact ⟨t1.1, t2.1, t3.1, by simp only; omega⟩
        clear hown' hgrow hDa HD9 H4 H5 H6 H7 HF q0 q1 q2 q3 hx0 hx1 hx2 hx3
        go_wp2
        go_roundw
        case rel => exact ⟨k - 1, L ++ [x], _, r5, y5, by go_num, by simp; omega, HZ.out, HR.out⟩
        case measure => simp [intOf]; omega
    · as_aux_lemma =>
        obtain ⟨f1, f2, f3⟩ := HF.out
        have hpv : wr.heap[w.heap.size]? = _ := HD.out.ps.pv
        have z0 : wr.cell? ⟨w.heap.size, 0, none⟩ = some (.int .i64 0) := by simp [World.cell?, hpv]
        have z1 : wr.cell? ⟨w.heap.size, 1, none⟩ = some (.slice none 0 0) := by simp [World.cell?, hpv]
        have z2 : wr.cell? ⟨w.heap.size, 2, none⟩ = some (.slice none 0 0) := by simp [World.cell?, hpv]
        have x0 : wr.frozen? ⟨w.heap.size, 0, none⟩ = false := by simp [World.frozen?, hpv]
        have x1 : wr.frozen? ⟨w.heap.size, 1, none⟩ = false := by simp [World.frozen?, hpv]
        have x2 : wr.frozen? ⟨w.heap.size, 2, none⟩ = false := by simp [World.frozen?, hpv]
        obtain ⟨off', len', cap', hrd, hrsl, hr1, hr2, hr3⟩ := HD.out.ps.rd
        have c0 := hrd.cells.1
        have hzl : z.length = len' := hrsl.1
        have HG : Hid (w.grownBy wr none) := HD.out.ps.grown
        clear hrd hrsl hpv
        cases wx
        · obtain rfl : k = 0 := by
            rcases Nat.eq_zero_or_pos k with h | h
            · exact h
            · exact absurd ⟨h, rfl⟩ hgo
          have hzs := f1 rfl
          have HNO : Hid (∀ b' l', ValidS b' l' → encSt b' l' = zs → b' = B ∧ l' = L.map Se.tell ∧ len' = 0) := by
            intro b' l' hV he
            obtain ⟨e1, e2, e3, e4⟩ := encSt_read (by unfold P64; omega) (by unfold P64; omega) (small_all f3) (by simp; omega) hV (he.trans hzs)
            have hll : l'.length = (L.map Se.tell).length := by rw [e2]; simp; omega
            rw [← hll, List.take_length] at e3
            rw [← hll, List.drop_length, encL_nil] at e4
            exact ⟨e1, e3, by rw [← hzl, e4]; rfl⟩
          by_cases hl0 : len' = 0
          · subst hl0
            have HZS : Hid (encSt B (L.map Se.tell) = zs) := by
              have hzn : z = [] := List.eq_nil_of_length_eq_zero hzl
              show _ = _
              rw [hzs, hzn, List.append_nil, encSt]
              congr 3
              simp
              omega
            obtain ⟨q0, q1, q2, q3⟩ := HD.out.cells
            obtain ⟨oa, cpv, rfl, hss, hc1, hc2⟩ := HD.out.row.sl
            have HV : Hid (Calls _ _ _ _ _) := svalid_any B oa cpv L wr hss (by omega) (fun x hx => by have := f3 x hx; unfold SeSmall at this; omega) (by omega)
            have HROW : Hid (SesRow wr (s + 1) (.slice oa L.length cpv) L ∧ w.heap.size ≤ s + 1) := ⟨HD.out.row, by have := HD.out.rs; omega⟩
            have hszs := HD.out.slt
            have hszp := HD.out.ps.plt
            clear hss hzs f1 f2 f3 HF hgo
            go_wp2_with fail
            refine HV.out.mono ?_
            rintro e w4 ⟨rv, rfl, hrv, hG4⟩
            obtain ⟨hc, hf⟩ := bcell hG4
            have z0' := (hc _ 0 hszp).trans z0
            have z1' := (hc _ 1 hszp).trans z1
            have z2' := (hc _ 2 hszp).trans z2
            have x0' := (hf _ 0 hszp).trans x0
            have x1' := (hf _ 1 hszp).trans x1
            have x2' := (hf _ 2 hszp).trans x2
            have q0' := (hc _ 0 hszs).trans q0
            have q1' := (hc _ 1 hszs).trans q1
            have q2' := (hc _ 2 hszs).trans q2
            have R : Hid (w.grownBy w4 none ∧ (rv = true ↔ ValidS B (L.map Se.tell)) ∧ SesRow w4 (s + 1) (.slice oa L.length cpv) L) := ⟨grownBy_trans HG.out hG4, hrv, HROW.out.1.grown hG4 (by simp)⟩
            clear hc hf hG4 hrv HV
            cases rv
            · go_wp2
              refine bodyPost_ret (v := .tuple #[.agg #[.int .i64 0, .slice none 0 0, .slice none 0 0], .int .i64 5]) (by simp [results, Tryd.results16, go_sem, z0', z1', z2']) rfl ⟨?_, .inr ⟨fun b' l' hV he => ?_, rfl⟩⟩
              · exact grownBy_setNew (grownBy_setNew (grownBy_setNew R.out.1 (by simp)) (by simp)) (by simp)
              · obtain ⟨rfl, rfl, -⟩ := HNO.out b' l' hV he
                have := R.out.2.1.2 hV
                cases this
            · go_wp2
              refine bodyPost_ret (v := .tuple #[.agg #[.int .i64 (B : Int), .slice none 0 0, .slice oa L.length cpv], .int .i64 0]) (by simp [results, Tryd.results16, go_sem, z0', z1', z2']) rfl ⟨?_, .inl ⟨B, L, _, rfl, R.out.2.1.1 (by simp), HZS.out, ?_⟩⟩
              · exact grownBy_setNew (grownBy_setNew (grownBy_setNew R.out.1 (by simp)) (by simp)) (by simp)
              · have hst : ∀ (W : World) (i : Nat) (u : Value), SesRow W (s + 1) (.slice oa L.length cpv) L → SesRow (W.setCell ⟨w.heap.size, i, none⟩ u) (s + 1) (.slice oa L.length cpv) L := fun W i u h => h.grown (grownBy_setCell (grownBy_refl W (some w.heap.size))) (fun k e => by have := HD.out.rs; simp only [Option.some.injEq] at e; omega)
                exact (hst _ _ _ (hst _ _ _ (hst _ _ _ R.out.2.2))).lower HROW.out.2
          · have hl1 : (0 : Int) < (len' : Int) := by omega
            clear f1 f2 f3 HF hgo hzs
            go_wp2
            refine bodyPost_ret (v := .tuple #[.agg #[.int .i64 0, .slice none 0 0, .slice none 0 0], .int .i64 5]) (by simp [results, Tryd.results16, go_sem, z0, z1, z2]) rfl ⟨?_, .inr ⟨fun b' l' hV he => ?_, rfl⟩⟩
            · exact grownBy_setNew (grownBy_setNew (grownBy_setNew HG.out (by simp)) (by simp)) (by simp)
            · exact hl0 (HNO.out b' l' hV he).2.2
        · have HNO : Hid (∀ b' l', ValidS b' l' → encSt b' l' = zs → true = false) := f2
          clear f1 f2 f3 HF hgo
          by_cases hk0 : 0 < k
          · have hk1 : (0 : Int) < (k : Int) := by omega
            go_wp2
            refine bodyPost_ret (v := .tuple #[.agg #[.int .i64 0, .slice none 0 0, .slice none 0 0], .int .i64 5]) (by simp [results, Tryd.results16, go_sem, z0, z1, z2]) rfl ⟨?_, .inr ⟨fun b' l' hV he => ?_, rfl⟩⟩
            · exact grownBy_setNew (grownBy_setNew (grownBy_setNew HG.out (by simp)) (by simp)) (by simp)
            · cases HNO.out b' l' hV he
          · obtain rfl : k = 0 := by omega
            go_wp2
            refine bodyPost_ret (v := .tuple #[.agg #[.int .i64 0, .slice none 0 0, .slice none 0 0], .int .i64 5]) (by simp [results, Tryd.results16, go_sem, z0, z1, z2]) rfl ⟨?_, .inr ⟨fun b' l' hV he => ?_, rfl⟩⟩
            · exact grownBy_setNew (grownBy_setNew (grownBy_setNew HG.out (by simp)) (by simp)) (by simp)
            · cases HNO.out b' l' hV he
end Go.Proofs.YtdajcpcajdhplaaDoor
