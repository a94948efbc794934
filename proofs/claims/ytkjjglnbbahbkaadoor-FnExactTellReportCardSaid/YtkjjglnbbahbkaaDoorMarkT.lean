/-
  The laws' mark.. over the types of a report, walked: numbers are laid over, the places stay.
-/
import Derived.Test.YtkjjglnbbahbkaaDoorShapes
import Derived.Test.YtkjjglnbbahbkaaDoorMadeT
import Derived.Test.YtkjjglnbbahbkaaDoorSzT
import Derived.Deep.DeepCutAuto
import Derived.Deep.CutRange
namespace Go.Proofs.YtkjjglnbbahbkaaDoor
open Go.RowKit

/-- alike but for numbers and truths -/
def alike (a b : Value) : Prop := a = b ∨ (∃ k n n', a = .int k n ∧ b = .int k n') ∨ ∃ x y, a = .bool x ∧ b = .bool y
theorem alike.trans {a b c : Value} (h : alike a b) (k : alike b c) : alike a c := by
  rcases h with rfl | ⟨q, n, n', rfl, rfl⟩ | ⟨x, y, rfl, rfl⟩
  · exact k
  · rcases k with rfl | ⟨q', m, m', h1, rfl⟩ | ⟨x, y, h1, _⟩
    · exact .inr (.inl ⟨q, n, n', rfl, rfl⟩)
    · cases h1; exact .inr (.inl ⟨q, n, m', rfl, rfl⟩)
    · cases h1
  · rcases k with rfl | ⟨q', m, m', h1, _⟩ | ⟨x', y', h1, rfl⟩
    · exact .inr (.inr ⟨x, y, rfl, rfl⟩)
    · cases h1
    · exact .inr (.inr ⟨x, y', rfl, rfl⟩)
/-- from one world to the other only numbers and truths have turned, and those from block lo on -/
structure Mk (lo : Nat → Prop) (w w' : World) : Prop where
  os : w'.os = w.os
  tape : w'.tape = w.tape
  output : w'.output = w.output
  size : w'.heap.size = w.heap.size
  below : ∀ k, ¬ lo k → w'.heap[k]? = w.heap[k]?
  cell : ∀ a v, w.cell? a = some v → ∃ v', w'.cell? a = some v' ∧ alike v v'
  free : ∀ a, w'.frozen? a = w.frozen? a
theorem Mk.refl (lo : Nat → Prop) (w : World) : Mk lo w w := ⟨rfl, rfl, rfl, rfl, fun _ _ => rfl, fun _ v h => ⟨v, h, .inl rfl⟩, fun _ => rfl⟩
theorem Mk.trans {lo : Nat → Prop} {a b c : World} (h : Mk lo a b) (k : Mk lo b c) : Mk lo a c :=
  ⟨k.os.trans h.os, k.tape.trans h.tape, k.output.trans h.output, k.size.trans h.size, fun i hi => (k.below i hi).trans (h.below i hi), fun x v hv => by
    obtain ⟨v1, h1, a1⟩ := h.cell x v hv
    obtain ⟨v2, h2, a2⟩ := k.cell x v1 h1
    exact ⟨v2, h2, a1.trans a2⟩, fun x => (k.free x).trans (h.free x)⟩
theorem Mk.set {lo : Nat → Prop} {w X : World} (h : Mk lo w X) {g o : Nat} {u v : Value} (hg : lo g) (hu : X.cell? ⟨g, o, none⟩ = some u) (ha : alike u v) : Mk lo w (X.setCell ⟨g, o, none⟩ v) := by
  refine h.trans ⟨rfl, rfl, rfl, by simp [World.setCell], fun k hk => heap_setCell_other X _ k v (show k ≠ g from fun e => hk (e ▸ hg)), fun x y hy => ?_, fun x => World.frozen?_setCell _ _ _ _⟩
  by_cases e : (⟨g, o, none⟩ : Addr) = x
  · subst e
    rw [hu] at hy
    obtain rfl := Option.some.inj hy
    exact ⟨v, World.cell?_setCell_same _ _ _ hu, ha⟩
  · exact ⟨y, (World.cell?_setCell_other _ _ _ _ e).trans hy, .inl rfl⟩
theorem Mk.setN {lo : Nat → Prop} {w X : World} (h : Mk lo w X) {g o : Nat} (hq : ∃ u : Int, X.cell? ⟨g, o, none⟩ = some (.int .i64 u) ∧ X.frozen? ⟨g, o, none⟩ = false) (hg : lo g) (v : Int) : Mk lo w (X.setCell ⟨g, o, none⟩ (.int .i64 v)) := by
  obtain ⟨u, hu, -⟩ := hq
  exact h.set hg hu (.inr (.inl ⟨_, _, _, rfl, rfl⟩))
theorem Mk.setB {lo : Nat → Prop} {w X : World} (h : Mk lo w X) {g o : Nat} (hq : ∃ u : Bool, X.cell? ⟨g, o, none⟩ = some (.bool u) ∧ X.frozen? ⟨g, o, none⟩ = false) (hg : lo g) (v : Bool) : Mk lo w (X.setCell ⟨g, o, none⟩ (.bool v)) := by
  obtain ⟨u, hu, -⟩ := hq
  exact h.set hg hu (.inr (.inr ⟨_, _, rfl, rfl⟩))
/-- its places lie there, from lo on, and may be written; of its numbers only that they are numbers -/
inductive Dug (w : World) (lo : Nat → Prop) : Tr → Prop
  | int (n : Int) : Dug w lo (.int n)
  | bool (b : Bool) : Dug w lo (.bool b)
  | byt {d : List Nat} {g cp : Nat} (hg : lo g) (hc : ∀ i, i < d.length → ∃ v, w.cell? ⟨g, i, none⟩ = some (.int .u8 v)) (hf : ∀ o, w.frozen? ⟨g, o, none⟩ = false) : Dug w lo (.byt d (some ⟨g, 0, none⟩) cp)
  | row {m g cp : Nat} {L : List (List Tr)} (hg : lo g) (hc : ∀ (i j : Nat) (e : List Tr) (y : Tr), L[i]? = some e → e[j]? = some y → ∃ v, w.cell? ⟨g, i * m + j, none⟩ = some v ∧ alike y.cell v) (hf : ∀ o, w.frozen? ⟨g, o, none⟩ = false)
      (hs : ∀ (i j : Nat) (e : List Tr) (y : Tr), L[i]? = some e → e[j]? = some y → Dug w lo y) : Dug w lo (.row m (some ⟨g, 0, none⟩) cp L)
theorem Dug.mk {w w' : World} {lo : Nat → Prop} {x : Tr} (h : Dug w lo x) (hm : Mk lo w w') : Dug w' lo x := by
  induction h with
  | int n => exact .int n
  | bool b => exact .bool b
  | byt hg hc hf =>
    refine .byt hg (fun i hi => ?_) (fun o => (hm.free _).trans (hf o))
    obtain ⟨v, hv⟩ := hc i hi
    obtain ⟨v', h1, h2⟩ := hm.cell _ _ hv
    rcases h2 with rfl | ⟨k, n, n', e, rfl⟩ | ⟨x, y, e, _⟩
    · exact ⟨v, h1⟩
    · cases e; exact ⟨n', h1⟩
    · cases e
  | row hg hc hf _ ih =>
    refine .row hg (fun i j e y hi hj => ?_) (fun o => (hm.free _).trans (hf o)) ih
    obtain ⟨v, hv, ha⟩ := hc i j e y hi hj
    obtain ⟨v', h1, h2⟩ := hm.cell _ _ hv
    exact ⟨v', h1, ha.trans h2⟩
theorem Made.dugAt {w0 w : World} {l : Nat} {x : Tr} (h : Made w0 l x) (hG : w0.grownBy w none) : Dug w (fun k => l ≤ k ∧ k < w0.heap.size) x := by
  induction h with
  | int h => exact .int _
  | bool b => exact .bool b
  | @byt d g cp hg hb h =>
    have h' := (Made.byt (cp := cp) hg hb h).grown0 hG
    cases h' with
    | byt _ _ ho => exact .byt ⟨hg, h.lt⟩ (fun i hi => ⟨_, ho.cell i hi⟩) ho.free
  | @row m g cp L hg hlt hb hl hc hf _ ih =>
    refine .row ⟨hg, hlt⟩ (fun i j e y hi hj => ⟨y.cell, ?_, .inl rfl⟩) (fun o => ((bcell hG).2 _ _ hlt).trans (hf o)) ih
    exact ((bcell hG).1 _ _ hlt).trans (hc i e hi j _ (by rw [List.getElem?_map, hj]; rfl))
theorem Dug.place {w : World} {lo : Nat → Prop} {m p : Nat} {a : Option Addr} {L : List (List Tr)} (h : Dug w lo (.row m a p L)) : ∃ g, a = some ⟨g, 0, none⟩ := by cases h with | row => exact ⟨_, rfl⟩
theorem Dug.low {w : World} {lo : Nat → Prop} {m p g : Nat} {L : List (List Tr)} (h : Dug w lo (.row m (some ⟨g, 0, none⟩) p L)) : lo g := by cases h with | row hg => exact hg
theorem Dug.sub {w : World} {lo : Nat → Prop} {m p g : Nat} {L : List (List Tr)} (h : Dug w lo (.row m (some ⟨g, 0, none⟩) p L)) (i j : Nat) (e : List Tr) (y : Tr) (hi : L[i]? = some e) (hj : e[j]? = some y) : Dug w lo y := by cases h with | row _ _ _ hs => exact hs i j e y hi hj
/-- what is known of a cell, in every later world -/
def CellIs (w : World) (a : Addr) (v : Value) : Prop := (∃ u, w.cell? a = some u ∧ alike v u) ∧ w.frozen? a = false
theorem Dug.cell {w : World} {lo : Nat → Prop} {m p g : Nat} {L : List (List Tr)} (h : Dug w lo (.row m (some ⟨g, 0, none⟩) p L)) (i j : Nat) (e : List Tr) (y : Tr) (hi : L[i]? = some e) (hj : e[j]? = some y) : CellIs w ⟨g, i * m + j, none⟩ y.cell := by cases h with | row _ hc hf _ => exact ⟨hc i j e y hi hj, hf _⟩
theorem CellIs.int {w X : World} {lo : Nat → Prop} {a : Addr} {n : Int} (h : CellIs w a (Tr.int n).cell) (hX : Mk lo w X) : ∃ u : Int, X.cell? a = some (.int .i64 u) ∧ X.frozen? a = false := by
  obtain ⟨⟨u, hu, ha⟩, hf⟩ := h
  obtain ⟨u', hu', ha'⟩ := hX.cell _ _ hu
  have h2 := ha.trans ha'
  rcases h2 with rfl | ⟨k, n, n', e, rfl⟩ | ⟨x, y, e, _⟩
  · exact ⟨n, hu', (hX.free a).trans hf⟩
  · cases e; exact ⟨n', hu', (hX.free a).trans hf⟩
  · cases e
theorem CellIs.bool {w X : World} {lo : Nat → Prop} {a : Addr} {n : Bool} (h : CellIs w a (Tr.bool n).cell) (hX : Mk lo w X) : ∃ u : Bool, X.cell? a = some (.bool u) ∧ X.frozen? a = false := by
  obtain ⟨⟨u, hu, ha⟩, hf⟩ := h
  obtain ⟨u', hu', ha'⟩ := hX.cell _ _ hu
  have h2 := ha.trans ha'
  rcases h2 with rfl | ⟨k, n, n', e, rfl⟩ | ⟨x, y, e, rfl⟩
  · exact ⟨n, hu', (hX.free a).trans hf⟩
  · cases e
  · cases e; exact ⟨y, hu', (hX.free a).trans hf⟩
theorem CellIs.slice {w X : World} {lo : Nat → Prop} {len p : Nat} {a : Addr} {o : Option Addr} (h : CellIs w a (.slice o len p)) (hX : Mk lo w X) : X.cell? a = some (.slice o len p) := by
  obtain ⟨⟨u, hu, ha⟩, hf⟩ := h
  obtain ⟨u', hu', ha'⟩ := hX.cell _ _ hu
  have h2 := ha.trans ha'
  rcases h2 with rfl | ⟨k, n, n', e, _⟩ | ⟨x, y, e, _⟩
  · exact hu'
  · cases e
  · cases e
theorem Fits.els {m p : Nat} {a : Option Addr} {L : List (List Tr)} {ks : List Ki} (h : Fits (.row m a p L) (.row ks)) : ∀ (i : Nat) (e : List Tr), L[i]? = some e → FitsL e ks := by
  cases h with | row hl hf => exact fun i e hi => ⟨hl i e hi, fun j y k hj hk => hf i j e y k hi hj hk⟩
set_option maxHeartbeats 800000 in
theorem markByteS_dug (d : List Nat) (a : Option Addr) (p k0 : Nat) (lo : Nat → Prop) (w : World) (h : Dug w lo (.byt d a p)) (s : k0 + 32 * d.length ≤ 1073741824) :
    Calls Tryd.prog 11 #[.slice a d.length p, .int .i64 (k0 : Int)] w fun e w' => ∃ v : Nat, e = .returned (.int .i64 (v : Int)) ∧ v ≤ k0 + 32 * d.length ∧ Mk lo w w' := by
  cases h with
  | @byt _ g _ hg hc hf =>
    obtain ⟨n, hn⟩ : ∃ n, d.length = n := ⟨_, rfl⟩
    rw [hn] at s hc ⊢
    have HC : Hid (lo g ∧ (∀ i, i < n → ∃ v, w.cell? ⟨g, i, none⟩ = some (.int .u8 v)) ∧ ∀ o, w.frozen? ⟨g, o, none⟩ = false) := ⟨hg, hc, hf⟩
    clear hg hc hf hn
    go_enter Tryd.func11, Tryd.ntmps11
    go_wp2
    go_loopw [1, 5] (fun v i wr => ∃ k : Nat, k ≤ n ∧ i = .int .i64 k ∧ v = .int .i64 ((k0 : Int) + k) ∧ Mk lo w wr) (fun _ i _ => n - (intOf i).toNat)
    case atStart => exact ⟨0, Nat.zero_le _, rfl, by go_num, Mk.refl _ _⟩
    case round =>
      obtain ⟨k, hk, rfl, rfl, hM⟩ := hrel
      by_cases hlt : k < n
      · obtain ⟨v, hv⟩ := HC.out.2.1 k hlt
        obtain ⟨v', hcw, ha⟩ := hM.cell _ _ hv
        have hfz : wr.frozen? ⟨g, k, none⟩ = false := (hM.free _).trans (HC.out.2.2 k)
        obtain ⟨u, rfl⟩ : ∃ u, v' = .int .u8 u := by
          rcases ha with rfl | ⟨q, n, n', e, rfl⟩ | ⟨x, y, e, _⟩
          · exact ⟨v, rfl⟩
          · cases e; exact ⟨n', rfl⟩
          · cases e
        have R : Hid (Mk lo w (wr.setCell ⟨g, k, none⟩ (.int .u8 (((k0 : Int) + k) % 256)))) := hM.set HC.out.1 hcw (.inr (.inl ⟨_, _, _, rfl, rfl⟩))
        clear hM hv ha
        go_wp2
        go_roundw
        case rel => exact ⟨k + 1, by omega, by go_num, by go_num, R.out⟩
        case measure => simp [intOf]; omega
      · obtain rfl : k = n := by omega
        have R : Hid (Mk lo w wr) := hM
        clear hM
        go_wp2
        go_ret
        exact ⟨k0 + k, by go_num, by omega, R.out⟩
set_option maxRecDepth 8000 in
set_option maxHeartbeats 8000000 in
theorem markEntryS_any (L : List (List Tr)) (a : Option Addr) (p k0 : Nat) (lo : Nat → Prop) (w : World) (h : Dug w lo (.row kEntry.length a p L)) (hf : Fits (.row kEntry.length a p L) (.row kEntry)) (s : k0 + 32 * totR L ≤ 1073741824) :
    Calls Tryd.prog 48 #[.slice a L.length p, .int .i64 (k0 : Int)] w fun e w' => ∃ v : Nat, e = .returned (.int .i64 (v : Int)) ∧ v ≤ k0 + 32 * totR L ∧ Mk lo w w' := by
  obtain ⟨g, rfl⟩ := h.place
  have hn : L.length ≤ totR L := totR_len L
  have HD : Hid (Dug w lo (.row kEntry.length (some ⟨g, 0, none⟩) p L) ∧ (∀ (i : Nat) (e : List Tr), L[i]? = some e → FitsL e kEntry) ∧ k0 + 32 * totR L ≤ 1073741824) := ⟨h, hf.els, s⟩
  clear h hf
  obtain ⟨n, hnn⟩ : ∃ n, L.length = n := ⟨_, rfl⟩
  have HN : Hid (L.length = n ∧ totTo L 0 = n) := ⟨hnn, by rw [totTo_zero]; exact hnn⟩
  rw [hnn] at hn ⊢
  obtain ⟨T, hT⟩ : ∃ T, totR L = T := ⟨_, rfl⟩
  have HT : Hid (totR L = T) := hT
  rw [hT] at hn s ⊢
  clear hnn hT
  go_enter Tryd.func48, Tryd.ntmps48
  go_wp2
  go_loopw [1, 5] (fun q i wr => ∃ k v : Nat, k ≤ n ∧ i = .int .i64 (k : Int) ∧ q = .int .i64 (v : Int) ∧ v + 32 * n ≤ k0 + 32 * k + 32 * totTo L k ∧ Mk lo w wr) (fun _ i _ => n - (intOf i).toNat)
  case atStart => exact ⟨0, k0, Nat.zero_le _, rfl, rfl, by rw [HN.out.2]; omega, Mk.refl _ _⟩
  case round =>
    obtain ⟨k, v, hk, rfl, rfl, hv, hM⟩ := hrel
    have HM : Hid (Mk lo w wr) := hM
    clear hM
    by_cases hlt : k < n
    · obtain ⟨e, he⟩ : ∃ e, L[k]? = some e := ⟨_, List.getElem?_eq_getElem (by rw [HN.out.1]; exact hlt)⟩
      have HS : Hid (totTo L (k + 1) = totTo L k + tdEl (e.map Tr.tell) ∧ totTo L (k + 1) ≤ T) := ⟨totTo_succ he, by rw [← HT.out]; exact totTo_le L _⟩
      have hf := HD.out.2.1 k e he
      have hsub := fun j y hj => HD.out.1.sub k j e y he hj
      have hcel := fun j y hj => HD.out.1.cell k j e y he hj
      obtain ⟨n0, d1, a1, p1, rfl⟩ := fitEntry hf
      have HE : Hid (tdEl (List.map Tr.tell [.int n0, .byt d1 a1 p1]) = d1.length) := by show _ = _; simp only [List.map_cons, List.map_nil, tdEl, tot_byt, Tr.tell_int_tot]; try omega
      have Q0 : Hid (∀ X, Mk lo w X → ∃ u : Int, X.cell? ⟨g, k * 2, none⟩ = some (.int .i64 u) ∧ X.frozen? ⟨g, k * 2, none⟩ = false) := fun X hX => (hcel 0 _ rfl).int hX
      have Q1 : Hid (∀ X, Mk lo w X → X.cell? ⟨g, k * 2 + 1, none⟩ = some (.slice a1 d1.length p1)) := fun X hX => (hcel 1 _ rfl).slice hX
      have C1 : Hid (∀ X (z : Nat), Mk lo w X → z + 32 * d1.length ≤ 1073741824 → Calls Tryd.prog 11 #[.slice a1 d1.length p1, .int .i64 (z : Int)] X fun e w' => ∃ v : Nat, e = .returned (.int .i64 (v : Int)) ∧ v ≤ z + 32 * d1.length ∧ Mk lo X w') := fun X z hX hz => markByteS_dug d1 a1 p1 z lo X ((hsub 1 _ rfl).mk hX) hz
      have HL : Hid (lo g) := HD.out.1.low
      have hvb : v + 32 + 32 * (d1.length) ≤ 1073741824 := by have h1 := HS.out; rw [HE.out] at h1; have h2 := HD.out.2.2; have h3 := HT.out; omega
      have HV : Hid (v + 32 * n ≤ k0 + 32 * k + 32 * totTo L k) := hv
      clear hf hsub hcel he hv
      have hkI : (k : Int) < (n : Int) := by omega
      obtain ⟨u0, c0, f0⟩ := Q0.out wr HM.out
      go_upto_region 6 with fail
      have K0 := HM.out
      have K1 := K0.setN (Q0.out _ K0) HL.out ((v : Int))
      generalize hW0 : (wr).setCell ⟨g, k * 2, none⟩ (.int .i64 ((v : Int))) = W0 at K1 ⊢
      have HK0 : Hid (Mk lo w W0) := K1
      clear hW0 K0 K1 c0 f0
      have c1 := Q1.out W0 HK0.out
      obtain ⟨z0, hz0⟩ : ∃ z : Nat, v + 1 = z := ⟨_, rfl⟩
      have hzI : (v : Int) + 1 = (z0 : Int) := by omega
      simp only [hzI]
      have E0 : Hid (v + 1 = z0) := hz0
      have hzb0 : z0 ≤ v + 1 := by omega
      clear hzI hz0
      go_wp2_with fail
      refine (C1.out _ z0 HK0.out (by omega)).mono ?_
      rintro e w1 ⟨v1, rfl, hv1, hM1⟩
      have HM1 : Hid (Mk lo w w1) := HK0.out.trans hM1
      clear hM1 c1
      have HB : Hid (v1 ≤ v + 32 + 32 * (d1.length)) := by show _ ≤ _; omega
      have hcb : v1 ≤ 1073741824 := by omega
      go_wp2
      go_roundw
      case rel => exact ⟨k + 1, _, by omega, by go_num, rfl, by have h1 := HS.out.1; rw [HE.out] at h1; have h2 := HV.out; have h3 := HB.out; omega, HM1.out⟩
      case measure => simp [intOf]; omega
    · obtain rfl : k = n := by omega
      have HX : Hid (totTo L k = T) := by show _ = _; rw [← HT.out, ← totTo_all, HN.out.1]
      have HV : Hid (v ≤ k0 + 32 * T) := by show _ ≤ _; rw [HX.out] at hv; omega
      have hvb : v ≤ 1073741824 := by have := HV.out; omega
      clear hv
      go_wp2
      go_ret
      exact ⟨v, rfl, HV.out, HM.out⟩
set_option maxRecDepth 8000 in
set_option maxHeartbeats 8000000 in
theorem markAckS_any (L : List (List Tr)) (a : Option Addr) (p k0 : Nat) (lo : Nat → Prop) (w : World) (h : Dug w lo (.row kAck.length a p L)) (hf : Fits (.row kAck.length a p L) (.row kAck)) (s : k0 + 32 * totR L ≤ 1073741824) :
    Calls Tryd.prog 30 #[.slice a L.length p, .int .i64 (k0 : Int)] w fun e w' => ∃ v : Nat, e = .returned (.int .i64 (v : Int)) ∧ v ≤ k0 + 32 * totR L ∧ Mk lo w w' := by
  obtain ⟨g, rfl⟩ := h.place
  have hn : L.length ≤ totR L := totR_len L
  have HD : Hid (Dug w lo (.row kAck.length (some ⟨g, 0, none⟩) p L) ∧ (∀ (i : Nat) (e : List Tr), L[i]? = some e → FitsL e kAck) ∧ k0 + 32 * totR L ≤ 1073741824) := ⟨h, hf.els, s⟩
  clear h hf
  obtain ⟨n, hnn⟩ : ∃ n, L.length = n := ⟨_, rfl⟩
  have HN : Hid (L.length = n ∧ totTo L 0 = n) := ⟨hnn, by rw [totTo_zero]; exact hnn⟩
  rw [hnn] at hn ⊢
  obtain ⟨T, hT⟩ : ∃ T, totR L = T := ⟨_, rfl⟩
  have HT : Hid (totR L = T) := hT
  rw [hT] at hn s ⊢
  clear hnn hT
  go_enter Tryd.func30, Tryd.ntmps30
  go_wp2
  go_loopw [1, 5] (fun q i wr => ∃ k v : Nat, k ≤ n ∧ i = .int .i64 (k : Int) ∧ q = .int .i64 (v : Int) ∧ v + 32 * n ≤ k0 + 32 * k + 32 * totTo L k ∧ Mk lo w wr) (fun _ i _ => n - (intOf i).toNat)
  case atStart => exact ⟨0, k0, Nat.zero_le _, rfl, rfl, by rw [HN.out.2]; omega, Mk.refl _ _⟩
  case round =>
    obtain ⟨k, v, hk, rfl, rfl, hv, hM⟩ := hrel
    have HM : Hid (Mk lo w wr) := hM
    clear hM
    by_cases hlt : k < n
    · obtain ⟨e, he⟩ : ∃ e, L[k]? = some e := ⟨_, List.getElem?_eq_getElem (by rw [HN.out.1]; exact hlt)⟩
      have HS : Hid (totTo L (k + 1) = totTo L k + tdEl (e.map Tr.tell) ∧ totTo L (k + 1) ≤ T) := ⟨totTo_succ he, by rw [← HT.out]; exact totTo_le L _⟩
      have hf := HD.out.2.1 k e he
      have hsub := fun j y hj => HD.out.1.sub k j e y he hj
      have hcel := fun j y hj => HD.out.1.cell k j e y he hj
      obtain ⟨n0, n1, n2, n3, n4, rfl⟩ := fitAck hf
      have HE : Hid (tdEl (List.map Tr.tell [.int n0, .int n1, .int n2, .int n3, .int n4]) = 0) := by show _ = _; simp only [List.map_cons, List.map_nil, tdEl, Tr.tell_int_tot]; try omega
      have Q0 : Hid (∀ X, Mk lo w X → ∃ u : Int, X.cell? ⟨g, k * 5, none⟩ = some (.int .i64 u) ∧ X.frozen? ⟨g, k * 5, none⟩ = false) := fun X hX => (hcel 0 _ rfl).int hX
      have Q1 : Hid (∀ X, Mk lo w X → ∃ u : Int, X.cell? ⟨g, k * 5 + 1, none⟩ = some (.int .i64 u) ∧ X.frozen? ⟨g, k * 5 + 1, none⟩ = false) := fun X hX => (hcel 1 _ rfl).int hX
      have Q2 : Hid (∀ X, Mk lo w X → ∃ u : Int, X.cell? ⟨g, k * 5 + 2, none⟩ = some (.int .i64 u) ∧ X.frozen? ⟨g, k * 5 + 2, none⟩ = false) := fun X hX => (hcel 2 _ rfl).int hX
      have Q3 : Hid (∀ X, Mk lo w X → ∃ u : Int, X.cell? ⟨g, k * 5 + 3, none⟩ = some (.int .i64 u) ∧ X.frozen? ⟨g, k * 5 + 3, none⟩ = false) := fun X hX => (hcel 3 _ rfl).int hX
      have Q4 : Hid (∀ X, Mk lo w X → ∃ u : Int, X.cell? ⟨g, k * 5 + 4, none⟩ = some (.int .i64 u) ∧ X.frozen? ⟨g, k * 5 + 4, none⟩ = false) := fun X hX => (hcel 4 _ rfl).int hX
      have HL : Hid (lo g) := HD.out.1.low
      have hvb : v + 32 + 32 * (0) ≤ 1073741824 := by have h1 := HS.out; rw [HE.out] at h1; have h2 := HD.out.2.2; have h3 := HT.out; omega
      have HV : Hid (v + 32 * n ≤ k0 + 32 * k + 32 * totTo L k) := hv
      clear hf hsub hcel he hv
      have hkI : (k : Int) < (n : Int) := by omega
      obtain ⟨u0, c0, f0⟩ := Q0.out wr HM.out
      obtain ⟨u1, c1, f1⟩ := Q1.out wr HM.out
      obtain ⟨u2, c2, f2⟩ := Q2.out wr HM.out
      obtain ⟨u3, c3, f3⟩ := Q3.out wr HM.out
      obtain ⟨u4, c4, f4⟩ := Q4.out wr HM.out
      have HB : Hid (v + 5 ≤ v + 32 + 32 * (0)) := by show _ ≤ _; omega
      have hcb : v + 32 ≤ 1073741824 + 32 := by omega
      have K0 := HM.out
      have K1 := K0.setN (Q0.out _ K0) HL.out ((v : Int))
      have K2 := K1.setN (Q1.out _ K1) HL.out ((v : Int) + 1)
      have K3 := K2.setN (Q2.out _ K2) HL.out ((v : Int) + 1 + 1)
      have K4 := K3.setN (Q3.out _ K3) HL.out ((v : Int) + 1 + 1 + 1)
      have K5 := K4.setN (Q4.out _ K4) HL.out ((v : Int) + 1 + 1 + 1 + 1)
      have HK : Hid _ := K5
      clear K0 K1 K2 K3 K4 K5
      go_wp2
      go_roundw
      case rel => exact ⟨k + 1, v + 5, by omega, by go_num, by go_num, by have h1 := HS.out.1; rw [HE.out] at h1; have h2 := HV.out; have h3 := HB.out; omega, HK.out⟩
      case measure => simp [intOf]; omega
    · obtain rfl : k = n := by omega
      have HX : Hid (totTo L k = T) := by show _ = _; rw [← HT.out, ← totTo_all, HN.out.1]
      have HV : Hid (v ≤ k0 + 32 * T) := by show _ ≤ _; rw [HX.out] at hv; omega
      have hvb : v ≤ 1073741824 := by have := HV.out; omega
      clear hv
      go_wp2
      go_ret
      exact ⟨v, rfl, HV.out, HM.out⟩
set_option maxRecDepth 8000 in
set_option maxHeartbeats 8000000 in
theorem markItemS_any (L : List (List Tr)) (a : Option Addr) (p k0 : Nat) (lo : Nat → Prop) (w : World) (h : Dug w lo (.row kItem.length a p L)) (hf : Fits (.row kItem.length a p L) (.row kItem)) (s : k0 + 32 * totR L ≤ 1073741824) :
    Calls Tryd.prog 28 #[.slice a L.length p, .int .i64 (k0 : Int)] w fun e w' => ∃ v : Nat, e = .returned (.int .i64 (v : Int)) ∧ v ≤ k0 + 32 * totR L ∧ Mk lo w w' := by
  obtain ⟨g, rfl⟩ := h.place
  have hn : L.length ≤ totR L := totR_len L
  have HD : Hid (Dug w lo (.row kItem.length (some ⟨g, 0, none⟩) p L) ∧ (∀ (i : Nat) (e : List Tr), L[i]? = some e → FitsL e kItem) ∧ k0 + 32 * totR L ≤ 1073741824) := ⟨h, hf.els, s⟩
  clear h hf
  obtain ⟨n, hnn⟩ : ∃ n, L.length = n := ⟨_, rfl⟩
  have HN : Hid (L.length = n ∧ totTo L 0 = n) := ⟨hnn, by rw [totTo_zero]; exact hnn⟩
  rw [hnn] at hn ⊢
  obtain ⟨T, hT⟩ : ∃ T, totR L = T := ⟨_, rfl⟩
  have HT : Hid (totR L = T) := hT
  rw [hT] at hn s ⊢
  clear hnn hT
  go_enter Tryd.func28, Tryd.ntmps28
  go_wp2
  go_loopw [1, 5] (fun q i wr => ∃ k v : Nat, k ≤ n ∧ i = .int .i64 (k : Int) ∧ q = .int .i64 (v : Int) ∧ v + 32 * n ≤ k0 + 32 * k + 32 * totTo L k ∧ Mk lo w wr) (fun _ i _ => n - (intOf i).toNat)
  case atStart => exact ⟨0, k0, Nat.zero_le _, rfl, rfl, by rw [HN.out.2]; omega, Mk.refl _ _⟩
  case round =>
    obtain ⟨k, v, hk, rfl, rfl, hv, hM⟩ := hrel
    have HM : Hid (Mk lo w wr) := hM
    clear hM
    by_cases hlt : k < n
    · obtain ⟨e, he⟩ : ∃ e, L[k]? = some e := ⟨_, List.getElem?_eq_getElem (by rw [HN.out.1]; exact hlt)⟩
      have HS : Hid (totTo L (k + 1) = totTo L k + tdEl (e.map Tr.tell) ∧ totTo L (k + 1) ≤ T) := ⟨totTo_succ he, by rw [← HT.out]; exact totTo_le L _⟩
      have hf := HD.out.2.1 k e he
      have hsub := fun j y hj => HD.out.1.sub k j e y he hj
      have hcel := fun j y hj => HD.out.1.cell k j e y he hj
      obtain ⟨n0, n1, d2, a2, p2, rfl⟩ := fitItem hf
      have HE : Hid (tdEl (List.map Tr.tell [.int n0, .int n1, .byt d2 a2 p2]) = d2.length) := by show _ = _; simp only [List.map_cons, List.map_nil, tdEl, tot_byt, Tr.tell_int_tot]; try omega
      have Q0 : Hid (∀ X, Mk lo w X → ∃ u : Int, X.cell? ⟨g, k * 3, none⟩ = some (.int .i64 u) ∧ X.frozen? ⟨g, k * 3, none⟩ = false) := fun X hX => (hcel 0 _ rfl).int hX
      have Q1 : Hid (∀ X, Mk lo w X → ∃ u : Int, X.cell? ⟨g, k * 3 + 1, none⟩ = some (.int .i64 u) ∧ X.frozen? ⟨g, k * 3 + 1, none⟩ = false) := fun X hX => (hcel 1 _ rfl).int hX
      have Q2 : Hid (∀ X, Mk lo w X → X.cell? ⟨g, k * 3 + 2, none⟩ = some (.slice a2 d2.length p2)) := fun X hX => (hcel 2 _ rfl).slice hX
      have C2 : Hid (∀ X (z : Nat), Mk lo w X → z + 32 * d2.length ≤ 1073741824 → Calls Tryd.prog 11 #[.slice a2 d2.length p2, .int .i64 (z : Int)] X fun e w' => ∃ v : Nat, e = .returned (.int .i64 (v : Int)) ∧ v ≤ z + 32 * d2.length ∧ Mk lo X w') := fun X z hX hz => markByteS_dug d2 a2 p2 z lo X ((hsub 2 _ rfl).mk hX) hz
      have HL : Hid (lo g) := HD.out.1.low
      have hvb : v + 32 + 32 * (d2.length) ≤ 1073741824 := by have h1 := HS.out; rw [HE.out] at h1; have h2 := HD.out.2.2; have h3 := HT.out; omega
      have HV : Hid (v + 32 * n ≤ k0 + 32 * k + 32 * totTo L k) := hv
      clear hf hsub hcel he hv
      have hkI : (k : Int) < (n : Int) := by omega
      obtain ⟨u0, c0, f0⟩ := Q0.out wr HM.out
      obtain ⟨u1, c1, f1⟩ := Q1.out wr HM.out
      go_upto_region 8 with fail
      have K0 := HM.out
      have K1 := K0.setN (Q0.out _ K0) HL.out ((v : Int))
      have K2 := K1.setN (Q1.out _ K1) HL.out ((v : Int) + 1)
      generalize hW0 : ((wr).setCell ⟨g, k * 3, none⟩ (.int .i64 ((v : Int)))).setCell ⟨g, k * 3 + 1, none⟩ (.int .i64 ((v : Int) + 1)) = W0 at K2 ⊢
      have HK0 : Hid (Mk lo w W0) := K2
      clear hW0 K0 K1 K2 c0 f0 c1 f1
      have c2 := Q2.out W0 HK0.out
      obtain ⟨z0, hz0⟩ : ∃ z : Nat, v + 2 = z := ⟨_, rfl⟩
      have hzI : (v : Int) + 1 + 1 = (z0 : Int) := by omega
      simp only [hzI]
      have E0 : Hid (v + 2 = z0) := hz0
      have hzb0 : z0 ≤ v + 2 := by omega
      clear hzI hz0
      go_wp2_with fail
      refine (C2.out _ z0 HK0.out (by omega)).mono ?_
      rintro e w1 ⟨v1, rfl, hv1, hM1⟩
      have HM1 : Hid (Mk lo w w1) := HK0.out.trans hM1
      clear hM1 c2
      have HB : Hid (v1 ≤ v + 32 + 32 * (d2.length)) := by show _ ≤ _; omega
      have hcb : v1 ≤ 1073741824 := by omega
      go_wp2
      go_roundw
      case rel => exact ⟨k + 1, _, by omega, by go_num, rfl, by have h1 := HS.out.1; rw [HE.out] at h1; have h2 := HV.out; have h3 := HB.out; omega, HM1.out⟩
      case measure => simp [intOf]; omega
    · obtain rfl : k = n := by omega
      have HX : Hid (totTo L k = T) := by show _ = _; rw [← HT.out, ← totTo_all, HN.out.1]
      have HV : Hid (v ≤ k0 + 32 * T) := by show _ ≤ _; rw [HX.out] at hv; omega
      have hvb : v ≤ 1073741824 := by have := HV.out; omega
      clear hv
      go_wp2
      go_ret
      exact ⟨v, rfl, HV.out, HM.out⟩
set_option maxRecDepth 8000 in
set_option maxHeartbeats 8000000 in
theorem markSessionS_any (L : List (List Tr)) (a : Option Addr) (p k0 : Nat) (lo : Nat → Prop) (w : World) (h : Dug w lo (.row kSession.length a p L)) (hf : Fits (.row kSession.length a p L) (.row kSession)) (s : k0 + 32 * totR L ≤ 1073741824) :
    Calls Tryd.prog 29 #[.slice a L.length p, .int .i64 (k0 : Int)] w fun e w' => ∃ v : Nat, e = .returned (.int .i64 (v : Int)) ∧ v ≤ k0 + 32 * totR L ∧ Mk lo w w' := by
  obtain ⟨g, rfl⟩ := h.place
  have hn : L.length ≤ totR L := totR_len L
  have HD : Hid (Dug w lo (.row kSession.length (some ⟨g, 0, none⟩) p L) ∧ (∀ (i : Nat) (e : List Tr), L[i]? = some e → FitsL e kSession) ∧ k0 + 32 * totR L ≤ 1073741824) := ⟨h, hf.els, s⟩
  clear h hf
  obtain ⟨n, hnn⟩ : ∃ n, L.length = n := ⟨_, rfl⟩
  have HN : Hid (L.length = n ∧ totTo L 0 = n) := ⟨hnn, by rw [totTo_zero]; exact hnn⟩
  rw [hnn] at hn ⊢
  obtain ⟨T, hT⟩ : ∃ T, totR L = T := ⟨_, rfl⟩
  have HT : Hid (totR L = T) := hT
  rw [hT] at hn s ⊢
  clear hnn hT
  go_enter Tryd.func29, Tryd.ntmps29
  go_wp2
  go_loopw [1, 5] (fun q i wr => ∃ k v : Nat, k ≤ n ∧ i = .int .i64 (k : Int) ∧ q = .int .i64 (v : Int) ∧ v + 32 * n ≤ k0 + 32 * k + 32 * totTo L k ∧ Mk lo w wr) (fun _ i _ => n - (intOf i).toNat)
  case atStart => exact ⟨0, k0, Nat.zero_le _, rfl, rfl, by rw [HN.out.2]; omega, Mk.refl _ _⟩
  case round =>
    obtain ⟨k, v, hk, rfl, rfl, hv, hM⟩ := hrel
    have HM : Hid (Mk lo w wr) := hM
    clear hM
    by_cases hlt : k < n
    · obtain ⟨e, he⟩ : ∃ e, L[k]? = some e := ⟨_, List.getElem?_eq_getElem (by rw [HN.out.1]; exact hlt)⟩
      have HS : Hid (totTo L (k + 1) = totTo L k + tdEl (e.map Tr.tell) ∧ totTo L (k + 1) ≤ T) := ⟨totTo_succ he, by rw [← HT.out]; exact totTo_le L _⟩
      have hf := HD.out.2.1 k e he
      have hsub := fun j y hj => HD.out.1.sub k j e y he hj
      have hcel := fun j y hj => HD.out.1.cell k j e y he hj
      obtain ⟨n0, n1, n2, d3, a3, p3, rfl⟩ := fitSession hf
      have HE : Hid (tdEl (List.map Tr.tell [.int n0, .int n1, .int n2, .byt d3 a3 p3]) = d3.length) := by show _ = _; simp only [List.map_cons, List.map_nil, tdEl, tot_byt, Tr.tell_int_tot]; try omega
      have Q0 : Hid (∀ X, Mk lo w X → ∃ u : Int, X.cell? ⟨g, k * 4, none⟩ = some (.int .i64 u) ∧ X.frozen? ⟨g, k * 4, none⟩ = false) := fun X hX => (hcel 0 _ rfl).int hX
      have Q1 : Hid (∀ X, Mk lo w X → ∃ u : Int, X.cell? ⟨g, k * 4 + 1, none⟩ = some (.int .i64 u) ∧ X.frozen? ⟨g, k * 4 + 1, none⟩ = false) := fun X hX => (hcel 1 _ rfl).int hX
      have Q2 : Hid (∀ X, Mk lo w X → ∃ u : Int, X.cell? ⟨g, k * 4 + 2, none⟩ = some (.int .i64 u) ∧ X.frozen? ⟨g, k * 4 + 2, none⟩ = false) := fun X hX => (hcel 2 _ rfl).int hX
      have Q3 : Hid (∀ X, Mk lo w X → X.cell? ⟨g, k * 4 + 3, none⟩ = some (.slice a3 d3.length p3)) := fun X hX => (hcel 3 _ rfl).slice hX
      have C3 : Hid (∀ X (z : Nat), Mk lo w X → z + 32 * d3.length ≤ 1073741824 → Calls Tryd.prog 11 #[.slice a3 d3.length p3, .int .i64 (z : Int)] X fun e w' => ∃ v : Nat, e = .returned (.int .i64 (v : Int)) ∧ v ≤ z + 32 * d3.length ∧ Mk lo X w') := fun X z hX hz => markByteS_dug d3 a3 p3 z lo X ((hsub 3 _ rfl).mk hX) hz
      have HL : Hid (lo g) := HD.out.1.low
      have hvb : v + 32 + 32 * (d3.length) ≤ 1073741824 := by have h1 := HS.out; rw [HE.out] at h1; have h2 := HD.out.2.2; have h3 := HT.out; omega
      have HV : Hid (v + 32 * n ≤ k0 + 32 * k + 32 * totTo L k) := hv
      clear hf hsub hcel he hv
      have hkI : (k : Int) < (n : Int) := by omega
      obtain ⟨u0, c0, f0⟩ := Q0.out wr HM.out
      obtain ⟨u1, c1, f1⟩ := Q1.out wr HM.out
      obtain ⟨u2, c2, f2⟩ := Q2.out wr HM.out
      go_upto_region 10 with fail
      have K0 := HM.out
      have K1 := K0.setN (Q0.out _ K0) HL.out ((v : Int))
      have K2 := K1.setN (Q1.out _ K1) HL.out ((v : Int) + 1)
      have K3 := K2.setN (Q2.out _ K2) HL.out ((v : Int) + 1 + 1)
      generalize hW0 : (((wr).setCell ⟨g, k * 4, none⟩ (.int .i64 ((v : Int)))).setCell ⟨g, k * 4 + 1, none⟩ (.int .i64 ((v : Int) + 1))).setCell ⟨g, k * 4 + 2, none⟩ (.int .i64 ((v : Int) + 1 + 1)) = W0 at K3 ⊢
      have HK0 : Hid (Mk lo w W0) := K3
      clear hW0 K0 K1 K2 K3 c0 f0 c1 f1 c2 f2
      have c3 := Q3.out W0 HK0.out
      obtain ⟨z0, hz0⟩ : ∃ z : Nat, v + 3 = z := ⟨_, rfl⟩
      have hzI : (v : Int) + 1 + 1 + 1 = (z0 : Int) := by omega
      simp only [hzI]
      have E0 : Hid (v + 3 = z0) := hz0
      have hzb0 : z0 ≤ v + 3 := by omega
      clear hzI hz0
      go_wp2_with fail
      refine (C3.out _ z0 HK0.out (by omega)).mono ?_
      rintro e w1 ⟨v1, rfl, hv1, hM1⟩
      have HM1 : Hid (Mk lo w w1) := HK0.out.trans hM1
      clear hM1 c3
      have HB : Hid (v1 ≤ v + 32 + 32 * (d3.length)) := by show _ ≤ _; omega
      have hcb : v1 ≤ 1073741824 := by omega
      go_wp2
      go_roundw
      case rel => exact ⟨k + 1, _, by omega, by go_num, rfl, by have h1 := HS.out.1; rw [HE.out] at h1; have h2 := HV.out; have h3 := HB.out; omega, HM1.out⟩
      case measure => simp [intOf]; omega
    · obtain rfl : k = n := by omega
      have HX : Hid (totTo L k = T) := by show _ = _; rw [← HT.out, ← totTo_all, HN.out.1]
      have HV : Hid (v ≤ k0 + 32 * T) := by show _ ≤ _; rw [HX.out] at hv; omega
      have hvb : v ≤ 1073741824 := by have := HV.out; omega
      clear hv
      go_wp2
      go_ret
      exact ⟨v, rfl, HV.out, HM.out⟩
end Go.Proofs.YtkjjglnbbahbkaaDoor
