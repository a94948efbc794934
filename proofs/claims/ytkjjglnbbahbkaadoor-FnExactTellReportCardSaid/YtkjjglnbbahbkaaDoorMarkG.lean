/-
  Marks, generically: numbers are laid over, the places stay; markByteS.
-/
import Derived.Test.YtkjjglnbbahbkaaDoorTree2
import Derived.Test.YtkjjglnbbahbkaaDoorMadeT
import Derived.Test.YtkjjglnbbahbkaaDoorBytes
import Derived.Deep.DeepCutAuto
import Derived.Deep.CutRange
namespace Go.Proofs.YtkjjglnbbahbkaaDoor
open Go.RowKit

/-- alike but for numbers, truths and texts -/
def alike (a b : Value) : Prop := a = b ∨ (∃ k n n', a = .int k n ∧ b = .int k n') ∨ (∃ x y, a = .bool x ∧ b = .bool y) ∨ ∃ x y, a = .string x ∧ b = .string y
theorem alike.trans {a b c : Value} (h : alike a b) (k : alike b c) : alike a c := by
  rcases h with rfl | ⟨q, n, n', rfl, rfl⟩ | ⟨x, y, rfl, rfl⟩ | ⟨x, y, rfl, rfl⟩
  · exact k
  · rcases k with rfl | ⟨q', m, m', h1, rfl⟩ | ⟨x, y, h1, _⟩ | ⟨x, y, h1, _⟩
    · exact .inr (.inl ⟨q, n, n', rfl, rfl⟩)
    · cases h1; exact .inr (.inl ⟨q, n, m', rfl, rfl⟩)
    · cases h1
    · cases h1
  · rcases k with rfl | ⟨q', m, m', h1, _⟩ | ⟨x', y', h1, rfl⟩ | ⟨x', y', h1, _⟩
    · exact .inr (.inr (.inl ⟨x, y, rfl, rfl⟩))
    · cases h1
    · exact .inr (.inr (.inl ⟨x, y', rfl, rfl⟩))
    · cases h1
  · rcases k with rfl | ⟨q', m, m', h1, _⟩ | ⟨x', y', h1, _⟩ | ⟨x', y', h1, rfl⟩
    · exact .inr (.inr (.inr ⟨x, y, rfl, rfl⟩))
    · cases h1
    · cases h1
    · exact .inr (.inr (.inr ⟨x, y', rfl, rfl⟩))
/-- from one world to the other only numbers and truths have turned, and those from block lo on -/
structure Mk (lo : Nat → Prop) (w w' : World) : Prop where
  os : w'.os = w.os
  tape : w'.tape = w.tape
  output : w'.output = w.output
  size : w'.heap.size = w.heap.size
  below : ∀ k, ¬ lo k → w'.heap[k]? = w.heap[k]?
  cell : ∀ a v, w.cell? a = some v → ∃ v', w'.cell? a = some v' ∧ alike v v'
  free : ∀ a, w'.frozen? a = w.frozen? a
theorem Mk.refl (lo : Nat → Prop) (w : World) : Mk lo w w := ⟨rfl, rfl, rfl, rfl, fun _ _ => rfl, fun _ v h => ⟨v, h, .inl rfl⟩, fun _ => rfl⟩
theorem Mk.trans {lo : Nat → Prop} {a b c : World} (h : Mk lo a b) (k : Mk lo b c) : Mk lo a c :=
  ⟨k.os.trans h.os, k.tape.trans h.tape, k.output.trans h.output, k.size.trans h.size, fun i hi => (k.below i hi).trans (h.below i hi), fun x v hv => by
    obtain ⟨v1, h1, a1⟩ := h.cell x v hv
    obtain ⟨v2, h2, a2⟩ := k.cell x v1 h1
    exact ⟨v2, h2, a1.trans a2⟩, fun x => (k.free x).trans (h.free x)⟩
theorem Mk.set {lo : Nat → Prop} {w X : World} (h : Mk lo w X) {g o : Nat} {u v : Value} (hg : lo g) (hu : X.cell? ⟨g, o, none⟩ = some u) (ha : alike u v) : Mk lo w (X.setCell ⟨g, o, none⟩ v) := by
  refine h.trans ⟨rfl, rfl, rfl, by simp [World.setCell], fun k hk => heap_setCell_other X _ k v (show k ≠ g from fun e => hk (e ▸ hg)), fun x y hy => ?_, fun x => World.frozen?_setCell _ _ _ _⟩
  by_cases e : (⟨g, o, none⟩ : Addr) = x
  · subst e
    rw [hu] at hy
    obtain rfl := Option.some.inj hy
    exact ⟨v, World.cell?_setCell_same _ _ _ hu, ha⟩
  · exact ⟨y, (World.cell?_setCell_other _ _ _ _ e).trans hy, .inl rfl⟩
theorem Mk.setN {lo : Nat → Prop} {w X : World} (h : Mk lo w X) {g o : Nat} (hq : ∃ u : Int, X.cell? ⟨g, o, none⟩ = some (.int .i64 u) ∧ X.frozen? ⟨g, o, none⟩ = false) (hg : lo g) (v : Int) : Mk lo w (X.setCell ⟨g, o, none⟩ (.int .i64 v)) := by
  obtain ⟨u, hu, -⟩ := hq
  exact h.set hg hu (.inr (.inl ⟨_, _, _, rfl, rfl⟩))
theorem Mk.setB {lo : Nat → Prop} {w X : World} (h : Mk lo w X) {g o : Nat} (hq : ∃ u : Bool, X.cell? ⟨g, o, none⟩ = some (.bool u) ∧ X.frozen? ⟨g, o, none⟩ = false) (hg : lo g) (v : Bool) : Mk lo w (X.setCell ⟨g, o, none⟩ (.bool v)) := by
  obtain ⟨u, hu, -⟩ := hq
  exact h.set hg hu (.inr (.inr (.inl ⟨_, _, rfl, rfl⟩)))
theorem Mk.setS {lo : Nat → Prop} {w X : World} (h : Mk lo w X) {g o : Nat} (hq : ∃ u : ByteArray, X.cell? ⟨g, o, none⟩ = some (.string u) ∧ X.frozen? ⟨g, o, none⟩ = false) (hg : lo g) (v : ByteArray) : Mk lo w (X.setCell ⟨g, o, none⟩ (.string v)) := by
  obtain ⟨u, hu, -⟩ := hq
  exact h.set hg hu (.inr (.inr (.inr ⟨_, _, rfl, rfl⟩)))
/-- its places lie there, from lo on, and may be written; of its numbers only that they are numbers -/
def Dug (w : World) (lo : Nat → Prop) (x0 : Tr) : Prop :=
  ∀ P : Tr → Prop, (∀ (n : Int), P (.int n)) →
    (∀ (b : Bool), P (.bool b)) →
    (∀ (s : ByteArray), P (.str s)) →
    (∀ (d : List Nat) (g : Nat) (cp : Nat) (_hg : lo g) (_hc : ∀ i, i < d.length → ∃ v, w.cell? ⟨g, i, none⟩ = some (.int .u8 v)) (_hf : ∀ o, w.frozen? ⟨g, o, none⟩ = false), P (.byt d (some ⟨g, 0, none⟩) cp)) →
    (∀ (m : Nat) (g : Nat) (cp : Nat) (L : List (List Tr)) (_hg : lo g) (_hc : ∀ (i j : Nat) (e : List Tr) (y : Tr), L[i]? = some e → e[j]? = some y → ∃ v, w.cell? ⟨g, i * m + j, none⟩ = some v ∧ alike y.cell v) (_hf : ∀ o, w.frozen? ⟨g, o, none⟩ = false) (_hs : ∀ (i j : Nat) (e : List Tr) (y : Tr), L[i]? = some e → e[j]? = some y → P y), P (.row m (some ⟨g, 0, none⟩) cp L)) → P x0
theorem Dug.int {w : World} {lo : Nat → Prop} (n : Int) : Dug w lo (.int n) := fun _ c0 _ _ _ _ => c0 n
theorem Dug.bool {w : World} {lo : Nat → Prop} (b : Bool) : Dug w lo (.bool b) := fun _ _ c1 _ _ _ => c1 b
theorem Dug.str {w : World} {lo : Nat → Prop} (s : ByteArray) : Dug w lo (.str s) := fun _ _ _ c2 _ _ => c2 s
theorem Dug.byt {w : World} {lo : Nat → Prop} {d : List Nat} {g : Nat} {cp : Nat} (hg : lo g) (hc : ∀ i, i < d.length → ∃ v, w.cell? ⟨g, i, none⟩ = some (.int .u8 v)) (hf : ∀ o, w.frozen? ⟨g, o, none⟩ = false) : Dug w lo (.byt d (some ⟨g, 0, none⟩) cp) := fun _ _ _ _ c3 _ => c3 d g cp hg hc hf
theorem Dug.row {w : World} {lo : Nat → Prop} {m : Nat} {g : Nat} {cp : Nat} {L : List (List Tr)} (hg : lo g) (hc : ∀ (i j : Nat) (e : List Tr) (y : Tr), L[i]? = some e → e[j]? = some y → ∃ v, w.cell? ⟨g, i * m + j, none⟩ = some v ∧ alike y.cell v) (hf : ∀ o, w.frozen? ⟨g, o, none⟩ = false) (hs : ∀ (i j : Nat) (e : List Tr) (y : Tr), L[i]? = some e → e[j]? = some y → Dug w lo y) : Dug w lo (.row m (some ⟨g, 0, none⟩) cp L) := fun P c0 c1 c2 c3 c4 => c4 m g cp L hg hc hf (fun i j e y hi hj => hs i j e y hi hj P c0 c1 c2 c3 c4)
theorem Dug.elim {w : World} {lo : Nat → Prop} {motive : (x0 : Tr) → Dug w lo x0 → Prop}
    (int : ∀ (n : Int), motive (.int n) (.int n))
    (bool : ∀ (b : Bool), motive (.bool b) (.bool b))
    (str : ∀ (s : ByteArray), motive (.str s) (.str s))
    (byt : ∀ {d : List Nat} {g : Nat} {cp : Nat} (hg : lo g) (hc : ∀ i, i < d.length → ∃ v, w.cell? ⟨g, i, none⟩ = some (.int .u8 v)) (hf : ∀ o, w.frozen? ⟨g, o, none⟩ = false), motive (.byt d (some ⟨g, 0, none⟩) cp) (.byt hg hc hf))
    (row : ∀ {m : Nat} {g : Nat} {cp : Nat} {L : List (List Tr)} (hg : lo g) (hc : ∀ (i j : Nat) (e : List Tr) (y : Tr), L[i]? = some e → e[j]? = some y → ∃ v, w.cell? ⟨g, i * m + j, none⟩ = some v ∧ alike y.cell v) (hf : ∀ o, w.frozen? ⟨g, o, none⟩ = false) (hs : ∀ (i j : Nat) (e : List Tr) (y : Tr), L[i]? = some e → e[j]? = some y → Dug w lo y), (∀ i j e y hi hj, motive y (hs i j e y hi hj)) → motive (.row m (some ⟨g, 0, none⟩) cp L) (.row hg hc hf hs))
    {x0 : Tr} (h : Dug w lo x0) : motive x0 h :=
  (h (fun x0 => ∃ h : Dug w lo x0, motive x0 h) (fun n => ⟨.int n, int n ⟩)
    (fun b => ⟨.bool b, bool b ⟩)
    (fun s => ⟨.str s, str s ⟩)
    (fun _ _ _ hg hc hf => ⟨.byt hg hc hf, byt hg hc hf ⟩)
    (fun _ _ _ _ hg hc hf hs => ⟨.row hg hc hf (fun i j e y hi hj => (hs i j e y hi hj).elim fun a _ => a), row hg hc hf (fun i j e y hi hj => (hs i j e y hi hj).elim fun a _ => a) (fun i j e y hi hj => (hs i j e y hi hj).elim fun _ b => b)⟩)).elim fun _ b => b
theorem Dug.inv {w : World} {lo : Nat → Prop} {x : Tr} (h : Dug w lo x) : (x.tell.tag = 3 → ∃ g, x.a = some ⟨g, 0, none⟩ ∧ lo g ∧ (∀ i, i < x.tell.d.length → ∃ v, w.cell? ⟨g, i, none⟩ = some (.int .u8 v)) ∧ ∀ o, w.frozen? ⟨g, o, none⟩ = false) ∧ (x.tell.tag = 4 → ∃ g, x.a = some ⟨g, 0, none⟩ ∧ lo g ∧ (∀ (i j : Nat) (e : List Tr) (y : Tr), x.L[i]? = some e → e[j]? = some y → ∃ v, w.cell? ⟨g, i * x.m + j, none⟩ = some v ∧ alike y.cell v) ∧ (∀ o, w.frozen? ⟨g, o, none⟩ = false) ∧ ∀ (i j : Nat) (e : List Tr) (y : Tr), x.L[i]? = some e → e[j]? = some y → Dug w lo y) := by
  cases h using Dug.elim with
  | int n => exact ⟨fun e => (by cases e), fun e => (by cases e)⟩
  | bool b => exact ⟨fun e => (by cases e), fun e => (by cases e)⟩
  | str s => exact ⟨fun e => (by cases e), fun e => (by cases e)⟩
  | byt hg hc hf => exact ⟨fun _ => ⟨_, rfl, hg, hc, hf⟩, fun e => (by cases e)⟩
  | row hg hc hf hs => exact ⟨fun e => (by cases e), fun _ => ⟨_, rfl, hg, hc, hf, hs⟩⟩
theorem Dug.mk {w w' : World} {lo : Nat → Prop} {x : Tr} (h : Dug w lo x) (hm : Mk lo w w') : Dug w' lo x := by
  induction h using Dug.elim with
  | int n => exact .int n
  | bool b => exact .bool b
  | str s => exact .str s
  | byt hg hc hf =>
    refine .byt hg (fun i hi => ?_) (fun o => (hm.free _).trans (hf o))
    obtain ⟨v, hv⟩ := hc i hi
    obtain ⟨v', h1, h2⟩ := hm.cell _ _ hv
    rcases h2 with rfl | ⟨k, n, n', e, rfl⟩ | ⟨x, y, e, _⟩ | ⟨x, y, e, _⟩
    · exact ⟨v, h1⟩
    · cases e; exact ⟨n', h1⟩
    · cases e
    · cases e
  | row hg hc hf _ ih =>
    refine .row hg (fun i j e y hi hj => ?_) (fun o => (hm.free _).trans (hf o)) ih
    obtain ⟨v, hv, ha⟩ := hc i j e y hi hj
    obtain ⟨v', h1, h2⟩ := hm.cell _ _ hv
    exact ⟨v', h1, ha.trans h2⟩
theorem Made.dugAt {w0 w : World} {l : Nat} {x : Tr} (h : Made w0 l x) (hG : w0.grownBy w none) : Dug w (fun k => l ≤ k ∧ k < w0.heap.size) x := by
  induction h using Made.elim with
  | int h => exact .int _
  | bool b => exact .bool b
  | str h => exact .str _
  | @byt d g cp hg hb h _ =>
    exact .byt ⟨hg, h.lt⟩ (fun i hi => ⟨_, ((bcell hG).1 _ _ h.lt).trans (h.cell i hi)⟩) (fun o => ((bcell hG).2 _ _ h.lt).trans (h.free o))
  | @row m g cp L hg hlt hb hl hc hf _ ih =>
    refine .row ⟨hg, hlt⟩ (fun i j e y hi hj => ⟨y.cell, ?_, .inl rfl⟩) (fun o => ((bcell hG).2 _ _ hlt).trans (hf o)) ih
    exact ((bcell hG).1 _ _ hlt).trans (hc i e hi j _ (by rw [List.getElem?_map, hj]; rfl))
theorem Dug.place {w : World} {lo : Nat → Prop} {m p : Nat} {a : Option Addr} {L : List (List Tr)} (h : Dug w lo (.row m a p L)) : ∃ g, a = some ⟨g, 0, none⟩ := by
  obtain ⟨g, h, -⟩ := h.inv.2 rfl
  exact ⟨g, h⟩
theorem Dug.low {w : World} {lo : Nat → Prop} {m p g : Nat} {L : List (List Tr)} (h : Dug w lo (.row m (some ⟨g, 0, none⟩) p L)) : lo g := by
  obtain ⟨g', h0, h1, -⟩ := h.inv.2 rfl
  cases h0
  exact h1
theorem Dug.sub {w : World} {lo : Nat → Prop} {m p g : Nat} {L : List (List Tr)} (h : Dug w lo (.row m (some ⟨g, 0, none⟩) p L)) (i j : Nat) (e : List Tr) (y : Tr) (hi : L[i]? = some e) (hj : e[j]? = some y) : Dug w lo y := by
  obtain ⟨g', h0, -, -, -, h4⟩ := h.inv.2 rfl
  cases h0
  exact h4 i j e y hi hj
/-- what is known of a cell, in every later world -/
def CellIs (w : World) (a : Addr) (v : Value) : Prop := (∃ u, w.cell? a = some u ∧ alike v u) ∧ w.frozen? a = false
theorem Dug.cell {w : World} {lo : Nat → Prop} {m p g : Nat} {L : List (List Tr)} (h : Dug w lo (.row m (some ⟨g, 0, none⟩) p L)) (i j : Nat) (e : List Tr) (y : Tr) (hi : L[i]? = some e) (hj : e[j]? = some y) : CellIs w ⟨g, i * m + j, none⟩ y.cell := by
  obtain ⟨g', h0, -, h2, h3, -⟩ := h.inv.2 rfl
  cases h0
  exact ⟨h2 i j e y hi hj, h3 _⟩
theorem CellIs.int {w X : World} {lo : Nat → Prop} {a : Addr} {n : Int} (h : CellIs w a (Tr.int n).cell) (hX : Mk lo w X) : ∃ u : Int, X.cell? a = some (.int .i64 u) ∧ X.frozen? a = false := by
  obtain ⟨⟨u, hu, ha⟩, hf⟩ := h
  obtain ⟨u', hu', ha'⟩ := hX.cell _ _ hu
  have h2 := ha.trans ha'
  rcases h2 with rfl | ⟨k, n, n', e, rfl⟩ | ⟨x, y, e, _⟩ | ⟨x, y, e, _⟩
  · exact ⟨n, hu', (hX.free a).trans hf⟩
  · cases e; exact ⟨n', hu', (hX.free a).trans hf⟩
  · cases e
  · cases e
theorem CellIs.bool {w X : World} {lo : Nat → Prop} {a : Addr} {n : Bool} (h : CellIs w a (Tr.bool n).cell) (hX : Mk lo w X) : ∃ u : Bool, X.cell? a = some (.bool u) ∧ X.frozen? a = false := by
  obtain ⟨⟨u, hu, ha⟩, hf⟩ := h
  obtain ⟨u', hu', ha'⟩ := hX.cell _ _ hu
  have h2 := ha.trans ha'
  rcases h2 with rfl | ⟨k, n, n', e, rfl⟩ | ⟨x, y, e, rfl⟩ | ⟨x, y, e, _⟩
  · exact ⟨n, hu', (hX.free a).trans hf⟩
  · cases e
  · cases e; exact ⟨y, hu', (hX.free a).trans hf⟩
  · cases e
theorem CellIs.str {w X : World} {lo : Nat → Prop} {a : Addr} {n : ByteArray} (h : CellIs w a (Tr.str n).cell) (hX : Mk lo w X) : ∃ u : ByteArray, X.cell? a = some (.string u) ∧ X.frozen? a = false := by
  obtain ⟨⟨u, hu, ha⟩, hf⟩ := h
  obtain ⟨u', hu', ha'⟩ := hX.cell _ _ hu
  have h2 := ha.trans ha'
  rcases h2 with rfl | ⟨k, n, n', e, rfl⟩ | ⟨x, y, e, _⟩ | ⟨x, y, e, rfl⟩
  · exact ⟨n, hu', (hX.free a).trans hf⟩
  · cases e
  · cases e
  · cases e; exact ⟨y, hu', (hX.free a).trans hf⟩
theorem CellIs.slice {w X : World} {lo : Nat → Prop} {len p : Nat} {a : Addr} {o : Option Addr} (h : CellIs w a (.slice o len p)) (hX : Mk lo w X) : X.cell? a = some (.slice o len p) := by
  obtain ⟨⟨u, hu, ha⟩, hf⟩ := h
  obtain ⟨u', hu', ha'⟩ := hX.cell _ _ hu
  have h2 := ha.trans ha'
  rcases h2 with rfl | ⟨k, n, n', e, _⟩ | ⟨x, y, e, _⟩ | ⟨x, y, e, _⟩
  · exact hu'
  · cases e
  · cases e
  · cases e
theorem Fits.els {m p : Nat} {a : Option Addr} {L : List (List Tr)} {ks : List Ki} (h : Fits (.row m a p L) (.row ks)) : ∀ (i : Nat) (e : List Tr), L[i]? = some e → FitsL e ks := fun i e hi => ⟨h.isRowL.1 i e hi, fun j y k hj hk => h.isRowL.2 i j e y k hi hj hk⟩
set_option maxHeartbeats 800000 in
theorem markByteS_dug (d : List Nat) (a : Option Addr) (p k0 : Nat) (lo : Nat → Prop) (w : World) (h : Dug w lo (.byt d a p)) (s : k0 + 32 * d.length ≤ 1073741824) :
    Calls Tryd.prog 11 #[.slice a d.length p, .int .i64 (k0 : Int)] w fun e w' => ∃ v : Nat, e = .returned (.int .i64 (v : Int)) ∧ v ≤ k0 + 32 * d.length ∧ Mk lo w w' := by
  obtain ⟨g, ha, hg, hc, hf⟩ := h.inv.1 rfl
  replace ha : a = some ⟨g, 0, none⟩ := ha
  replace hc : ∀ i, i < d.length → ∃ v, w.cell? ⟨g, i, none⟩ = some (.int .u8 v) := hc
  subst ha
  clear h
  obtain ⟨n, hn⟩ : ∃ n, d.length = n := ⟨_, rfl⟩
  rw [hn] at s hc ⊢
  have HC : Hid (lo g ∧ (∀ i, i < n → ∃ v, w.cell? ⟨g, i, none⟩ = some (.int .u8 v)) ∧ ∀ o, w.frozen? ⟨g, o, none⟩ = false) := ⟨hg, hc, hf⟩
  clear hg hc hf hn
  go_enter Tryd.func11, Tryd.ntmps11
  go_wp2
  go_loopw [1, 5] (fun v i wr => ∃ k : Nat, k ≤ n ∧ i = .int .i64 k ∧ v = .int .i64 ((k0 : Int) + k) ∧ Mk lo w wr) (fun _ i _ => n - (intOf i).toNat)
  case atStart => exact ⟨0, Nat.zero_le _, rfl, by go_num, Mk.refl _ _⟩
  case round =>
    obtain ⟨k, hk, rfl, rfl, hM⟩ := hrel
    by_cases hlt : k < n
    · obtain ⟨v, hv⟩ := HC.out.2.1 k hlt
      obtain ⟨v', hcw, ha⟩ := hM.cell _ _ hv
      have hfz : wr.frozen? ⟨g, k, none⟩ = false := (hM.free _).trans (HC.out.2.2 k)
      obtain ⟨u, rfl⟩ : ∃ u, v' = .int .u8 u := by
        rcases ha with rfl | ⟨q, n, n', e, rfl⟩ | ⟨x, y, e, _⟩ | ⟨x, y, e, _⟩
        · exact ⟨v, rfl⟩
        · cases e; exact ⟨n', rfl⟩
        · cases e
        · cases e
      have R : Hid (Mk lo w (wr.setCell ⟨g, k, none⟩ (.int .u8 (((k0 : Int) + k) % 256)))) := hM.set HC.out.1 hcw (.inr (.inl ⟨_, _, _, rfl, rfl⟩))
      clear hM hv ha
      go_wp2
      go_roundw
      case rel => exact ⟨k + 1, by omega, by go_num, by go_num, R.out⟩
      case measure => simp [intOf]; omega
    · obtain rfl : k = n := by omega
      have R : Hid (Mk lo w wr) := hM
      clear hM
      go_wp2
      go_ret
      exact ⟨k0 + k, by go_num, by omega, R.out⟩
end Go.Proofs.YtkjjglnbbahbkaaDoor
