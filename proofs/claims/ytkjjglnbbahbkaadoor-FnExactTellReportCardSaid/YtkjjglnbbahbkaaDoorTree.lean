/-
  Nested data: numbers, truths, bytes, rows of such; how it lies, what it tells; data that came in, opened.
-/
import Derived.Test.YtkjjglnbbahbkaaDoorBase
import Derived.Test.YtkjjglnbbahbkaaDoorOpenB
namespace Go.Proofs.YtkjjglnbbahbkaaDoor
open Go.ChangeShapes Go.WideShapes Go.ChangeAt Go.RowKit

/-- what data tell, without their places -/
structure Td where
  tag : Nat
  n : Int
  b : Bool
  s : ByteArray
  d : List Nat
  L : List (List Td)
  tot : Nat
def tdEl : List Td → Nat
  | [] => 0
  | y :: e => y.tot + tdEl e
def tdRows : List (List Td) → Nat
  | [] => 0
  | e :: L => tdEl e + tdRows L
abbrev Td.int (n : Int) : Td := ⟨0, n, false, .empty, [], [], 0⟩
abbrev Td.bool (b : Bool) : Td := ⟨1, 0, b, .empty, [], [], 0⟩
abbrev Td.str (s : ByteArray) : Td := ⟨2, 0, false, s, [], [], s.size⟩
abbrev Td.byt (d : List Nat) : Td := ⟨3, 0, false, .empty, d, [], d.length⟩
abbrev Td.row (L : List (List Td)) : Td := ⟨4, 0, false, .empty, [], L, L.length + tdRows L⟩
theorem Td.int.injEq (x y : Int) : (Td.int x = Td.int y) = (x = y) := propext ⟨fun h => congrArg Td.n h, fun h => by rw [h]⟩
theorem Td.bool.injEq (x y : Bool) : (Td.bool x = Td.bool y) = (x = y) := propext ⟨fun h => congrArg Td.b h, fun h => by rw [h]⟩
theorem Td.str.injEq (x y : ByteArray) : (Td.str x = Td.str y) = (x = y) := propext ⟨fun h => congrArg Td.s h, fun h => by rw [h]⟩
theorem Td.byt.injEq (x y : List Nat) : (Td.byt x = Td.byt y) = (x = y) := propext ⟨fun h => congrArg Td.d h, fun h => by rw [h]⟩
theorem Td.row.injEq (x y : List (List Td)) : (Td.row x = Td.row y) = (x = y) := propext ⟨fun h => congrArg Td.L h, fun h => by rw [h]⟩
/-- .. with their places: its cell, what it tells -/
structure Tr where
  cell : Value
  tell : Td
  a : Option Addr
  cp : Nat
  m : Nat
  L : List (List Tr)
abbrev Tr.int (n : Int) : Tr := ⟨.int .i64 n, .int n, none, 0, 0, []⟩
abbrev Tr.bool (b : Bool) : Tr := ⟨.bool b, .bool b, none, 0, 0, []⟩
abbrev Tr.str (s : ByteArray) : Tr := ⟨.string s, .str s, none, 0, 0, []⟩
abbrev Tr.byt (d : List Nat) (a : Option Addr) (cp : Nat) : Tr := ⟨.slice a d.length cp, .byt d, a, cp, 0, []⟩
abbrev Tr.row (m : Nat) (a : Option Addr) (cp : Nat) (L : List (List Tr)) : Tr := ⟨.slice a L.length cp, .row (L.map (fun e => e.map Tr.tell)), a, cp, m, L⟩
theorem Tr.byt.injEq (d : List Nat) (a : Option Addr) (cp : Nat) (d' : List Nat) (a' : Option Addr) (cp' : Nat) : (Tr.byt d a cp = Tr.byt d' a' cp') = (d = d' ∧ a = a' ∧ cp = cp') := propext ⟨fun h => ⟨congrArg (fun x : Tr => x.tell.d) h, congrArg Tr.a h, congrArg Tr.cp h⟩, fun ⟨h1, h2, h3⟩ => by rw [h1, h2, h3]⟩
theorem Tr.str.injEq (s t : ByteArray) : (Tr.str s = Tr.str t) = (s = t) := propext ⟨fun h => congrArg (fun x : Tr => x.tell.s) h, fun h => by rw [h]⟩
theorem Tr.int.injEq (x y : Int) : (Tr.int x = Tr.int y) = (x = y) := propext ⟨fun h => congrArg (fun x : Tr => x.tell.n) h, fun h => by rw [h]⟩
theorem Tr.row_inj {m m' : Nat} {a a' : Option Addr} {cp cp' : Nat} {L L' : List (List Tr)} (h : Tr.row m a cp L = Tr.row m' a' cp' L') : m = m' ∧ a = a' ∧ cp = cp' ∧ L = L' := ⟨congrArg Tr.m h, congrArg Tr.a h, congrArg Tr.cp h, congrArg Tr.L h⟩
/-- a number of 64 bits -/
def I64 (n : Int) : Prop := -9223372036854775808 ≤ n ∧ n ≤ 9223372036854775807
/-- it lies there, and can be read -/
def Rd (w : World) (x0 : Tr) : Prop :=
  ∀ P : Tr → Prop, (∀ (n : Int) (_h : I64 n), P (.int n)) →
    (∀ (b : Bool), P (.bool b)) →
    (∀ (s : ByteArray) (_h : s.size ≤ maxLen), P (.str s)) →
    (∀ (d : List Nat) (a : Option Addr) (cp : Nat) (_hb : d.length ≤ maxLen) (_h : SlB w a d.length d), P (.byt d a cp)) →
    (∀ (m : Nat) (a : Option Addr) (cp : Nat) (L : List (List Tr)) (_hb : L.length ≤ maxLen) (_hl : ∀ (i : Nat) (e : List Tr), L[i]? = some e → e.length = m) (_hc : ∀ (i j : Nat) (e : List Tr) (y : Tr), L[i]? = some e → e[j]? = some y → ∃ b off, a = some ⟨b, off, none⟩ ∧ w.cell? ⟨b, off + i * m + j, none⟩ = some y.cell) (_hr : ∀ (i j : Nat) (e : List Tr) (y : Tr), L[i]? = some e → e[j]? = some y → P y), P (.row m a cp L)) → P x0
theorem Rd.int {w : World} {n : Int} (h : I64 n) : Rd w (.int n) := fun _ c0 _ _ _ _ => c0 n h
theorem Rd.bool {w : World} (b : Bool) : Rd w (.bool b) := fun _ _ c1 _ _ _ => c1 b
theorem Rd.str {w : World} {s : ByteArray} (h : s.size ≤ maxLen) : Rd w (.str s) := fun _ _ _ c2 _ _ => c2 s h
theorem Rd.byt {w : World} {d : List Nat} {a : Option Addr} {cp : Nat} (hb : d.length ≤ maxLen) (h : SlB w a d.length d) : Rd w (.byt d a cp) := fun _ _ _ _ c3 _ => c3 d a cp hb h
theorem Rd.row {w : World} {m : Nat} {a : Option Addr} {cp : Nat} {L : List (List Tr)} (hb : L.length ≤ maxLen) (hl : ∀ (i : Nat) (e : List Tr), L[i]? = some e → e.length = m) (hc : ∀ (i j : Nat) (e : List Tr) (y : Tr), L[i]? = some e → e[j]? = some y → ∃ b off, a = some ⟨b, off, none⟩ ∧ w.cell? ⟨b, off + i * m + j, none⟩ = some y.cell) (hr : ∀ (i j : Nat) (e : List Tr) (y : Tr), L[i]? = some e → e[j]? = some y → Rd w y) : Rd w (.row m a cp L) := fun P c0 c1 c2 c3 c4 => c4 m a cp L hb hl hc (fun i j e y hi hj => hr i j e y hi hj P c0 c1 c2 c3 c4)
theorem Rd.elim {w : World} {motive : (x0 : Tr) → Rd w x0 → Prop}
    (int : ∀ {n : Int} (h : I64 n), motive (.int n) (.int h))
    (bool : ∀ (b : Bool), motive (.bool b) (.bool b))
    (str : ∀ {s : ByteArray} (h : s.size ≤ maxLen), motive (.str s) (.str h))
    (byt : ∀ {d : List Nat} {a : Option Addr} {cp : Nat} (hb : d.length ≤ maxLen) (h : SlB w a d.length d), motive (.byt d a cp) (.byt hb h))
    (row : ∀ {m : Nat} {a : Option Addr} {cp : Nat} {L : List (List Tr)} (hb : L.length ≤ maxLen) (hl : ∀ (i : Nat) (e : List Tr), L[i]? = some e → e.length = m) (hc : ∀ (i j : Nat) (e : List Tr) (y : Tr), L[i]? = some e → e[j]? = some y → ∃ b off, a = some ⟨b, off, none⟩ ∧ w.cell? ⟨b, off + i * m + j, none⟩ = some y.cell) (hr : ∀ (i j : Nat) (e : List Tr) (y : Tr), L[i]? = some e → e[j]? = some y → Rd w y), (∀ i j e y hi hj, motive y (hr i j e y hi hj)) → motive (.row m a cp L) (.row hb hl hc hr))
    {x0 : Tr} (h : Rd w x0) : motive x0 h :=
  (h (fun x0 => ∃ h : Rd w x0, motive x0 h) (fun _ h => ⟨.int h, int h ⟩)
    (fun b => ⟨.bool b, bool b ⟩)
    (fun _ h => ⟨.str h, str h ⟩)
    (fun _ _ _ hb h => ⟨.byt hb h, byt hb h ⟩)
    (fun _ _ _ _ hb hl hc hr => ⟨.row hb hl hc (fun i j e y hi hj => (hr i j e y hi hj).elim fun a _ => a), row hb hl hc (fun i j e y hi hj => (hr i j e y hi hj).elim fun a _ => a) (fun i j e y hi hj => (hr i j e y hi hj).elim fun _ b => b)⟩)).elim fun _ b => b
theorem Rd.grown0 {w w' : World} {x : Tr} (h : Rd w x) (hg : w.grownBy w' none) : Rd w' x := by
  obtain ⟨hcell, -⟩ := bcell hg
  induction h using Rd.elim with
  | int h => exact .int h
  | bool b => exact .bool b
  | str h => exact .str h
  | byt hb h => exact .byt hb (h.grown0 hg)
  | row hb hl hc _ ih =>
    refine .row hb hl (fun i j e y hi hj => ?_) ih
    obtain ⟨b, off, ha, h⟩ := hc i j e y hi hj
    exact ⟨b, off, ha, (hcell _ _ (cell_block_lt h)).trans h⟩
/-- a block of it -/
def InB (x0 : Tr) (x1 : Nat) : Prop :=
  ∀ P : Tr → Nat → Prop, (∀ (d : List Nat) (a : Addr) (cp : Nat), P (.byt d (some a) cp) a.block) →
    (∀ (m : Nat) (a : Addr) (cp : Nat) (L : List (List Tr)), P (.row m (some a) cp L) a.block) →
    (∀ (m : Nat) (a : Option Addr) (cp : Nat) (L : List (List Tr)) (i : Nat) (j : Nat) (k : Nat) (e : List Tr) (y : Tr) (_hi : L[i]? = some e) (_hj : e[j]? = some y) (_h : P y k), P (.row m a cp L) k) → P x0 x1
theorem InB.byt {d : List Nat} {a : Addr} {cp : Nat} : InB (.byt d (some a) cp) a.block := fun _ c0 _ _ => c0 d a cp
theorem InB.here {m : Nat} {a : Addr} {cp : Nat} {L : List (List Tr)} : InB (.row m (some a) cp L) a.block := fun _ _ c1 _ => c1 m a cp L
theorem InB.sub {m : Nat} {a : Option Addr} {cp : Nat} {L : List (List Tr)} {i : Nat} {j : Nat} {k : Nat} {e : List Tr} {y : Tr} (hi : L[i]? = some e) (hj : e[j]? = some y) (h : InB y k) : InB (.row m a cp L) k := fun P c0 c1 c2 => c2 m a cp L i j k e y hi hj (h P c0 c1 c2)
theorem InB.elim  {motive : (x0 : Tr) → (x1 : Nat) → InB x0 x1 → Prop}
    (byt : ∀ {d : List Nat} {a : Addr} {cp : Nat}, motive (.byt d (some a) cp) a.block (.byt))
    (here : ∀ {m : Nat} {a : Addr} {cp : Nat} {L : List (List Tr)}, motive (.row m (some a) cp L) a.block (.here))
    (sub : ∀ {m : Nat} {a : Option Addr} {cp : Nat} {L : List (List Tr)} {i : Nat} {j : Nat} {k : Nat} {e : List Tr} {y : Tr} (hi : L[i]? = some e) (hj : e[j]? = some y) (h : InB y k), motive y k h → motive (.row m a cp L) k (.sub hi hj h))
    {x0 : Tr} {x1 : Nat} (h : InB x0 x1) : motive x0 x1 h :=
  (h (fun x0 x1 => ∃ h : InB x0 x1, motive x0 x1 h) (fun _ _ _ => ⟨.byt, byt  ⟩)
    (fun _ _ _ _ => ⟨.here, here  ⟩)
    (fun _ _ _ _ _ _ _ _ _ hi hj h => ⟨.sub hi hj (h.elim fun a _ => a), sub hi hj (h.elim fun a _ => a) (h.elim fun _ b => b)⟩)).elim fun _ b => b
theorem SlB.keep {w w' : World} {a : Option Addr} {len : Nat} {zs : List Nat} (h : SlB w a len zs) (hk : ∀ b off, a = some ⟨b, off, none⟩ → w'.heap[b]? = w.heap[b]?) : SlB w' a len zs := by
  obtain ⟨h1, h2, h3⟩ := h
  refine ⟨h1, h2, fun hn => ?_⟩
  obtain ⟨b, off, ha, hc⟩ := h3 hn
  exact ⟨b, off, ha, fun i hi => (World.cell?_of_block (hk b off ha)).trans (hc i hi)⟩
theorem Rd.keep {w w' : World} {x : Tr} (h : Rd w x) (hk : ∀ k, InB x k → w'.heap[k]? = w.heap[k]?) : Rd w' x := by
  induction h using Rd.elim with
  | int h => exact .int h
  | bool b => exact .bool b
  | str h => exact .str h
  | byt hb h => exact .byt hb (h.keep (fun b off ha => by subst ha; exact hk b .byt))
  | row hb hl hc _ ih =>
    refine .row hb hl (fun i j e y hi hj => ?_) (fun i j e y hi hj => ih i j e y hi hj (fun k hkk => hk k (.sub hi hj hkk)))
    obtain ⟨b, off, ha, h⟩ := hc i j e y hi hj
    refine ⟨b, off, ha, (World.cell?_of_block ?_).trans h⟩
    subst ha
    exact hk b .here
/-- a shape: what an element of a type is made of -/
structure Ki where
  tag : Nat
  ks : List Ki
abbrev Ki.int : Ki := ⟨0, []⟩
abbrev Ki.bool : Ki := ⟨1, []⟩
abbrev Ki.str : Ki := ⟨2, []⟩
abbrev Ki.byt : Ki := ⟨3, []⟩
abbrev Ki.row (ks : List Ki) : Ki := ⟨4, ks⟩
def Ki.leaf (k : Ki) : Bool := decide (k.tag < 2)
def Fits (x0 : Tr) (x1 : Ki) : Prop :=
  ∀ P : Tr → Ki → Prop, (∀ (n : Int), P (.int n) .int) →
    (∀ (b : Bool), P (.bool b) .bool) →
    (∀ (s : ByteArray), P (.str s) .str) →
    (∀ (d : List Nat) (a : Option Addr) (cp : Nat), P (.byt d a cp) .byt) →
    (∀ (a : Option Addr) (cp : Nat) (L : List (List Tr)) (ks : List Ki) (_hl : ∀ (i : Nat) (e : List Tr), L[i]? = some e → e.length = ks.length) (_hf : ∀ (i j : Nat) (e : List Tr) (y : Tr) (k : Ki), L[i]? = some e → e[j]? = some y → ks[j]? = some k → P y k), P (.row ks.length a cp L) (.row ks)) → P x0 x1
theorem Fits.int (n : Int) : Fits (.int n) .int := fun _ c0 _ _ _ _ => c0 n
theorem Fits.bool (b : Bool) : Fits (.bool b) .bool := fun _ _ c1 _ _ _ => c1 b
theorem Fits.str (s : ByteArray) : Fits (.str s) .str := fun _ _ _ c2 _ _ => c2 s
theorem Fits.byt (d : List Nat) (a : Option Addr) (cp : Nat) : Fits (.byt d a cp) .byt := fun _ _ _ _ c3 _ => c3 d a cp
theorem Fits.row {a : Option Addr} {cp : Nat} {L : List (List Tr)} {ks : List Ki} (hl : ∀ (i : Nat) (e : List Tr), L[i]? = some e → e.length = ks.length) (hf : ∀ (i j : Nat) (e : List Tr) (y : Tr) (k : Ki), L[i]? = some e → e[j]? = some y → ks[j]? = some k → Fits y k) : Fits (.row ks.length a cp L) (.row ks) := fun P c0 c1 c2 c3 c4 => c4 a cp L ks hl (fun i j e y k hi hj hk => hf i j e y k hi hj hk P c0 c1 c2 c3 c4)
theorem Fits.elim  {motive : (x0 : Tr) → (x1 : Ki) → Fits x0 x1 → Prop}
    (int : ∀ (n : Int), motive (.int n) .int (.int n))
    (bool : ∀ (b : Bool), motive (.bool b) .bool (.bool b))
    (str : ∀ (s : ByteArray), motive (.str s) .str (.str s))
    (byt : ∀ (d : List Nat) (a : Option Addr) (cp : Nat), motive (.byt d a cp) .byt (.byt d a cp))
    (row : ∀ {a : Option Addr} {cp : Nat} {L : List (List Tr)} {ks : List Ki} (hl : ∀ (i : Nat) (e : List Tr), L[i]? = some e → e.length = ks.length) (hf : ∀ (i j : Nat) (e : List Tr) (y : Tr) (k : Ki), L[i]? = some e → e[j]? = some y → ks[j]? = some k → Fits y k), (∀ i j e y k hi hj hk, motive y k (hf i j e y k hi hj hk)) → motive (.row ks.length a cp L) (.row ks) (.row hl hf))
    {x0 : Tr} {x1 : Ki} (h : Fits x0 x1) : motive x0 x1 h :=
  (h (fun x0 x1 => ∃ h : Fits x0 x1, motive x0 x1 h) (fun n => ⟨.int n, int n ⟩)
    (fun b => ⟨.bool b, bool b ⟩)
    (fun s => ⟨.str s, str s ⟩)
    (fun d a cp => ⟨.byt d a cp, byt d a cp ⟩)
    (fun _ _ _ _ hl hf => ⟨.row hl (fun i j e y k hi hj hk => (hf i j e y k hi hj hk).elim fun a _ => a), row hl (fun i j e y k hi hj hk => (hf i j e y k hi hj hk).elim fun a _ => a) (fun i j e y k hi hj hk => (hf i j e y k hi hj hk).elim fun _ b => b)⟩)).elim fun _ b => b
def FitsL (es : List Tr) (ks : List Ki) : Prop := es.length = ks.length ∧ ∀ (j : Nat) (y : Tr) (k : Ki), es[j]? = some y → ks[j]? = some k → Fits y k
/-- .. as the program's types have it -/
def Flat (P : Program) (x0 : TypeId) (x1 : List Ki) : Prop :=
  ∀ Q : TypeId → List Ki → Prop, (∀ (t : TypeId) (_h : P.underlying t = some (.int .i64)), Q t [.int]) →
    (∀ (t : TypeId) (_h : P.underlying t = some .bool), Q t [.bool]) →
    (∀ (t : TypeId) (_h : P.underlying t = some .string), Q t [.str]) →
    (∀ (t : TypeId) (e : TypeId) (_h : P.underlying t = some (.slice e)) (_he : P.underlying e = some (.int .u8)) (_hc : P.cellsOf e = 1), Q t [.byt]) →
    (∀ (t : TypeId) (e : TypeId) (ks : List Ki) (_h : P.underlying t = some (.slice e)) (_hc : P.cellsOf e = ks.length) (_h0 : 0 < ks.length) (_hf : Q e ks), Q t [.row ks]) →
    (∀ (t : TypeId) (fs : Array Field) (kk : List (List Ki)) (_h : P.underlying t = some (.struct fs)) (_hn : fs.size = kk.length) (_hc : P.cellsOf t = kk.flatten.length) (_ho : ∀ (i : Nat) (f : Field) (ks : List Ki), fs[i]? = some f → kk[i]? = some ks → f.offset = (kk.take i).flatten.length ∧ P.cellsOf f.type = ks.length) (_hf : ∀ (i : Nat) (f : Field) (ks : List Ki), fs[i]? = some f → kk[i]? = some ks → Q f.type ks), Q t kk.flatten) → Q x0 x1
theorem Flat.int {P : Program} {t : TypeId} (h : P.underlying t = some (.int .i64)) : Flat P t [.int] := fun _ c0 _ _ _ _ _ => c0 t h
theorem Flat.bool {P : Program} {t : TypeId} (h : P.underlying t = some .bool) : Flat P t [.bool] := fun _ _ c1 _ _ _ _ => c1 t h
theorem Flat.str {P : Program} {t : TypeId} (h : P.underlying t = some .string) : Flat P t [.str] := fun _ _ _ c2 _ _ _ => c2 t h
theorem Flat.byt {P : Program} {t : TypeId} {e : TypeId} (h : P.underlying t = some (.slice e)) (he : P.underlying e = some (.int .u8)) (hc : P.cellsOf e = 1) : Flat P t [.byt] := fun _ _ _ _ c3 _ _ => c3 t e h he hc
theorem Flat.row {P : Program} {t : TypeId} {e : TypeId} {ks : List Ki} (h : P.underlying t = some (.slice e)) (hc : P.cellsOf e = ks.length) (h0 : 0 < ks.length) (hf : Flat P e ks) : Flat P t [.row ks] := fun Q c0 c1 c2 c3 c4 c5 => c4 t e ks h hc h0 (hf Q c0 c1 c2 c3 c4 c5)
theorem Flat.struct {P : Program} {t : TypeId} {fs : Array Field} {kk : List (List Ki)} (h : P.underlying t = some (.struct fs)) (hn : fs.size = kk.length) (hc : P.cellsOf t = kk.flatten.length) (ho : ∀ (i : Nat) (f : Field) (ks : List Ki), fs[i]? = some f → kk[i]? = some ks → f.offset = (kk.take i).flatten.length ∧ P.cellsOf f.type = ks.length) (hf : ∀ (i : Nat) (f : Field) (ks : List Ki), fs[i]? = some f → kk[i]? = some ks → Flat P f.type ks) : Flat P t kk.flatten := fun Q c0 c1 c2 c3 c4 c5 => c5 t fs kk h hn hc ho (fun i f ks hi hk => hf i f ks hi hk Q c0 c1 c2 c3 c4 c5)
theorem Flat.elim {P : Program} {motive : (x0 : TypeId) → (x1 : List Ki) → Flat P x0 x1 → Prop}
    (int : ∀ {t : TypeId} (h : P.underlying t = some (.int .i64)), motive t [.int] (.int h))
    (bool : ∀ {t : TypeId} (h : P.underlying t = some .bool), motive t [.bool] (.bool h))
    (str : ∀ {t : TypeId} (h : P.underlying t = some .string), motive t [.str] (.str h))
    (byt : ∀ {t : TypeId} {e : TypeId} (h : P.underlying t = some (.slice e)) (he : P.underlying e = some (.int .u8)) (hc : P.cellsOf e = 1), motive t [.byt] (.byt h he hc))
    (row : ∀ {t : TypeId} {e : TypeId} {ks : List Ki} (h : P.underlying t = some (.slice e)) (hc : P.cellsOf e = ks.length) (h0 : 0 < ks.length) (hf : Flat P e ks), motive e ks hf → motive t [.row ks] (.row h hc h0 hf))
    (struct : ∀ {t : TypeId} {fs : Array Field} {kk : List (List Ki)} (h : P.underlying t = some (.struct fs)) (hn : fs.size = kk.length) (hc : P.cellsOf t = kk.flatten.length) (ho : ∀ (i : Nat) (f : Field) (ks : List Ki), fs[i]? = some f → kk[i]? = some ks → f.offset = (kk.take i).flatten.length ∧ P.cellsOf f.type = ks.length) (hf : ∀ (i : Nat) (f : Field) (ks : List Ki), fs[i]? = some f → kk[i]? = some ks → Flat P f.type ks), (∀ i f ks hi hk, motive f.type ks (hf i f ks hi hk)) → motive t kk.flatten (.struct h hn hc ho hf))
    {x0 : TypeId} {x1 : List Ki} (h : Flat P x0 x1) : motive x0 x1 h :=
  (h (fun x0 x1 => ∃ h : Flat P x0 x1, motive x0 x1 h) (fun _ h => ⟨.int h, int h ⟩)
    (fun _ h => ⟨.bool h, bool h ⟩)
    (fun _ h => ⟨.str h, str h ⟩)
    (fun _ _ h he hc => ⟨.byt h he hc, byt h he hc ⟩)
    (fun _ _ _ h hc h0 hf => ⟨.row h hc h0 (hf.elim fun a _ => a), row h hc h0 (hf.elim fun a _ => a) (hf.elim fun _ b => b)⟩)
    (fun _ _ _ h hn hc ho hf => ⟨.struct h hn hc ho (fun i f ks hi hk => (hf i f ks hi hk).elim fun a _ => a), struct h hn hc ho (fun i f ks hi hk => (hf i f ks hi hk).elim fun a _ => a) (fun i f ks hi hk => (hf i f ks hi hk).elim fun _ b => b)⟩)).elim fun _ b => b
theorem exists_list {α : Type} (Q : Nat → α → Prop) (n : Nat) (h : ∀ i, i < n → ∃ x, Q i x) : ∃ L : List α, L.length = n ∧ ∀ (i : Nat) (x : α), L[i]? = some x → Q i x := by
  induction n with
  | zero => exact ⟨[], rfl, fun i x hx => by simp at hx⟩
  | succ n ih =>
    obtain ⟨L, hl, hL⟩ := ih (fun i hi => h i (by omega))
    obtain ⟨x, hx⟩ := h n (by omega)
    refine ⟨L ++ [x], by simp [hl], fun i y hy => ?_⟩
    rcases Nat.lt_or_ge i L.length with hi | hi
    · rw [List.getElem?_append_left hi] at hy; exact hL i y hy
    · rw [List.getElem?_append_right hi] at hy
      have : i - L.length < 1 := by have := (List.getElem?_eq_some_iff.1 hy).1; simpa using this
      have e : i - L.length = 0 := by omega
      rw [e] at hy
      obtain rfl : x = y := by simpa using hy
      obtain rfl : i = n := by omega
      exact hx
theorem flatten_get {α : Type} (kk : List (List α)) : ∀ (i : Nat) (ks : List α) (j : Nat), kk[i]? = some ks → j < ks.length → kk.flatten[(kk.take i).flatten.length + j]? = ks[j]? := by
  induction kk with
  | nil => intro i ks j h; simp at h
  | cons k kk ih =>
    intro i ks j h hj
    cases i with
    | zero =>
      simp at h
      subst h
      simp only [List.take_zero, List.flatten_nil, List.length_nil, Nat.zero_add, List.flatten_cons]
      rw [List.getElem?_append_left hj]
    | succ i =>
      have h1 := ih i ks j (by simpa using h) hj
      rw [List.flatten_cons, List.take_succ_cons, List.flatten_cons, List.length_append, Nat.add_assoc, List.getElem?_append_right (by omega), show k.length + ((kk.take i).flatten.length + j) - k.length = (kk.take i).flatten.length + j by omega]
      exact h1
theorem flatten_at {α : Type} (kk : List (List α)) : ∀ (p : Nat) (x : α), kk.flatten[p]? = some x → ∃ (i : Nat) (ks : List α) (j : Nat), kk[i]? = some ks ∧ ks[j]? = some x ∧ p = (kk.take i).flatten.length + j := by
  induction kk with
  | nil => intro p x h; simp at h
  | cons k kk ih =>
    intro p x h
    rw [List.flatten_cons] at h
    rcases Nat.lt_or_ge p k.length with hp | hp
    · rw [List.getElem?_append_left hp] at h
      exact ⟨0, k, p, rfl, h, by simp⟩
    · rw [List.getElem?_append_right hp] at h
      obtain ⟨i, ks, j, h1, h2, h3⟩ := ih _ x h
      exact ⟨i + 1, ks, j, by simpa using h1, h2, by simp only [List.take_succ_cons, List.flatten_cons, List.length_append]; omega⟩
theorem add_noneT (b off i : Nat) : (⟨b, off, none⟩ : Addr).add i = ⟨b, off + i, none⟩ := by
  by_cases h0 : i = 0 <;> simp [Addr.add, h0]
/-- what came in, opened: whatever its type, so that it is of numbers, truths, bytes and rows -/
theorem open_flat {H : Type} {enc : TypeId × Value → H} {P : Program} {W : World} {t : TypeId} {ks : List Ki} (hF : Flat P t ks) : ∀ (fuel : Nat) (cs : List Value) (x : DataW H × List MemPlace), DataW.trod enc P W 0 (fun _ => true) true fuel t cs = some x → ∃ es : List Tr, es.map Tr.cell = cs ∧ FitsL es ks ∧ ∀ y ∈ es, Rd W y := by
  induction hF using Flat.elim with
  | int h =>
    intro fuel cs x hx
    obtain ⟨n, rfl, -, hwf⟩ := DataW.trod_int h hx
    have hI : I64 n := by
      simp only [Lit.wf, Bool.and_eq_true, decide_eq_true_eq] at hwf
      exact hwf
    refine ⟨[.int n], rfl, ⟨rfl, fun j y k hj hk => ?_⟩, by simp; exact .int hI⟩
    cases j with
    | zero => simp at hj hk; subst hj hk; exact .int n
    | succ j => simp at hj
  | bool h =>
    intro fuel cs x hx
    obtain ⟨b, rfl, -⟩ := DataW.trod_bool h hx
    refine ⟨[.bool b], rfl, ⟨rfl, fun j y k hj hk => ?_⟩, by simp; exact .bool b⟩
    cases j with
    | zero => simp at hj hk; subst hj hk; exact .bool b
    | succ j => simp at hj
  | str h =>
    intro fuel cs x hx
    obtain ⟨s, rfl, -, hs⟩ := DataW.trod_string h hx
    refine ⟨[.str s], rfl, ⟨rfl, fun j y k hj hk => ?_⟩, by simp; exact .str hs⟩
    cases j with
    | zero => simp at hj hk; subst hj hk; exact .str s
    | succ j => simp at hj
  | byt h he hc =>
    intro fuel cs x hx
    obtain ⟨a, len, cap, rfl⟩ : ∃ a len cap, cs = [.slice a len cap] := by
      rcases DataW.trod_slice h hx with ⟨h0, _⟩ | ⟨a, l, c, _, _, _, _, h0, _⟩
      · exact ⟨none, 0, 0, h0⟩
      · exact ⟨some a, l, c, h0⟩
    obtain ⟨zs, hs, hsm⟩ := slb_open (a := a) (len := len) (cap := cap) h he hc (d := x.1) (p := x.2) ⟨fuel, by simpa [Value.cells] using hx⟩
    have hzl := hs.1
    refine ⟨[.byt zs a cap], by simp [hzl], ⟨rfl, fun j y k hj hk => ?_⟩, by simp; exact .byt (by rw [hzl]; exact hsm) (by rw [hzl]; exact hs)⟩
    cases j with
    | zero => simp at hj hk; subst hj hk; exact .byt _ _ _
    | succ j => simp at hj
  | @row t e ks h hc h0 hf ih =>
    intro fuel cs x hx
    have fin : ∀ (a : Option Addr) (cp : Nat) (L : List (List Tr)), L.length ≤ maxLen → (∀ (i : Nat) (el : List Tr), L[i]? = some el → FitsL el ks ∧ (∀ y ∈ el, Rd W y) ∧ ∀ (j : Nat) (y : Tr), el[j]? = some y → ∃ b off, a = some ⟨b, off, none⟩ ∧ W.cell? ⟨b, off + i * ks.length + j, none⟩ = some y.cell) → FitsL [.row ks.length a cp L] [.row ks] ∧ ∀ y ∈ [Tr.row ks.length a cp L], Rd W y := fun a cp L hmx hL => by
      refine ⟨⟨rfl, fun j y k hj hk => ?_⟩, fun y hy => ?_⟩
      · cases j with
        | zero =>
          simp at hj hk
          subst hj hk
          exact .row (fun i el hi => (hL i el hi).1.1) (fun i j el y k hi hj hk => (hL i el hi).1.2 j y k hj hk)
        | succ j => simp at hj
      · obtain rfl : y = _ := by simpa using hy
        exact .row hmx (fun i el hi => (hL i el hi).1.1) (fun i j el y hi hj => (hL i el hi).2.2 j y hj) (fun i j el y hi hj => (hL i el hi).2.1 y (List.mem_of_getElem? hj))
    rcases DataW.trod_slice h hx with ⟨h1, _⟩ | ⟨a, len, cap, elems, rest, n, _, hcs, -, _, hl, hm, hlen, hel, _, _⟩
    · subst h1
      exact ⟨[.row ks.length none 0 []], rfl, fin none 0 [] (Nat.zero_le _) (fun i el hi => by simp at hi)⟩
    · subst hcs
      have hsp0 : 0 < len → a.spot = none := fun h9 => by
        have h1 := hel 0 h9
        rw [List.getElem?_eq_getElem (by omega), Option.bind_eq_some_iff] at h1
        obtain ⟨cs', hcs', -⟩ := h1
        rw [hc] at hcs'
        obtain ⟨_, hcl, hcell⟩ := World.cells?_some hcs'
        have h2 := hcell 0 h0
        rw [List.getElem?_eq_getElem (by omega)] at h2
        have h3 := World.cell?_spot h2
        simpa [Addr.add] using h3
      have each : ∀ i, i < len → ∃ el : List Tr, FitsL el ks ∧ (∀ y ∈ el, Rd W y) ∧ ∀ (j : Nat) (y : Tr), el[j]? = some y → ∃ b off, some a = some (⟨b, off, none⟩ : Addr) ∧ W.cell? ⟨b, off + i * ks.length + j, none⟩ = some y.cell := fun i hi => by
        have h1 := hel i hi
        rw [List.getElem?_eq_getElem (by omega), Option.bind_eq_some_iff] at h1
        obtain ⟨cs', hcs', ht'⟩ := h1
        obtain ⟨el, hmap, hfit, hrd⟩ := ih n cs' _ ht'
        rw [hc] at hcs'
        obtain ⟨_, hcl, hcell⟩ := World.cells?_some hcs'
        have hell : el.length = ks.length := hfit.1
        have hcj : ∀ (j : Nat) (y : Tr), el[j]? = some y → W.cell? ((a.add (i * ks.length)).add j) = some y.cell := fun j y hj => by
          have hjl := (List.getElem?_eq_some_iff.1 hj).1
          have h2 := hcell j (by omega)
          rw [← hmap, List.getElem?_map, hj] at h2
          exact h2
        have hspot := hsp0 (by omega)
        obtain ⟨ab, ao, asp⟩ := a
        simp only at hspot
        subst hspot
        refine ⟨el, hfit, hrd, fun j y hj => ⟨ab, ao, rfl, ?_⟩⟩
        have h4 := hcj j y hj
        rw [add_noneT, add_noneT] at h4
        exact h4
      obtain ⟨L, hLl, hL⟩ := exists_list _ len each
      exact ⟨[.row ks.length (some a) cap L], by simp [hLl], fin (some a) cap L (by omega) hL⟩
  | @struct t fs kk h hn hc ho hf ih =>
    intro fuel cs x hx
    obtain ⟨xs, n, rfl, -, hl, hlen, hfield⟩ := DataW.trod_struct h hx
    rw [hc] at hl
    have each : ∀ i, i < kk.length → ∃ el : List Tr, ∃ ks f, kk[i]? = some ks ∧ fs[i]? = some f ∧ el.map Tr.cell = (cs.drop f.offset).take ks.length ∧ FitsL el ks ∧ ∀ y ∈ el, Rd W y := fun i hi => by
      have hk := List.getElem?_eq_getElem hi
      have hfi : fs[i]? = some (fs[i]'(by omega)) := Array.getElem?_eq_getElem (by omega)
      have h1 := hfield i _ hfi
      rw [List.getElem?_eq_getElem (l := xs) (i := i) (by omega), (ho i _ _ hfi hk).2] at h1
      obtain ⟨el, h2, h3, h4⟩ := ih i _ _ hfi hk n _ _ h1
      exact ⟨el, _, _, hk, hfi, h2, h3, h4⟩
    obtain ⟨E, hEl, hE⟩ := exists_list _ kk.length each
    have hlens : ∀ (i : Nat) (el : List Tr) (ks : List Ki), E[i]? = some el → kk[i]? = some ks → el.length = ks.length := fun i el ks he hk => by
      obtain ⟨ks', f, hk', _, _, hfit, _⟩ := hE i el he
      rw [hk] at hk'
      obtain rfl := Option.some.inj hk'
      exact hfit.1
    have hpre : ∀ i, (E.take i).flatten.length = (kk.take i).flatten.length := fun i => by
      have e : (E.map List.length) = kk.map List.length := by
        refine List.ext_getElem? fun j => ?_
        rw [List.getElem?_map, List.getElem?_map]
        rcases Nat.lt_or_ge j kk.length with hj | hj
        · have h1 := List.getElem?_eq_getElem hj
          have h2 := List.getElem?_eq_getElem (l := E) (i := j) (by omega)
          rw [h1, h2]
          simp only [Option.map_some]
          rw [hlens j _ _ h2 h1]
        · rw [List.getElem?_eq_none (by omega), List.getElem?_eq_none hj]
          rfl
      rw [List.length_flatten, List.length_flatten, List.map_take, List.map_take, e]
    have hall : E.flatten.length = kk.flatten.length := by
      have h1 := hpre kk.length
      rwa [List.take_of_length_le (by omega), List.take_length] at h1
    refine ⟨E.flatten, ?_, ⟨hall, fun p y k hp hk => ?_⟩, fun y hy => ?_⟩
    · refine List.ext_getElem? fun p => ?_
      rw [List.getElem?_map]
      cases hp : E.flatten[p]? with
      | none =>
        have : E.flatten.length ≤ p := List.getElem?_eq_none_iff.1 hp
        rw [List.getElem?_eq_none (by omega)]
        rfl
      | some y =>
        obtain ⟨i, el, j, h1, h2, rfl⟩ := flatten_at E p y hp
        obtain ⟨ks, f, hk, hfi, hmap, hfit, _⟩ := hE i el h1
        have h3 : (el.map Tr.cell)[j]? = some y.cell := by rw [List.getElem?_map, h2]; rfl
        have hjl := (List.getElem?_eq_some_iff.1 h2).1
        rw [hmap, List.getElem?_take, if_pos (by rw [← hfit.1]; exact hjl), List.getElem?_drop, (ho i f ks hfi hk).1] at h3
        rw [hpre i, h3]
        rfl
    · obtain ⟨i, el, j, h1, h2, rfl⟩ := flatten_at E p y hp
      obtain ⟨ks, f, hk', hfi, hmap, hfit, _⟩ := hE i el h1
      have hjl := (List.getElem?_eq_some_iff.1 h2).1
      rw [hpre i, flatten_get kk i ks j hk' (by rw [← hfit.1]; exact hjl)] at hk
      exact hfit.2 j y k h2 hk
    · obtain ⟨el, hel, hy'⟩ := List.mem_flatten.1 hy
      obtain ⟨i, hi⟩ := List.getElem?_of_mem hel
      obtain ⟨_, _, _, _, _, _, hrd⟩ := hE i el hi
      exact hrd y hy'
end Go.Proofs.YtkjjglnbbahbkaaDoor
