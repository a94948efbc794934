/-
  FnSessions: the two looks through the items given.
-/
import Derived.Test.YtdajcpcajdhplaaDoorSesInv
namespace Go.Proofs.YtdajcpcajdhplaaDoor
open Go.RowKit

def StaleTo (G : List El) (c q : Int) (j : Nat) (b : Bool) : Prop := b = true ↔ ∃ (i : Nat) (y : El), i < j ∧ G[i]? = some y ∧ y.c = c ∧ q ≤ y.q
def PlaceTo (G : List El) (x : El) (j p : Nat) : Prop := (p = G.length ∧ ∀ (i : Nat) (y : El), i < j → G[i]? = some y → ¬ same3 x y) ∨ ∃ y, p < j ∧ G[p]? = some y ∧ same3 x y
def OverTo (G : List El) (c q : Int) (j p1 p2 : Nat) : Prop := (p2 = G.length ∧ ∃ (i : Nat) (y : El), i < j ∧ G[i]? = some y ∧ y.c = c ∧ q < y.q) ∨ (p2 = p1 ∧ ∀ (i : Nat) (y : El), i < j → G[i]? = some y → y.c = c → ¬ q < y.q)
theorem lt_succ_or {i j : Nat} (h : i < j + 1) : i < j ∨ i = j := by omega
theorem StaleTo.zero (G : List El) (c q : Int) : StaleTo G c q 0 false := by
  refine ⟨(fun h => by cases h), (fun ⟨i, y, h, _⟩ => by omega)⟩
theorem StaleTo.yes {G : List El} {c q : Int} {j : Nat} {y : El} (hy : G[j]? = some y) (h1 : y.c = c) (h2 : q ≤ y.q) : StaleTo G c q (j + 1) true := ⟨fun _ => ⟨j, y, by omega, hy, h1, h2⟩, fun _ => rfl⟩
theorem StaleTo.no {G : List El} {c q : Int} {j : Nat} {b : Bool} {y : El} (h : StaleTo G c q j b) (hy : G[j]? = some y) (hn : ¬ (y.c = c ∧ q ≤ y.q)) : StaleTo G c q (j + 1) b := by
  refine ⟨fun hb => ?_, fun ⟨i, z, hi, hz, h1, h2⟩ => ?_⟩
  · obtain ⟨i, z, hi, hz⟩ := h.1 hb
    exact ⟨i, z, by omega, hz⟩
  · rcases lt_succ_or hi with hi | rfl
    · exact h.2 ⟨i, z, hi, hz, h1, h2⟩
    · rw [hy] at hz; obtain rfl := Option.some.inj hz; exact absurd ⟨h1, h2⟩ hn
theorem PlaceTo.zero (G : List El) (x : El) : PlaceTo G x 0 G.length := .inl ⟨rfl, fun i y h => by omega⟩
theorem PlaceTo.yes {G : List El} {x y : El} {j : Nat} (hy : G[j]? = some y) (hs : same3 x y) : PlaceTo G x (j + 1) j := .inr ⟨y, by omega, hy, hs⟩
theorem PlaceTo.no {G : List El} {x y : El} {j p : Nat} (h : PlaceTo G x j p) (hy : G[j]? = some y) (hs : ¬ same3 x y) : PlaceTo G x (j + 1) p := by
  rcases h with ⟨h1, h2⟩ | ⟨z, h1, h2⟩
  · refine .inl ⟨h1, fun i z hi hz => ?_⟩
    rcases lt_succ_or hi with hi | rfl
    · exact h2 i z hi hz
    · rw [hy] at hz; obtain rfl := Option.some.inj hz; exact hs
  · exact .inr ⟨z, by omega, h2⟩
theorem OverTo.zero (G : List El) (c q : Int) (p : Nat) : OverTo G c q 0 p p := .inr ⟨rfl, fun i y h => by omega⟩
theorem OverTo.yes {G : List El} {c q : Int} {j p1 : Nat} {y : El} (hy : G[j]? = some y) (h1 : y.c = c) (h2 : q < y.q) : OverTo G c q (j + 1) p1 G.length := .inl ⟨rfl, j, y, by omega, hy, h1, h2⟩
theorem OverTo.no {G : List El} {c q : Int} {j p1 p2 : Nat} {y : El} (h : OverTo G c q j p1 p2) (hy : G[j]? = some y) (hn : ¬ (y.c = c ∧ q < y.q)) : OverTo G c q (j + 1) p1 p2 := by
  rcases h with ⟨h1, i, z, hi, hz⟩ | ⟨h1, h2⟩
  · exact .inl ⟨h1, i, z, by omega, hz⟩
  · refine .inr ⟨h1, fun i z hi hz hc hq => ?_⟩
    rcases lt_succ_or hi with hi | rfl
    · exact h2 i z hi hz hc hq
    · rw [hy] at hz; obtain rfl := Option.some.inj hz; exact hn ⟨hc, hq⟩
/-- an item of a row -/
theorem row_get2 {w : World} {base n cap : Nat} {og : Option Addr} {G : List El} (h : w.ownsRow base 32 3 (.slice og n cap) n (G.flatMap El.cells)) (hn : G.length = n) (hds : ∀ x ∈ G, x.hd.length = 2) {j : Nat} {y : El} (hy : G[j]? = some y) :
    ∃ (gr : Nat) (n0 n1 : Int), og = some ⟨gr, 0, none⟩ ∧ y.hd = [n0, n1] ∧ w.cell? ⟨gr, j * 3, none⟩ = some (.int .i64 n0) ∧ w.cell? ⟨gr, j * 3 + 1, none⟩ = some (.int .i64 n1) ∧ w.cell? ⟨gr, j * 3 + 2, none⟩ = some (.slice (oad y.o) y.d.length y.cp) := by
  have hjn := (List.getElem?_eq_some_iff.1 hy).1
  obtain ⟨n0, n1, hhd⟩ : ∃ n0 n1, y.hd = [n0, n1] := by
    have := hds y (List.mem_of_getElem? hy)
    match y.hd, this with
    | [a, b], _ => exact ⟨a, b, rfl⟩
  rcases h.2 with ⟨_, h0⟩ | ⟨g, cap', cur, h0, _, hg, _, _, hs, htake⟩
  · omega
  · simp only [Value.slice.injEq] at h0
    have hc : ∀ (i : Nat) (v : Value), i < 3 → y.cells[i]? = some v → w.cell? ⟨g, j * 3 + i, none⟩ = some v := fun i v hi hv => by
      have h1 := elflat_get 2 G hds j y i hy hi
      rw [hv, ← htake, List.getElem?_take, if_pos (by omega), Array.getElem?_toList] at h1
      simp [World.cell?, hg, h1]
    have hcs : y.cells = [.int .i64 n0, .int .i64 n1, .slice (oad y.o) y.d.length y.cp] := by simp [El.cells, hhd]
    exact ⟨g, n0, n1, h0.1, hhd, hc 0 _ (by omega) (by rw [hcs]; rfl), hc 1 _ (by omega) (by rw [hcs]; rfl), hc 2 _ (by omega) (by rw [hcs]; rfl)⟩
theorem judge_to {G K S : List El} {x : El} {zs : List Nat} {pl c : Int} {KK SS : List (List Int × List Nat)} {st : Bool} {p1 p2 : Nat} (h : Kn G S) (hK : K.map El.tell = G.map El.tell) (hn : G.length < 1000000) (hx : okE x) (hxl : x.hd = [x.c, x.q]) (hd : decGood zs) (h1 : (decCl zs : Int) = x.c) (h2 : (decSq zs : Int) = x.q) (h3 : zs.drop 8 = x.d)
    (ha : ApSays 0 K S zs pl c KK SS) (hst : StaleTo G x.c x.q G.length st) (hp1 : PlaceTo G x G.length p1) (hp2 : OverTo G x.c x.q G.length p1 p2) :
    (c = 4 ∧ pl = 0 ∧ st = true ∧ p2 = G.length ∧ KK = G.map El.tell ∧ SS = S.map El.tell) ∨ (c = 0 ∧ pl = (p2 : Int) ∧ st = true ∧ p2 ≠ G.length ∧ KK = G.map El.tell ∧ SS = S.map El.tell) ∨
      (c = 0 ∧ pl = (G.length : Int) ∧ st = false ∧ p2 = G.length ∧ KK = (G ++ [x]).map El.tell ∧ ∃ S', SS = S'.map El.tell ∧ Kn (G ++ [x]) S') := by
  have lt : ∀ {i : Nat} {y : El}, G[i]? = some y → i < G.length := fun h => (List.getElem?_eq_some_iff.1 h).1
  refine judge (p1 := p1) h hK hn hx hxl hd h1 h2 h3 ha ⟨fun hb => ?_, fun ⟨j, y, hy⟩ => hst.2 ⟨j, y, lt hy.1, hy⟩⟩ ?_ ?_
  · obtain ⟨j, y, _, hy⟩ := hst.1 hb
    exact ⟨j, y, hy⟩
  · rcases hp1 with ⟨e, hno⟩ | ⟨y, _, hy⟩
    · exact .inl ⟨e, fun j y hy => hno j y (lt hy) hy⟩
    · exact .inr ⟨y, hy⟩
  · rcases hp2 with ⟨e, j, y, _, hy⟩ | ⟨e, hno⟩
    · exact .inl ⟨e, j, y, hy⟩
    · exact .inr ⟨e, fun j y hy hc => hno j y (lt hy) hy hc⟩
theorem svz3 {W : World} {k : Nat} (h : W.heap[k]? = some (.cells #[.int .i64 0, .slice none 0 0, .slice none 0 0] 28 (0, 0))) : (W.cell? ⟨k, 0, none⟩ = some (.int .i64 0) ∧ W.cell? ⟨k, 1, none⟩ = some (.slice none 0 0) ∧ W.cell? ⟨k, 2, none⟩ = some (.slice none 0 0)) ∧ W.frozen? ⟨k, 0, none⟩ = false ∧ W.frozen? ⟨k, 1, none⟩ = false ∧ W.frozen? ⟨k, 2, none⟩ = false := by
  simp [World.cell?, World.frozen?, h]
/-- what Apply left, in a variable of its own -/
def NextAt (wr wx : World) (v : Sv) (ys : List Nat) (p a b : Value) : Prop :=
  ∃ (bn : Nat) (r : Sv) (pl c : Int), p = .pointer (some ⟨bn, 0, none⟩) ∧ a = .int .i64 pl ∧ b = .int .i64 c ∧ r.b = 0 ∧ ApSays 0 v.K v.S ys pl c (r.K.map El.tell) (r.S.map El.tell) ∧ wx.heap[bn]? = some (svObj r) ∧ SvFull wx r ∧ (∀ k, SvB r k → wr.heap.size ≤ k) ∧ wr.grownBy wx none ∧ wr.heap.size ≤ bn
theorem next_alloc {wr X w3 : World} {v r : Sv} {ys : List Nat} {pl c : Int} (hX : wr.grownBy X none) (h : r.b = 0 ∧ ApSays 0 v.K v.S ys pl c (r.K.map El.tell) (r.S.map El.tell) ∧ SvFull w3 r ∧ (∀ k, SvB r k → X.heap.size ≤ k) ∧ X.grownBy w3 none) :
    NextAt wr (w3.alloc (.cells #[.int .i64 r.b, .slice r.ko r.K.length r.kc, .slice r.so r.S.length r.sc] 28)) v ys (.pointer (some ⟨w3.heap.size, 0, none⟩)) (.int .i64 pl) (.int .i64 c) := by
  have G3 := grownBy_trans hX h.2.2.2.2
  have GA := World.grownBy_alloc w3 (.cells #[.int .i64 r.b, .slice r.ko r.K.length r.kc, .slice r.so r.S.length r.sc] 28) none
  exact ⟨_, r, pl, c, rfl, rfl, rfl, h.1, h.2.1, heap_alloc_new w3 _, h.2.2.1.grown0 GA, fun k hk => Nat.le_trans hX.size (h.2.2.2.1 k hk), grownBy_trans G3 GA, G3.size⟩
theorem next_set {wr X w3 : World} {v r : Sv} {ys : List Nat} {pl c : Int} {k : Nat} (hX : wr.grownBy X none) (h : r.b = 0 ∧ ApSays 0 v.K v.S ys pl c (r.K.map El.tell) (r.S.map El.tell) ∧ SvFull w3 r ∧ (∀ k, SvB r k → X.heap.size ≤ k) ∧ X.grownBy w3 none) (hk : w3.heap[k]? = some (.cells #[.int .i64 0, .slice none 0 0, .slice none 0 0] 28 (0, 0))) (hlo : wr.heap.size ≤ k) :
    NextAt wr (((w3.setCell ⟨k, 0, none⟩ (.int .i64 r.b)).setCell ⟨k, 1, none⟩ (.slice r.ko r.K.length r.kc)).setCell ⟨k, 2, none⟩ (.slice r.so r.S.length r.sc)) v ys (.pointer (some ⟨k, 0, none⟩)) (.int .i64 pl) (.int .i64 c) := by
  have G3 := grownBy_trans hX h.2.2.2.2
  have O : Only (fun j => j = k) w3 (((w3.setCell ⟨k, 0, none⟩ (.int .i64 r.b)).setCell ⟨k, 1, none⟩ (.slice r.ko r.K.length r.kc)).setCell ⟨k, 2, none⟩ (.slice r.so r.S.length r.sc)) := (((Only.refl (fun j => j = k) w3).set k 0 _ rfl).set k 1 _ rfl).set k 2 _ rfl
  refine ⟨k, r, pl, c, rfl, rfl, rfl, h.1, h.2.1, heap_setCell_same _ _ 2 _ _ _ (heap_setCell_same _ _ 1 _ _ _ (heap_setCell_same _ _ 0 _ _ _ hk)), h.2.2.1.apart O (fun j hj e => ?_), fun j hj => Nat.le_trans hX.size (h.2.2.2.1 j hj), grownBy_setNew (grownBy_setNew (grownBy_setNew G3 hlo) hlo) hlo, hlo⟩
  subst e
  exact h.2.2.1.at_.notB hk (by decide) (by decide) (by decide) hj
end Go.Proofs.YtdajcpcajdhplaaDoor
