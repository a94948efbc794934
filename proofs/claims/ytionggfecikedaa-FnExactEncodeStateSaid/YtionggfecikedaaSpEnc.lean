/-
  A state laid down by the model: spec.EncodeState of a service without kept items.
-/
import Derived.Test.YtionggfecikedaaSpValid
import Derived.Test.YtionggfecikedaaStEnc
import Derived.Test.YtionggfecikedaaItemEnc
namespace Go.Proofs.Ytionggfecikedaa
open Go.RowKit

theorem l2Put8 (V : Nat) (w : World) (hV : V ≤ 4611686018427387904) :
    Calls Try.prog 45 #[.int .i64 (V : Int), .int .i64 8] w fun e w' => ∃ g cap, e = .returned (.slice (some ⟨g, 0, none⟩) 8 cap) ∧ w'.ownsRow w.heap.size 5 1 (.slice (some ⟨g, 0, none⟩) 8 cap) 8 ((leN V 8).map bv) ∧ w.grownBy w' none := by
  refine (l2Put_any V 8 w hV (by decide)).mono ?_
  rintro e w' ⟨v, rfl, hown, hG⟩
  rcases hown.2 with ⟨_, h0⟩ | ⟨g, cap, cur, rfl, _⟩
  · cases h0
  · exact ⟨g, cap, rfl, hown, hG⟩
theorem put2x8 (W : World) (b : Nat) (c0 c1 c2 : Value) (hb : b < W.heap.size) (k0 : W.cell? ⟨b, 0, none⟩ = some c0) (k1 : W.cell? ⟨b, 1, none⟩ = some c1) (k2 : W.cell? ⟨b, 2, none⟩ = some c2) :
    ∀ (V1 : Nat) X, V1 ≤ 4611686018427387904 → Same W X → Calls Try.prog 45 #[.int .i64 (V1 : Int), .int .i64 8] X fun e w1 => ∃ g1 p1, e = .returned (.slice (some ⟨g1, 0, none⟩) 8 p1) ∧ (w1.cell? ⟨b, 0, none⟩ = some c0 ∧ w1.cell? ⟨b, 1, none⟩ = some c1 ∧ w1.cell? ⟨b, 2, none⟩ = some c2) ∧
      Hid (∀ (V2 : Nat) Y, V2 ≤ 4611686018427387904 → Same w1 Y → Calls Try.prog 45 #[.int .i64 (V2 : Int), .int .i64 8] Y fun e w2 => ∃ g2 p2, e = .returned (.slice (some ⟨g2, 0, none⟩) 8 p2) ∧ (w2.cell? ⟨b, 0, none⟩ = some c0 ∧ w2.cell? ⟨b, 1, none⟩ = some c1 ∧ w2.cell? ⟨b, 2, none⟩ = some c2) ∧
        Hid (w2.ownsRow W.heap.size 5 1 (.slice (some ⟨g1, 0, none⟩) 8 p1) 8 ((leN V1 8).map bv)) ∧ Hid (w2.ownsRow W.heap.size 5 1 (.slice (some ⟨g2, 0, none⟩) 8 p2) 8 ((leN V2 8).map bv)) ∧ Hid (W.grownBy w2 none)) := by
  intro V1 X h1 hX
  have G0 : W.grownBy X none := grownBy_same (grownBy_refl _ _) hX
  refine (l2Put8 V1 X h1).mono ?_
  rintro e w1 ⟨g1, p1, rfl, hown1, hG1⟩
  have G1 := grownBy_trans G0 hG1
  refine ⟨g1, p1, rfl, ⟨((bcell G1).1 _ _ hb).trans k0, ((bcell G1).1 _ _ hb).trans k1, ((bcell G1).1 _ _ hb).trans k2⟩, fun V2 Y h2 hY => ?_⟩
  have G2 := grownBy_same G1 hY
  refine (l2Put8 V2 Y h2).mono ?_
  rintro e w2 ⟨g2, p2, rfl, hown2, hG2⟩
  have G3 := grownBy_trans G2 hG2
  have hz := G0.size
  have hz2 := G2.size
  refine ⟨g2, p2, rfl, ⟨((bcell G3).1 _ _ hb).trans k0, ((bcell G3).1 _ _ hb).trans k1, ((bcell G3).1 _ _ hb).trans k2⟩, ?_, ownsRow_base hown2 hz2, G3⟩
  exact World.ownsRow.kept (ownsRow_heap (ownsRow_base hown1 hz) hY.1) hG2 (.inr (by simp [Value.ownBlock]))
def BoxV (w : World) (p b : Nat) (v : Value) : Prop := w.cell? ⟨p, 0, none⟩ = some (.int .i64 (b : Int)) ∧ w.cell? ⟨p, 1, none⟩ = some (.slice none 0 0) ∧ w.cell? ⟨p, 2, none⟩ = some v
/-- what stands at a round's head -/
structure ES (w wl : World) (p b D : Nat) (v : Value) (g n cp : Nat) (zs : List Nat) : Prop where
  grown : w.grownBy wl none
  box : BoxV wl p b v
  row : wl.ownsRow D 5 1 (.slice (some ⟨g, 0, none⟩) n cp) n (zs.map bv)
  hp : p < D
  hw : w.heap.size ≤ D
  hD : D ≤ wl.heap.size
  len : zs.length = n
theorem ES.more {w wl wx : World} {p b D : Nat} {v : Value} {g n cp : Nat} {zs : List Nat} (h : ES w wl p b D v g n cp zs) (hg : wl.grownBy wx none) : ES w wx p b D v g n cp zs := by
  have hpl : p < wl.heap.size := Nat.lt_of_lt_of_le h.hp h.hD
  obtain ⟨hc, -⟩ := bcell hg
  exact ⟨grownBy_trans h.grown hg, ⟨(hc _ _ hpl).trans h.box.1, (hc _ _ hpl).trans h.box.2.1, (hc _ _ hpl).trans h.box.2.2⟩, World.ownsRow.kept h.row hg (.inr (by simp [Value.ownBlock])), h.hp, h.hw, Nat.le_trans h.hD hg.size, h.len⟩
theorem ES.app {w wl wx : World} {p b D : Nat} {v : Value} {g n cp g' n' cp' : Nat} {zs zs' : List Nat} (h : ES w wl p b D v g n cp zs) (hown : wx.ownsRow D 5 1 (.slice (some ⟨g', 0, none⟩) n' cp') n' (zs'.map bv)) (hg : wl.grownBy wx (some g)) : ES w wx p b D v g' n' cp' zs' := by
  have hpl : p < wl.heap.size := Nat.lt_of_lt_of_le h.hp h.hD
  have hgD := (h.row.lt g rfl).1
  have hpg : p ≠ g := by have := h.hp; omega
  exact ⟨grownBy_new h.grown hg (Nat.le_trans h.hw hgD), ⟨keep_far hg hpl hpg h.box.1, keep_far hg hpl hpg h.box.2.1, keep_far hg hpl hpg h.box.2.2⟩, hown, h.hp, h.hw, Nat.le_trans h.hD hg.size, by simpa using hown.1⟩
end Go.Proofs.Ytionggfecikedaa
