/-
  The source of draws, walked: L1Draw, N.
-/
import Derived.Test.YtdajcpcajdhplaaDoorBase
import Derived.BigQuiet
import Derived.Test.YtdajcpcajdhplaaDoorChecked
namespace Go.Proofs.YtdajcpcajdhplaaDoor
open Go.RowKit

theorem SlB.grownZ {w w' : World} {row : Option Nat} {oa : Option Addr} {len : Nat} {zs : List Nat} (h : SlB w oa len zs) (hg : w.grownBy w' row) (hne : len ≠ 0 → ∀ b off, oa = some ⟨b, off, none⟩ → some b ≠ row) : SlB w' oa len zs := by
  by_cases hz : len = 0
  · subst hz
    exact ⟨h.1, h.2.1, fun h => absurd rfl h⟩
  · exact h.grown hg (hne hz)
/-- block g is a source of draws over the bytes zs -/
def Src (w : World) (g : Nat) (zs : List Nat) : Prop :=
  ∃ (oa : Option Addr) (len cap i x : Nat), w.heap[g]? = some (.cells #[.slice oa len cap, .int .i64 (i : Int), .int .u64 (x : Int)] 58 (0, 0)) ∧ SlB w oa len zs ∧ (len ≠ 0 → ∀ b o, oa = some ⟨b, o, none⟩ → b < g) ∧ i ≤ len ∧ x < 18446744073709551616 ∧ len ≤ 1073741824
theorem Src.lt {w : World} {g : Nat} {zs : List Nat} (h : Src w g zs) : g < w.heap.size := by
  obtain ⟨_, _, _, _, _, hg, _⟩ := h
  exact (Array.getElem?_eq_some_iff.1 hg).1
theorem Src.grown0 {w w' : World} {g : Nat} {zs : List Nat} (h : Src w g zs) (hg : w.grownBy w' none) : Src w' g zs := by
  have hlt := h.lt
  obtain ⟨oa, len, cap, i, x, hb, hs, hn, h1, h2, h3⟩ := h
  exact ⟨oa, len, cap, i, x, (hg.block g hlt (by simp)).trans hb, hs.grown0 hg, hn, h1, h2, h3⟩
theorem Src.grown {w w' : World} {row : Option Nat} {g : Nat} {zs : List Nat} (h : Src w g zs) (hg : w.grownBy w' row) (hr : ∀ r, row = some r → g < r) : Src w' g zs := by
  have hlt := h.lt
  obtain ⟨oa, len, cap, i, x, hb, hs, hn, h1, h2, h3⟩ := h
  exact ⟨oa, len, cap, i, x, (hg.block g hlt (fun e => by have := hr g e.symm; omega)).trans hb, hs.grownZ hg (fun hz b o e e2 => by have := hr b e2.symm; have := hn hz b o e; omega), hn, h1, h2, h3⟩
set_option maxHeartbeats 400000 in
theorem l1Draw_any (oa : Option Addr) (len cap : Nat) (zs : List Nat) (w : World) (hsl : SlB w oa len zs) (hm : len ≤ 1073741824) :
    Calls Tryd.prog 5 #[.slice oa len cap] w fun e w' => ∃ g, e = .returned (.pointer (some ⟨g, 0, none⟩)) ∧ w.heap.size ≤ g ∧ Src w' g zs ∧ w.grownBy w' none := by
  have HS : Hid (SlB w oa len zs) := hsl
  have HI : Hid (len ≠ 0 → ∀ b o, oa = some ⟨b, o, none⟩ → b < w.heap.size) := by
    intro hz b o e
    obtain ⟨b', o', e', hc⟩ := hsl.2.2 hz
    rw [e] at e'
    obtain ⟨rfl, rfl⟩ : b = b' ∧ o = o' := by simpa using e'
    exact cell_block_lt (hc 0 (by omega))
  clear hsl
  go_enter Tryd.func5, Tryd.ntmps5
  go_wp2
  go_ret
  have G := World.grownBy_alloc w (Obj.cells #[Value.slice oa len cap, Value.int IntKind.i64 0, Value.int IntKind.u64 (88172645463325252 + ↑len)] 58) none
  exact ⟨w.heap.size, rfl, Nat.le_refl _, ⟨oa, len, cap, 0, 88172645463325252 + len, (by show (w.heap.push _)[w.heap.size]? = _; simp), HS.out.grown0 G, HI.out, by omega, by omega, hm⟩, G⟩
theorem u64_wrap (z : Int) : ∃ y : Nat, IntKind.u64.wrap z = (y : Int) ∧ y < 18446744073709551616 := by
  have h : IntKind.u64.wrap z = z % 18446744073709551616 := by simp [IntKind.wrap, IntKind.signed, IntKind.bits]
  exact ⟨(z % 18446744073709551616).toNat, by rw [h]; omega, by omega⟩
/-- the draw's number -/
theorem draw_num (y : Nat) (k : Int) (hy : y < 18446744073709551616) (hk : 1 < k) (hk2 : k < 9223372036854775808) : ∃ r : Nat, wrap64 (((y : Int) / 8589934592).tmod k) = (r : Int) ∧ (r : Int) < k := by
  have h1 : (((y : Int) / 8589934592).tmod k) = ((y : Int) / 8589934592) % k := Int.tmod_eq_emod_of_nonneg (by omega)
  have h2 := Int.emod_nonneg ((y : Int) / 8589934592) (show k ≠ 0 by omega)
  have h3 := Int.emod_lt_of_pos ((y : Int) / 8589934592) (show 0 < k by omega)
  rw [h1]
  generalize ((y : Int) / 8589934592) % k = z at *
  refine ⟨z.toNat, ?_, by omega⟩
  have : wrap64 z = z := IntWalk.wrap64_in z (by omega)
  rw [this]
  omega
theorem src_one {w : World} {g : Nat} {zs : List Nat} {oa : Option Addr} {len cap i x : Nat} (hb : w.heap[g]? = some (.cells #[.slice oa len cap, .int .i64 (i : Int), .int .u64 (x : Int)] 58 (0, 0))) (hs : SlB w oa len zs) (hn : len ≠ 0 → ∀ b o, oa = some ⟨b, o, none⟩ → b < g) (hi : i ≤ len) (hm : len ≤ 1073741824) (n y : Nat) (hy : y < 18446744073709551616) :
    Src ((w.drewN n).setCell ⟨g, 2, none⟩ (.int .u64 (y : Int))) g zs ∧ w.grownBy ((w.drewN n).setCell ⟨g, 2, none⟩ (.int .u64 (y : Int))) (some g) := by
  have G : w.grownBy ((w.drewN n).setCell ⟨g, 2, none⟩ (.int .u64 (y : Int))) (some g) := grownBy_setCell ⟨rfl, rfl, rfl, Nat.le_refl _, fun _ _ _ => rfl⟩
  refine ⟨⟨oa, len, cap, i, y, ?_, hs.grownZ G (fun hz b o h => by have := hn hz b o h; simp only [ne_eq, Option.some.injEq]; omega), hn, hi, hy, hm⟩, G⟩
  rw [heap_setCell_same (w.drewN n) g 2 _ _ _ hb]
  rfl
theorem src_two {w : World} {g : Nat} {zs : List Nat} {oa : Option Addr} {len cap i x : Nat} (hb : w.heap[g]? = some (.cells #[.slice oa len cap, .int .i64 (i : Int), .int .u64 (x : Int)] 58 (0, 0))) (hs : SlB w oa len zs) (hn : len ≠ 0 → ∀ b o, oa = some ⟨b, o, none⟩ → b < g) (hi : i < len) (hm : len ≤ 1073741824) (n y : Nat) (hy : y < 18446744073709551616) :
    Src (((w.drewN n).setCell ⟨g, 1, none⟩ (.int .i64 ((i : Int) + 1))).setCell ⟨g, 2, none⟩ (.int .u64 (y : Int))) g zs ∧ w.grownBy (((w.drewN n).setCell ⟨g, 1, none⟩ (.int .i64 ((i : Int) + 1))).setCell ⟨g, 2, none⟩ (.int .u64 (y : Int))) (some g) := by
  have G : w.grownBy (((w.drewN n).setCell ⟨g, 1, none⟩ (.int .i64 ((i : Int) + 1))).setCell ⟨g, 2, none⟩ (.int .u64 (y : Int))) (some g) := grownBy_setCell (grownBy_setCell ⟨rfl, rfl, rfl, Nat.le_refl _, fun _ _ _ => rfl⟩)
  refine ⟨⟨oa, len, cap, i + 1, y, ?_, hs.grownZ G (fun hz b o h => by have := hn hz b o h; simp only [ne_eq, Option.some.injEq]; omega), hn, hi, hy, hm⟩, G⟩
  have h1 := heap_setCell_same (w.drewN n) g 1 _ _ (.int .i64 ((i : Int) + 1)) hb
  rw [heap_setCell_same _ g 2 _ _ _ h1]
  rfl
set_option maxHeartbeats 1000000 in
theorem drawN_any (g : Nat) (k : Int) (zs : List Nat) (w : World) (hs : Src w g zs) (hk : k < 9223372036854775808) (hk0 : -9223372036854775808 ≤ k) :
    Calls Tryd.prog 6 #[.pointer (some ⟨g, 0, none⟩), .int .i64 k] w fun e w' => ∃ r : Nat, e = .returned (.int .i64 (r : Int)) ∧ (k ≤ 1 → r = 0) ∧ (1 < k → (r : Int) < k) ∧ Src w' g zs ∧ w.grownBy w' (some g) := by
  obtain ⟨oa, len, cap, i, x, hb, hs, hn, h1, h2, h3⟩ := hs
  have c0 : w.cell? ⟨g, 0, none⟩ = some (.slice oa len cap) := by simp [World.cell?, hb]
  have c1 : w.cell? ⟨g, 1, none⟩ = some (.int .i64 (i : Int)) := by simp [World.cell?, hb]
  have c2 : w.cell? ⟨g, 2, none⟩ = some (.int .u64 (x : Int)) := by simp [World.cell?, hb]
  have f1 : w.frozen? ⟨g, 1, none⟩ = false := by simp [World.frozen?, hb]
  have f2 : w.frozen? ⟨g, 2, none⟩ = false := by simp [World.frozen?, hb]
  have H1 : Hid (∀ n y : Nat, y < 18446744073709551616 → _ ∧ _) := fun n y hy => src_one hb hs hn h1 h3 n y hy
  have H2 : Hid (i < len → ∀ n y : Nat, y < 18446744073709551616 → _ ∧ _) := fun hi n y hy => src_two hb hs hn hi h3 n y hy
  have HS : Hid (SlB w oa len zs) := hs
  have HN : Hid (len ≠ 0 → ∀ b o, oa = some ⟨b, o, none⟩ → b < g) := hn
  have HQ : Hid (∀ y : Nat, y < 18446744073709551616 → 1 < k → _) := fun y hy h => draw_num y k hy h hk
  clear hs hb hn
  by_cases hlt : i < len
  · obtain ⟨b, off, rfl, hc⟩ := HS.out.2.2 (by omega)
    have hck := hc i hlt
    obtain ⟨c, hce⟩ : ∃ c, c = zs.getD i 0 := ⟨_, rfl⟩
    have hc256 : c < 256 := by
      rw [hce, List.getD_eq_getElem?_getD]
      have hl := HS.out.1
      rw [List.getElem?_eq_getElem (by omega)]
      exact HS.out.2.1 _ (List.getElem_mem _)
    rw [← hce] at hck
    have hbg : b ≠ g := Nat.ne_of_lt (HN.out (by omega) b off rfl)
    clear hc hce
    by_cases hk1 : k ≤ 1
    · go_enter Tryd.func6, Tryd.ntmps6
      go_wp2
      go_quiet (fail)
      go_wp2
      go_quiet (fail)
      go_wp2
      go_ret
      obtain ⟨y, hy, hy2⟩ := u64_wrap (IntKind.u64.wrap (IntKind.u64.wrap (↑x + (↑c + 1)) * 6364136223846793005) + 1442695040888963407)
      rw [hy]
      exact ⟨0, rfl, fun _ => rfl, fun h => by omega, H2.out hlt _ y hy2⟩
    · go_enter Tryd.func6, Tryd.ntmps6
      go_wp2
      go_quiet (fail)
      go_wp2
      go_quiet (fail)
      go_wp2
      go_ret
      obtain ⟨y, hy, hy2⟩ := u64_wrap (IntKind.u64.wrap (IntKind.u64.wrap (↑x + (↑c + 1)) * 6364136223846793005) + 1442695040888963407)
      rw [hy]
      obtain ⟨r, hr, hr2⟩ := HQ.out y hy2 (by omega)
      rw [hr]
      exact ⟨r, rfl, fun h => by omega, fun _ => hr2, H2.out hlt _ y hy2⟩
  · by_cases hk1 : k ≤ 1
    · go_enter Tryd.func6, Tryd.ntmps6
      go_wp2
      go_quiet (fail)
      go_wp2
      go_ret
      obtain ⟨y, hy, hy2⟩ := u64_wrap (IntKind.u64.wrap (↑x * 6364136223846793005) + 1442695040888963407)
      rw [hy]
      exact ⟨0, rfl, fun _ => rfl, fun h => by omega, H1.out _ y hy2⟩
    · go_enter Tryd.func6, Tryd.ntmps6
      go_wp2
      go_quiet (fail)
      go_wp2
      go_ret
      obtain ⟨y, hy, hy2⟩ := u64_wrap (IntKind.u64.wrap (↑x * 6364136223846793005) + 1442695040888963407)
      rw [hy]
      obtain ⟨r, hr, hr2⟩ := HQ.out y hy2 (by omega)
      rw [hr]
      exact ⟨r, rfl, fun h => by omega, fun _ => hr2, H1.out _ y hy2⟩
end Go.Proofs.YtdajcpcajdhplaaDoor
