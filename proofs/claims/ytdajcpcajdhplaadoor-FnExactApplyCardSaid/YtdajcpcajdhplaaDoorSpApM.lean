/-
  The model's Apply: what its walk of a good item needs.
-/
import Derived.Test.YtdajcpcajdhplaaDoorSpAp2
import Derived.Test.YtdajcpcajdhplaaDoorAp6
namespace Go.Proofs.YtdajcpcajdhplaaDoor
open Go.RowKit

theorem ElRow.at {w : World} {base m : Nat} {t : TypeId} {oa : Option Addr} {n cap : Nat} {L : List El} (h : ElRow w base t m (.slice oa n cap) L) {i : Nat} {x : El} (hx : L[i]? = some x) : ∃ g, oa = some ⟨g, 0, none⟩ ∧ ElAt w t m g L := by
  obtain ⟨oa', cap', e, ho, -, -, -⟩ := h.elO
  simp only [Value.slice.injEq] at e
  obtain ⟨rfl, -, rfl⟩ := e
  rcases ho with ⟨_, _, h0⟩ | h
  · rw [h0] at hx; simp at hx
  · exact h
theorem drew_cell (X : World) (a : Addr) : X.drew.cell? a = X.cell? a := rfl
theorem set3_cell {X : World} {a c q : Nat} {u0 u1 u2 v : Value} (h : X.cell? ⟨c, q, none⟩ = some v) (hne : c ≠ a) : (((X.setCell ⟨a, 0, none⟩ u0).setCell ⟨a, 1, none⟩ u1).setCell ⟨a, 2, none⟩ u2).drew.cell? ⟨c, q, none⟩ = some v := by
  rw [drew_cell, cell_set_ne _ _ _ _ _ _ hne, cell_set_ne _ _ _ _ _ _ hne, cell_set_ne _ _ _ _ _ _ hne]
  exact h
theorem set3_cell' {X : World} {a c q : Nat} {u0 u1 u2 v : Value} (h : X.cell? ⟨c, q, none⟩ = some v) (hne : c ≠ a) : (((X.setCell ⟨a, 0, none⟩ u0).setCell ⟨a, 1, none⟩ u1).setCell ⟨a, 2, none⟩ u2).cell? ⟨c, q, none⟩ = some v := by
  rw [cell_set_ne _ _ _ _ _ _ hne, cell_set_ne _ _ _ _ _ _ hne, cell_set_ne _ _ _ _ _ _ hne]
  exact h
theorem ApPost.same {s : Sv} {zs : List Nat} {w X Y : World} {e : Ending} (h : ApPost s zs w e X) (hs : Same X Y) : ApPost s zs w e Y := by
  obtain ⟨q, r, pl, c, h1, h2, h3, h4, h5, h6, h7⟩ := h
  exact ⟨q, r, pl, c, h1, h2, h3, h4, h5.grown0 (grownBy_same (grownBy_refl _ _) hs), h6, grownBy_same h7 hs⟩
/-- .. and the item read -/
structure AI (s : Sv) (w wl : World) (vk vs : Value) (K S : List El) (ix gx n cx : Nat) (cl sq : Int) (dd : List Nat) : Prop where
  ac : AC s w wl vk vs K S
  it : wl.heap[ix]? = some (.cells #[.int .i64 cl, .int .i64 sq, .slice (some ⟨gx, 0, none⟩) n cx] 32 (0, 0))
  xo : Own wl 5 gx dd
  xl : dd.length = n
  lo : w.heap.size + 2 ≤ gx ∧ w.heap.size + 2 ≤ ix
  nk : gx ∉ K.filterMap El.o ∧ gx ∉ S.filterMap El.o
  ni : vk.ownBlock ≠ some ix
theorem AI.more {s : Sv} {w wl wx : World} {vk vs : Value} {K S : List El} {ix gx n cx : Nat} {cl sq : Int} {dd : List Nat} (h : AI s w wl vk vs K S ix gx n cx cl sq dd) (hg : wl.grownBy wx none) : AI s w wx vk vs K S ix gx n cx cl sq dd :=
  ⟨h.ac.more hg, (hg.block _ (Array.getElem?_eq_some_iff.1 h.it).1 (by simp)).trans h.it, h.xo.grown hg (by simp), h.xl, h.lo, h.nk, h.ni⟩
theorem AI.itC {s : Sv} {w wl : World} {vk vs : Value} {K S : List El} {ix gx n cx : Nat} {cl sq : Int} {dd : List Nat} (h : AI s w wl vk vs K S ix gx n cx cl sq dd) : wl.cell? ⟨ix, 0, none⟩ = some (.int .i64 cl) ∧ wl.cell? ⟨ix, 1, none⟩ = some (.int .i64 sq) ∧ wl.cell? ⟨ix, 2, none⟩ = some (.slice (some ⟨gx, 0, none⟩) n cx) := by
  have := h.it
  simp [World.cell?, this]
theorem risesE_len (S : List El) (m : Int) : ∀ b, b ≤ m → risesE b S → (∀ x ∈ S, x.c ≤ m) → (S.length : Int) ≤ m - b := by
  induction S with
  | nil => intro b hb _ _; simp; omega
  | cons y S ih =>
    intro b hb h hm
    have h1 := ih y.c (hm y (by simp)) h.2 (fun x hx => hm x (by simp [hx]))
    have h2 := h.1
    simp only [List.length_cons]
    omega
/-- a valid service's copy -/
theorem ac_bounds {s : Sv} {w wl : World} {vk vs : Value} {K S : List El} (h : AC s w wl vk vs K S) (hv : ValidV s.b s.K s.S) : 0 ≤ s.b ∧ s.b ≤ 1000000 ∧ K.length ≤ 1000000 ∧ S.length ≤ 50 ∧ risesE 0 S ∧ (∀ x ∈ S, x.c ≤ 50) := by
  have hk : K.length = s.K.length := by have := congrArg List.length h.tk; simpa using this
  have hr := risesE_tell S s.S 0 h.ts hv.2.2.2.2.2
  have h50 : ∀ x ∈ S, x.c ≤ 50 := fun x hx => by
    obtain ⟨i, hi⟩ := List.getElem?_of_mem hx
    obtain ⟨y, hy, ht⟩ := tell_get h.ts hi
    have h1 := (hv.2.2.2.2.1 y (List.mem_of_getElem? hy)).1
    unfold okE itemOk at h1
    have h2 := (tell_eq ht).1
    omega
  have hl := risesE_len S 50 0 (by omega) hr h50
  exact ⟨hv.1, hv.2.1, by rw [hk]; exact hv.2.2.1, by omega, hr, h50⟩
/-- the item's session, laid -/
def MineLaid (W wx : World) (p : Value) (cl sq ct : Int) (n : Nat) (dd : List Nat) : Prop :=
  ∃ im gd cd, p = .pointer (some ⟨im, 0, none⟩) ∧ wx.heap[im]? = some (.cells #[.int .i64 cl, .int .i64 sq, .int .i64 ct, .slice (some ⟨gd, 0, none⟩) n cd] 74 (0, 0)) ∧ W.heap.size ≤ im ∧ W.heap.size ≤ gd ∧ Own wx 5 gd dd ∧ W.grownBy wx none
theorem mineLaid_alloc (W w3 : World) (g3 c3 n : Nat) (cl sq ct : Int) (dd : List Nat) (hg : W.heap.size ≤ g3) (hO : Own w3 5 g3 dd) (hG : W.grownBy w3 none) :
    MineLaid W (w3.alloc (.cells #[.int .i64 cl, .int .i64 sq, .int .i64 ct, .slice (some ⟨g3, 0, none⟩) n c3] 74)) (.pointer (some ⟨w3.heap.size, 0, none⟩)) cl sq ct n dd :=
  ⟨w3.heap.size, g3, c3, rfl, heap_alloc_new _ _, hG.size, hg, hO.grown (World.grownBy_alloc _ _ none) (by simp), grownBy_alloc hG _⟩
theorem mineLaid_set (W w3 : World) (k g3 c3 n : Nat) (cl sq ct : Int) (dd : List Nat) (hk : W.heap.size ≤ k) (hg : W.heap.size ≤ g3) (hne : k ≠ g3) (hkb : w3.heap[k]? = some (.cells #[.int .i64 0, .int .i64 0, .int .i64 0, .slice none 0 0] 74 (0, 0))) (hO : Own w3 5 g3 dd) (hG : W.grownBy w3 none) :
    MineLaid W ((((w3.setCell ⟨k, 0, none⟩ (.int .i64 cl)).setCell ⟨k, 1, none⟩ (.int .i64 sq)).setCell ⟨k, 2, none⟩ (.int .i64 ct)).setCell ⟨k, 3, none⟩ (.slice (some ⟨g3, 0, none⟩) n c3)) (.pointer (some ⟨k, 0, none⟩)) cl sq ct n dd := by
  have h1 := heap_setCell_same w3 k 0 _ _ (.int .i64 cl) hkb
  have h2 := heap_setCell_same _ k 1 _ _ (.int .i64 sq) h1
  have h3 := heap_setCell_same _ k 2 _ _ (.int .i64 ct) h2
  have h4 := heap_setCell_same _ k 3 _ _ (.slice (some ⟨g3, 0, none⟩) n c3) h3
  have hn : g3 ≠ k := hne.symm
  exact ⟨k, g3, c3, rfl, h4.trans rfl, hk, hg, (((hO.setOther hn).setOther hn).setOther hn).setOther hn, grownBy_setNew (grownBy_setNew (grownBy_setNew (grownBy_setNew hG hk) hk) hk) hk⟩
theorem far4 {X w3 : World} {g k : Nat} {a b c d : Value} {t : TypeId} (hgr : X.grownBy w3 (some g)) (hne : k ≠ g) (hb : X.heap[k]? = some (.cells #[a, b, c, d] t (0, 0))) :
    w3.heap[k]? = some (.cells #[a, b, c, d] t (0, 0)) ∧ w3.cell? ⟨k, 0, none⟩ = some a ∧ w3.cell? ⟨k, 1, none⟩ = some b ∧ w3.cell? ⟨k, 2, none⟩ = some c ∧ w3.cell? ⟨k, 3, none⟩ = some d ∧ w3.frozen? ⟨k, 0, none⟩ = false ∧ w3.frozen? ⟨k, 1, none⟩ = false ∧ w3.frozen? ⟨k, 2, none⟩ = false ∧ w3.frozen? ⟨k, 3, none⟩ = false := by
  have hk := (Array.getElem?_eq_some_iff.1 hb).1
  have h := (hgr.block k hk (by simpa using hne)).trans hb
  simp [World.cell?, World.frozen?, h]
/-- the item is kept: what lies then -/
structure AK (s : Sv) (w wl : World) (vk vs : Value) (K S : List El) (ix gx n cx : Nat) (cl sq : Int) (dd : List Nat) : Prop where
  cd : CD w wl w.heap.size (w.heap.size + 2) s.b vk vs (K ++ [⟨[cl, sq], dd, some gx, cx⟩]) S
  res : wl.heap[w.heap.size + 1]? = some (.cells #[.int .i64 0, .slice none 0 0, .slice none 0 0] 28 (0, 0))
  it : wl.heap[ix]? = some (.cells #[.int .i64 cl, .int .i64 sq, .slice (some ⟨gx, 0, none⟩) n cx] 32 (0, 0))
  xo : Own wl 5 gx dd
  xl : dd.length = n
  tk : K.map El.tell = s.K.map El.tell
  ts : S.map El.tell = s.S.map El.tell
theorem AK.more {s : Sv} {w wl wx : World} {vk vs : Value} {K S : List El} {ix gx n cx : Nat} {cl sq : Int} {dd : List Nat} (h : AK s w wl vk vs K S ix gx n cx cl sq dd) (hg : wl.grownBy wx none) : AK s w wx vk vs K S ix gx n cx cl sq dd :=
  ⟨h.cd.more hg, (hg.block _ (Array.getElem?_eq_some_iff.1 h.res).1 (by simp)).trans h.res, (hg.block _ (Array.getElem?_eq_some_iff.1 h.it).1 (by simp)).trans h.it, h.xo.grown hg (by simp), h.xl, h.tk, h.ts⟩
theorem AK.itC {s : Sv} {w wl : World} {vk vs : Value} {K S : List El} {ix gx n cx : Nat} {cl sq : Int} {dd : List Nat} (h : AK s w wl vk vs K S ix gx n cx cl sq dd) : wl.cell? ⟨ix, 0, none⟩ = some (.int .i64 cl) ∧ wl.cell? ⟨ix, 1, none⟩ = some (.int .i64 sq) ∧ wl.cell? ⟨ix, 2, none⟩ = some (.slice (some ⟨gx, 0, none⟩) n cx) := by
  have := h.it
  simp [World.cell?, this]
theorem AK.resC {s : Sv} {w wl : World} {vk vs : Value} {K S : List El} {ix gx n cx : Nat} {cl sq : Int} {dd : List Nat} (h : AK s w wl vk vs K S ix gx n cx cl sq dd) : (wl.cell? ⟨w.heap.size + 1, 0, none⟩ = some (.int .i64 0) ∧ wl.cell? ⟨w.heap.size + 1, 1, none⟩ = some (.slice none 0 0) ∧ wl.cell? ⟨w.heap.size + 1, 2, none⟩ = some (.slice none 0 0)) ∧ wl.frozen? ⟨w.heap.size + 1, 0, none⟩ = false ∧ wl.frozen? ⟨w.heap.size + 1, 1, none⟩ = false ∧ wl.frozen? ⟨w.heap.size + 1, 2, none⟩ = false := by
  have := h.res
  simp [World.cell?, World.frozen?, this]
theorem AI.keep {s : Sv} {w wl wx wa : World} {vk vs v' : Value} {K S : List El} {ix gx n cx : Nat} {cl sq : Int} {dd : List Nat} (h : AI s w wl vk vs K S ix gx n cx cl sq dd) (hx : wl.grownBy wx none)
    (hown : wa.ownsRow (w.heap.size + 2) 32 3 v' (K.length + 1) (K.flatMap El.cells ++ [.int .i64 cl, .int .i64 sq, .slice (some ⟨gx, 0, none⟩) n cx])) (hg : wx.grownBy wa vk.ownBlock) : AK s w (wa.setCell ⟨w.heap.size, 1, none⟩ v') v' vs K S ix gx n cx cl sq dd := by
  have hX := h.more hx
  have hzo : ElOwn wx (w.heap.size + 2) 2 ⟨[cl, sq], dd, some gx, cx⟩ := ⟨rfl, hX.xo.s rfl, by simp, fun g e => by simp only [Option.some.injEq] at e; have := h.lo.1; omega⟩
  have hcd := hX.ac.cd.putK ⟨[cl, sq], dd, some gx, cx⟩ hzo (fun g e => by simp only [Option.some.injEq] at e; subst e; exact h.nk) (by simpa [El.cells, h.xl, oad] using hown) hg
  have hset : wa.grownBy (wa.setCell ⟨w.heap.size, 1, none⟩ v') (some w.heap.size) := grownBy_setCell (grownBy_refl _ _)
  have hlo := h.lo
  have hil := (Array.getElem?_eq_some_iff.1 hX.it).1
  refine ⟨hcd, ?_, ?_, ?_, h.xl, h.ac.tk, h.ac.ts⟩
  · exact (hX.ac.cd.restK hg (by omega) (by omega) (Array.getElem?_eq_some_iff.1 hX.ac.res).1).trans hX.ac.res
  · exact (heap_setCell_other _ _ _ _ (by show ix ≠ w.heap.size; omega)).trans ((hg.block ix hil (fun e => h.ni e.symm)).trans hX.it)
  · have h1 : Own wa 5 gx dd := hX.xo.grown hg (fun e => hX.ac.cd.rk.ne (by decide) hzo gx rfl e)
    exact h1.setOther (by show gx ≠ w.heap.size; omega)
/-- the end: the sessions laid anew are handed back -/
theorem AK.post {s : Sv} {zs : List Nat} {w wl wr : World} {vk vs va a0 a1 a2 : Value} {K S : List El} {ix gx n cx B gd cd : Nat} (h : AK s w wl vk vs K S ix gx n cx (decCl zs : Int) (decSq zs : Int) (zs.drop 8)) (hd : decGood zs) (hG : wl.grownBy wr none) (hB : wl.heap.size ≤ B)
    (hrow : wr.ownsRow B 74 4 va (upTo S (decCl zs : Int) ⟨[(decCl zs : Int), (decSq zs : Int), s.b + (K.length : Int)], zs.drop 8, some gd, cd⟩ 50).length ((upTo S (decCl zs : Int) ⟨[(decCl zs : Int), (decSq zs : Int), s.b + (K.length : Int)], zs.drop 8, some gd, cd⟩ 50).flatMap El.cells))
    (hO : Own wr 5 gd (zs.drop 8)) (hgd : wl.heap.size ≤ gd) (hno : ∀ (j : Nat) (x : El), S[j]? = some x → x.c = (decCl zs : Int) → x.q < (decSq zs : Int)) (hf : s.b + (K.length : Int) ≠ 1000000) (hr : risesE 0 S) (h50 : ∀ x ∈ S, x.c ≤ 50) :
    ApPost s zs w (.returned (.tuple #[.agg #[.int .i64 s.b, vk, va], .int .i64 (s.b + (K.length : Int)), .int .i64 0])) ((((wr.setCell ⟨w.heap.size, 2, none⟩ va).setCell ⟨w.heap.size + 1, 0, none⟩ a0).setCell ⟨w.heap.size + 1, 1, none⟩ a1).setCell ⟨w.heap.size + 1, 2, none⟩ a2) := by
  obtain ⟨z, hz⟩ : ∃ z : El, z = ⟨[(decCl zs : Int), (decSq zs : Int), s.b + (K.length : Int)], zs.drop 8, some gd, cd⟩ := ⟨_, rfl⟩
  obtain ⟨zi, hzi⟩ : ∃ z : El, z = ⟨[(decCl zs : Int), (decSq zs : Int)], zs.drop 8, some gx, cx⟩ := ⟨_, rfl⟩
  rw [← hz] at hrow
  have hcd := h.cd
  rw [← hzi] at hcd
  obtain ⟨k, hk⟩ := spot_ex S (decCl zs : Int) 0 hr
  have hkey : (decCl zs : Int) ≤ 50 := by have := hd.2; unfold itemOk at this; omega
  have hcr := hcd.more hG
  have hslt := hcr.slt
  have hpB : w.heap.size + 2 ≤ wl.heap.size := by have := (Array.getElem?_eq_some_iff.1 h.res).1; omega
  -- the worlds' steps
  have g0 : wr.grownBy (wr.setCell ⟨w.heap.size, 2, none⟩ va) (some w.heap.size) := grownBy_setCell (grownBy_refl _ _)
  have gN : ∀ (X : World) (j : Nat) (u : Value), X.grownBy (X.setCell ⟨w.heap.size + 1, j, none⟩ u) (some (w.heap.size + 1)) := fun X j u => grownBy_setCell (grownBy_refl _ _)
  have step : ∀ {P : World → Prop}, (∀ (X Y : World) (r : Nat), w.heap.size ≤ r → r < w.heap.size + 2 → X.grownBy Y (some r) → P X → P Y) → P wr → P ((((wr.setCell ⟨w.heap.size, 2, none⟩ va).setCell ⟨w.heap.size + 1, 0, none⟩ a0).setCell ⟨w.heap.size + 1, 1, none⟩ a1).setCell ⟨w.heap.size + 1, 2, none⟩ a2) := fun hP h0 =>
    hP _ _ (w.heap.size + 1) (by omega) (by omega) (gN _ _ _) (hP _ _ (w.heap.size + 1) (by omega) (by omega) (gN _ _ _) (hP _ _ (w.heap.size + 1) (by omega) (by omega) (gN _ _ _) (hP _ _ w.heap.size (by omega) (by omega) g0 h0)))
  generalize ((((wr.setCell ⟨w.heap.size, 2, none⟩ va).setCell ⟨w.heap.size + 1, 0, none⟩ a0).setCell ⟨w.heap.size + 1, 1, none⟩ a1).setCell ⟨w.heap.size + 1, 2, none⟩ a2) = F at step ⊢
  have hrkF : ElRow F (w.heap.size + 2) 32 2 vk (K ++ [zi]) := step (P := fun X => ElRow X (w.heap.size + 2) 32 2 vk (K ++ [zi])) (fun X Y r hr0 hr hg hX => hX.grown hg (fun k e => by simp only [Option.some.injEq] at e; omega)) hcr.rk
  have hrsF : ElRow F (w.heap.size + 2) 74 3 vs S := step (P := fun X => ElRow X (w.heap.size + 2) 74 3 vs S) (fun X Y r hr0 hr hg hX => hX.grown hg (fun k e => by simp only [Option.some.injEq] at e; omega)) hcr.rs
  have hOF : Own F 5 gd (zs.drop 8) := step (P := fun X => Own X 5 gd (zs.drop 8)) (fun X Y r hr0 hr hg hX => hX.grown hg (fun e => by simp only [Option.some.injEq] at e; omega)) hO
  have hrowF : F.ownsRow B 74 4 va (upTo S (decCl zs : Int) z 50).length ((upTo S (decCl zs : Int) z 50).flatMap El.cells) := step (P := fun X => X.ownsRow B 74 4 va (upTo S (decCl zs : Int) z 50).length ((upTo S (decCl zs : Int) z 50).flatMap El.cells)) (fun X Y r hr0 hr hg hX => hX.kept hg (by
    cases hv : va.ownBlock with
    | none => exact .inl rfl
    | some b =>
      refine .inr fun e => ?_
      have := (hX.lt b hv).1
      simp only [Option.some.injEq] at e
      omega)) hrow
  have hGF : w.grownBy F none := step (P := fun X => w.grownBy X none ) (fun X Y r hr0 hr hg hX => grownBy_new hX hg hr0) hcr.grown
  -- the sessions laid anew
  have hfreshS : ∀ x ∈ S, ∀ g, x.o = some g → g < wl.heap.size := fun x hx g e => (hcd.rs.own x hx).lt g e
  have hAown : ∀ x ∈ upTo S (decCl zs : Int) z 50, x.hd.length = 3 ∧ OwnS F 5 (oad x.o) x.d.length x.d ∧ (x.o = none → x.cp = 0) := fun x hx => by
    rcases upTo_mem x hx with rfl | hx
    · subst hz; exact ⟨rfl, hOF.s rfl, by simp⟩
    · have := hrsF.own x hx; exact ⟨this.1, this.2.1, this.2.2.1⟩
  have hins : ∀ (T1 T2 : List El), (∀ x ∈ T1, x ∈ S) → (∀ x ∈ T2, x ∈ S) → ((T1 ++ T2).filterMap El.o).Nodup → ((T1 ++ z :: T2).filterMap El.o).Nodup := fun T1 T2 h1 h2 hn => by
    have hzo : z.o = some gd := by rw [hz]
    have hnot : ∀ T : List El, (∀ x ∈ T, x ∈ S) → gd ∉ T.filterMap El.o := fun T hT hm => by
      obtain ⟨y, hy, e⟩ := List.mem_filterMap.1 hm
      have := hfreshS y (hT y hy) gd e
      omega
    rw [List.filterMap_append] at hn ⊢
    rw [List.filterMap_cons_some hzo]
    rw [List.nodup_append] at hn ⊢
    refine ⟨hn.1, List.nodup_cons.2 ⟨hnot T2 h2, hn.2.1⟩, fun a ha b hb e => ?_⟩
    subst e
    rcases List.mem_cons.1 hb with e | hb
    · subst e; exact hnot T1 h1 ha
    · exact hn.2.2 a ha a hb rfl
  have hAsay : ((upTo S (decCl zs : Int) z 50).filterMap El.o).Nodup ∧ ApSays s.b K S zs (s.b + (K.length : Int)) 0 ((K ++ [zi]).map El.tell) ((upTo S (decCl zs : Int) z 50).map El.tell) := by
    have hzt : z.tell = ([(decCl zs : Int), (decSq zs : Int), s.b + (K.length : Int)], zs.drop 8) := by rw [hz]; rfl
    have hzit : zi.tell = ([(decCl zs : Int), (decSq zs : Int)], zs.drop 8) := by rw [hzi]; rfl
    rcases known_of S (decCl zs : Int) k with hu | ⟨x, hx, hc⟩
    · rw [upTo_new hr hk hu h50 hkey]
      refine ⟨hins _ _ (fun x hx => List.mem_of_mem_take hx) (fun x hx => List.mem_of_mem_drop hx) (by rw [List.take_append_drop]; exact hcd.rs.nod), ?_⟩
      have := ApSays.new (b := s.b) (K := K) hd k hk hu hf
      simpa [hzt, hzit] using this
    · have hkl := (List.getElem?_eq_some_iff.1 hx).1
      have hset : S.set k z = S.take k ++ z :: S.drop (k + 1) := by rw [List.set_eq_take_append_cons_drop, if_pos hkl]
      rw [upTo_known hr hk hx hc h50 hkey]
      refine ⟨?_, ?_⟩
      · rw [hset]
        refine hins _ _ (fun x hx => List.mem_of_mem_take hx) (fun x hx => List.mem_of_mem_drop hx) ?_
        have hsub : (S.take k ++ S.drop (k + 1)).Sublist S := by
          have h1 : (S.drop (k + 1)).Sublist (S.drop k) := by rw [← List.drop_drop]; exact List.drop_sublist _ _
          have h2 := (List.Sublist.refl (S.take k)).append h1
          rwa [List.take_append_drop] at h2
        exact (hsub.filterMap _).nodup hcd.rs.nod
      · have := ApSays.old (b := s.b) (K := K) hd k x hk hx hc (hno k x hx hc) hf
        simpa [List.map_set, hzt, hzit] using this
  obtain ⟨ko, kc, e1, o1, b1, -, -⟩ := hrkF.elO
  obtain ⟨so, sc, e2, o2, b2, -, -⟩ := elO_of_row hrowF hAown (nod_far _ hAsay.1)
  refine ⟨⟨s.b, none, 0, K, none, 0, S⟩, ⟨s.b, ko, kc, K ++ [zi], so, sc, upTo S (decCl zs : Int) z 50⟩, s.b + (K.length : Int), 0, ?_, by simp [Sv.tell, h.tk, h.ts], rfl, hAsay.2, ⟨o1, o2, fun x hx y hy j hxj hyj => ?_⟩, fun k hk => ?_, hGF⟩
  · simp only [Sv.val]; rw [e1, e2]
  · rcases upTo_mem y hy with rfl | hy
    · have h1 := (hcd.rk.lt j (List.mem_filterMap.2 ⟨x, hx, hxj⟩)).2
      rw [hz] at hyj
      simp only [Option.some.injEq] at hyj
      omega
    · exact hcd.far j (List.mem_filterMap.2 ⟨x, hx, hxj⟩) (List.mem_filterMap.2 ⟨y, hy, hyj⟩)
  · rcases hk with hk | hk | ⟨x, hx, ho⟩
    · have := b1 k hk; omega
    · have := (b2 k hk).1; omega
    · rcases upTo_mem x hx with rfl | hx
      · rw [hz] at ho
        simp only [Option.some.injEq] at ho
        omega
      · have := (hcd.rs.own x hx).2.2.2 k ho; omega
end Go.Proofs.YtdajcpcajdhplaaDoor
