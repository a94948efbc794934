/-
  FnExactDecodeState: the law's walk, and the row.
-/
import Derived.Test.YtionggfecikedaaRows
import Derived.Test.YtionggfecikedaaSpDec3
import Derived.Test.YtionggfecikedaaSvLaw
import Derived.Test.YtionggfecikedaaPost
import Derived.Test.YtionggfecikedaaOpenB
import Derived.ChangeMaps5
namespace Go.Proofs.Ytionggfecikedaa.fnExactDecodeState
open Go.ChangeShapes Go.WideShapes Go.ChangeAt Go.RowKit

/-- a service's three cells lie in block k -/
def Sb (w : World) (k : Nat) (s : Sv) : Prop := w.heap[k]? = some (.cells #[.int .i64 s.b, .slice s.ko s.K.length s.kc, .slice s.so s.S.length s.sc] 57 (0, 0))
theorem Sb.cells {w : World} {k : Nat} {s : Sv} (h : Sb w k s) : w.cell? ⟨k, 0, none⟩ = some (.int .i64 s.b) ∧ w.cell? ⟨k, 1, none⟩ = some (.slice s.ko s.K.length s.kc) ∧ w.cell? ⟨k, 2, none⟩ = some (.slice s.so s.S.length s.sc) := by
  unfold Sb at h
  simp [World.cell?, h]
theorem Sb.lt {w : World} {k : Nat} {s : Sv} (h : Sb w k s) : k < w.heap.size := (Array.getElem?_eq_some_iff.1 h).1
theorem Sb.apart {w w' : World} {T : Nat → Prop} {k : Nat} {s : Sv} (h : Sb w k s) (hb : Only T w w') (hd : ¬ T k) : Sb w' k s := (hb.block k h.lt hd).trans h
theorem Sb.grown0 {w w' : World} {k : Nat} {s : Sv} (h : Sb w k s) (hg : w.grownBy w' none) : Sb w' k s := (hg.block k h.lt (by simp)).trans h
theorem Sb.new (w : World) (s : Sv) : Sb (w.alloc (.cells #[.int .i64 s.b, .slice s.ko s.K.length s.kc, .slice s.so s.S.length s.sc] 57)) w.heap.size s := heap_alloc_new w _
abbrev Told := Int × List (List Int × List Nat) × List (List Int × List Nat)
def toldS (x : Sn) : List Int × List Nat := ([(x.c : Int), (x.q : Int), (x.i : Int)], x.d)
/-- what the bytes tell -/
def Dec (zs : List Nat) (T : Told) (k : Int) : Prop :=
  (∃ B l, ValidS B l ∧ encSt B l = zs ∧ T = ((B : Int), [], l.map toldS) ∧ k = 0) ∨ ((∀ B l, ValidS B l → encSt B l ≠ zs) ∧ T = (0, [], []) ∧ k = 5)
theorem Dec.one {zs : List Nat} {T T' : Told} {k k' : Int} (h : Dec zs T k) (h' : Dec zs T' k') : T = T' ∧ k = k' := by
  rcases h with ⟨B, l, hV, he, rfl, rfl⟩ | ⟨hn, rfl, rfl⟩
  · rcases h' with ⟨B', l', hV', he', rfl, rfl⟩ | ⟨hn, _, _⟩
    · obtain ⟨rfl, rfl⟩ := encSt_inj hV hV' (he.trans he'.symm)
      exact ⟨rfl, rfl⟩
    · exact absurd he (hn B l hV)
  · rcases h' with ⟨B', l', hV', he', rfl, rfl⟩ | ⟨_, rfl, rfl⟩
    · exact absurd he' (hn B' l' hV')
    · exact ⟨rfl, rfl⟩
/-- few and short -/
def Few (s : Sv) : Prop := s.K = [] ∧ s.S.length ≤ 50 ∧ ∀ x ∈ s.S, x.d.length ≤ 64
theorem Few.small {s : Sv} (h : Few s) : SvSmall s := by
  obtain ⟨h1, h2, h3⟩ := h
  exact ⟨by simp [h1], by omega, by simp [h1], fun x hx => by have := h3 x hx; omega⟩
theorem Few.bound {s : Sv} (h : Few s) : SvBound s 1 := by
  obtain ⟨h1, h2, h3⟩ := h
  have hm : s.mid 1 = 1 := by simp [Sv.mid, h1, eAt]
  refine ⟨fun k hk => ?_, fun k hk => ?_⟩
  · rw [h1] at hk ⊢
    obtain rfl : k = 0 := by simpa using hk
    simp [eAt]
  · rw [hm]
    have := eAt_le 3 s.S 1 k 64 h3
    have hk' : k * (3 + 64) ≤ 50 * (3 + 64) := Nat.mul_le_mul_right _ (by omega)
    omega
def DecAns (X : World) (T : Told) (k : Int) (e : Ending) (w' : World) : Prop :=
  ∃ s : Sv, e = .returned (.tuple #[.agg #[.int .i64 s.b, .slice s.ko s.K.length s.kc, .slice s.so s.S.length s.sc], .int .i64 k]) ∧ s.tell = T ∧ SvAt w' s ∧ Few s ∧ (∀ j, SvB s j → X.heap.size ≤ j) ∧ X.grownBy w' none
theorem ans_of {w w' : World} {e : Ending} {zs : List Nat} {T : Told} {k : Int} (h : DecRes w w' e zs) (hT : Dec zs T k) : DecAns w T k e w' := by
  obtain ⟨hG, ⟨B, L, v, rfl, hV, he, hrow⟩ | ⟨hn, rfl⟩⟩ := h
  · obtain ⟨oa, cap, rfl, hA, hB⟩ := svOf_at B hrow
    have hD : Dec zs ((B : Int), [], (L.map Se.tell).map toldS) 0 := .inl ⟨B, _, hV, he, rfl, rfl⟩
    obtain ⟨rfl, rfl⟩ := hT.one hD
    refine ⟨svOf B oa cap L, ?_, ?_, hA, ⟨rfl, ?_, fun x hx => ?_⟩, hB, hG⟩
    · simp [svOf]
    · simp only [svOf, Sv.tell, List.map_nil, List.map_map]
      refine congrArg _ (congrArg _ (List.map_congr_left fun x _ => rfl))
    · have := hV.len
      simpa [svOf] using this
    · obtain ⟨y, hy, rfl⟩ := List.mem_map.1 hx
      exact (hV.2.1 y.tell (List.mem_map.2 ⟨y, hy, rfl⟩)).1.2.2.2.2
  · have hD : Dec zs (0, [], []) 5 := .inr ⟨hn, rfl, rfl⟩
    obtain ⟨rfl, rfl⟩ := hT.one hD
    refine ⟨⟨0, none, 0, [], none, 0, []⟩, rfl, rfl, ⟨.inl ⟨rfl, rfl, rfl⟩, .inl ⟨rfl, rfl, rfl⟩, by simp⟩, ⟨rfl, by simp, by simp⟩, fun j hj => ?_, hG⟩
    rcases hj with (h | ⟨x, hx, _⟩) | (h | ⟨x, hx, _⟩)
    · cases h
    · simp at hx
    · cases h
    · simp at hx
theorem dec_ex (zs : List Nat) : ∃ T k, Dec zs T k := by
  by_cases h : ∃ B l, ValidS B l ∧ encSt B l = zs
  · obtain ⟨B, l, hV, he⟩ := h
    exact ⟨_, _, .inl ⟨B, l, hV, he, rfl, rfl⟩⟩
  · exact ⟨_, _, .inr ⟨fun B l hV he => h ⟨B, l, hV, he⟩, rfl, rfl⟩⟩

set_option maxRecDepth 100000 in
set_option maxHeartbeats 2000000 in
theorem walk (oa : Option Addr) (len cap : Nat) (zs : List Nat) (w : World) (hsl : SlB w oa len zs) (hmx : len ≤ maxLen) :
    Calls Try.prog 9 #[.slice oa len cap] w fun e w' => e = .returned (.bool true) ∧ w.grownBy w' none := by
  unfold maxLen at hmx
  by_cases hbig : 1048576 < len
  · clear hsl
    go_enter Try.func9, Try.ntmps9
    go_wp2
    go_ret
    exact ⟨rfl, grownBy_refl _ _⟩
  have HS : Hid (SlB w oa len zs) := hsl
  have hl : zs.length = len := hsl.1
  clear hsl
  obtain ⟨T, K, hT⟩ := dec_ex zs
  have e1 : (K != K) = false := by simp
  have HI : Hid (∀ (g : Nat) (X : World), Own X 5 g zs → Calls Try.prog 39 #[.slice (some ⟨g, 0, none⟩) len len] X (DecAns X T K)) := by
    intro g X hO
    exact (implDecodeState_any g 0 len len zs X (hO.sl len hl) (Nat.le_refl _) (by unfold maxLen; omega) (by omega) hO.lt).mono fun e w' h => ans_of h hT
  have HP : Hid (∀ (g : Nat) (X : World), Own X 5 g zs → Calls Try.prog 38 #[.slice (some ⟨g, 0, none⟩) len len] X (DecAns X T K)) := by
    intro g X hO
    exact (specDecodeState_any g 0 len len zs X (hO.sl len hl) (Nat.le_refl _) (by unfold maxLen; omega) (by omega)).mono fun e w' h => ans_of h hT
  have HEQ : Hid (∀ (s r : Sv) (X : World), SvAt X s → SvAt X r → s.tell = T → r.tell = T → Few s → Calls Try.prog 36 #[.agg #[.int .i64 s.b, .slice s.ko s.K.length s.kc, .slice s.so s.S.length s.sc], .agg #[.int .i64 r.b, .slice r.ko r.K.length r.kc, .slice r.so r.S.length r.sc]] X fun e w' => e = .returned (.bool true) ∧ X.grownBy w' none) :=
    fun s r X h1 h2 h3 h4 h5 => eqService_same s r X h1 h2 (h3.trans h4.symm) h5.small
  clear hT
  go_enter Try.func9, Try.ntmps9
  go_wp2_with fail
  refine (toByteS_any oa len cap zs _ HS.out (by omega)).mono ?_
  rintro e w1 ⟨rfl, hO1, hG1⟩
  have I1 : Hid (Own w1 5 w.heap.size zs ∧ w.grownBy w1 none) := ⟨hO1, hG1⟩
  clear hO1 hG1
  go_wp2_with fail
  refine (HP.out _ _ I1.out.1).mono ?_
  rintro e w2 ⟨s, rfl, hts, hAs, hFs, hBs, hG2⟩
  have I2 : Hid (w.grownBy w2 none ∧ SvAt w2 s ∧ s.tell = T ∧ Few s) := ⟨grownBy_trans I1.out.2 hG2, hAs, hts, hFs⟩
  clear hAs hts hFs hBs hG2 I1 HP
  obtain ⟨W2, hW2⟩ : ∃ W2, W2 = w2.alloc (.cells #[.int .i64 s.b, .slice s.ko s.K.length s.kc, .slice s.so s.S.length s.sc] 57) := ⟨_, rfl⟩
  have I3 : Hid (w.grownBy W2 none ∧ SvAt W2 s ∧ Sb W2 w2.heap.size s ∧ W2.heap.size = w2.heap.size + 1 ∧ s.tell = T ∧ Few s ∧ ∀ k, SvB s k → k < w2.heap.size) := by
    have G := World.grownBy_alloc w2 (.cells #[.int .i64 s.b, .slice s.ko s.K.length s.kc, .slice s.so s.S.length s.sc] 57) none
    rw [← hW2] at G
    exact ⟨grownBy_trans I2.out.1 G, I2.out.2.1.grown0 G, by rw [hW2]; exact Sb.new w2 s, by rw [hW2]; simp, I2.out.2.2.1, I2.out.2.2.2, I2.out.2.1.lt⟩
  clear I2
  go_wp2_with fail
  rw [← hW2]
  clear hW2
  refine (toByteS_any oa len cap zs _ (HS.out.grown0 I3.out.1) (by omega)).mono ?_
  rintro e w3 ⟨rfl, hO3, hG3⟩
  obtain ⟨b3, hb3⟩ : ∃ b3, b3 = w2.heap.size := ⟨_, rfl⟩
  obtain ⟨gx, hgx⟩ : ∃ gx, gx = W2.heap.size := ⟨_, rfl⟩
  rw [← hb3] at I3 ⊢
  rw [← hgx] at hO3 ⊢
  have I4 : Hid (w.grownBy w3 none ∧ SvAt w3 s ∧ Sb w3 b3 s ∧ Own w3 5 gx zs) := ⟨grownBy_trans I3.out.1 hG3, I3.out.2.1.grown0 hG3, I3.out.2.2.1.grown0 hG3, hO3⟩
  have J : Hid (gx = b3 + 1 ∧ w.heap.size ≤ gx ∧ s.tell = T ∧ Few s ∧ ∀ k, SvB s k → k < b3) := ⟨by rw [hgx]; exact I3.out.2.2.2.1, by rw [hgx]; exact I3.out.1.size, I3.out.2.2.2.2.1, I3.out.2.2.2.2.2.1, I3.out.2.2.2.2.2.2⟩
  clear I3 hO3 hG3 hb3 hgx
  go_wp2_with fail
  refine (HI.out gx _ I4.out.2.2.2).mono ?_
  rintro e w4 ⟨r, rfl, htr, hAr, hFr, hBr, hG4⟩
  have I5 : Hid (w.grownBy w4 none ∧ SvAt w4 s ∧ Sb w4 b3 s ∧ Own w4 5 gx zs ∧ SvAt w4 r) := ⟨grownBy_trans I4.out.1 hG4, I4.out.2.1.grown0 hG4, I4.out.2.2.1.grown0 hG4, I4.out.2.2.2.grown hG4 (by simp), hAr⟩
  have J2 : Hid ((∀ k, SvB r k → gx < k ∧ k < w4.heap.size) ∧ r.tell = T ∧ Few r ∧ gx < w4.heap.size) := ⟨fun k hk => ⟨by have h1 := hBr k hk; have h2 := I4.out.2.2.2.lt; omega, hAr.lt k hk⟩, htr, hFr, I5.out.2.2.2.1.lt⟩
  clear I4 htr hAr hFr hBr hG4
  have G6 := World.grownBy_alloc w4 (.cells #[.int .i64 r.b, .slice r.ko r.K.length r.kc, .slice r.so r.S.length r.sc] 57) none
  have N6 := Sb.new w4 r
  have hz6 : (w4.alloc (.cells #[.int .i64 r.b, .slice r.ko r.K.length r.kc, .slice r.so r.S.length r.sc] 57)).heap.size = w4.heap.size + 1 := by simp
  obtain ⟨b6, hb6⟩ : ∃ b6, b6 = w4.heap.size := ⟨_, rfl⟩
  have c3 := (I5.out.2.2.1.grown0 G6).cells
  have hl3 := I5.out.2.2.1.lt
  have I6 : Hid (∀ X : World, (w4.alloc (.cells #[.int .i64 r.b, .slice r.ko r.K.length r.kc, .slice r.so r.S.length r.sc] 57)).grownBy X none → w.grownBy X none ∧ SvAt X s ∧ Sb X b3 s ∧ Own X 5 gx zs ∧ SvAt X r ∧ Sb X b6 r ∧ b6 < X.heap.size) := fun X hX =>
    ⟨grownBy_trans (grownBy_trans I5.out.1 G6) hX, (I5.out.2.1.grown0 G6).grown0 hX, (I5.out.2.2.1.grown0 G6).grown0 hX, (I5.out.2.2.2.1.grown G6 (by simp)).grown hX (by simp), (I5.out.2.2.2.2.grown0 G6).grown0 hX, by rw [hb6]; exact N6.grown0 hX, by have := hX.size; rw [hb6]; omega⟩
  have J3 : Hid ((∀ k, SvB r k → gx < k ∧ k < b6) ∧ r.tell = T ∧ Few r ∧ gx < b6) := by rw [hb6]; exact J2.out
  have HA : Hid (SvAt (w4.alloc (.cells #[.int .i64 r.b, .slice r.ko r.K.length r.kc, .slice r.so r.S.length r.sc] 57)) s ∧ SvAt (w4.alloc (.cells #[.int .i64 r.b, .slice r.ko r.K.length r.kc, .slice r.so r.S.length r.sc] 57)) r) := ⟨I5.out.2.1.grown0 G6, I5.out.2.2.2.2.grown0 G6⟩
  obtain ⟨c30, c31, c32⟩ := c3
  clear I5 G6 N6 J2
  go_wp2_with fail
  refine (HEQ.out r s _ HA.out.2 HA.out.1 J3.out.2.1 J.out.2.2.1 J3.out.2.2.1).mono ?_
  rintro e w7 ⟨rfl, hG7⟩
  rw [← hb6]
  have I7 : Hid (_ ∧ _) := I6.out w7 hG7
  clear I6 HA hG7 c30 c31 c32 hz6 hl3 hb6
  go_wp2_with fail
  refine (toByteS_any oa len cap zs _ (HS.out.grown0 I7.out.1) (by omega)).mono ?_
  rintro e w8 ⟨rfl, hO8, hG8⟩
  have I8 : Hid (Own w8 5 w7.heap.size zs ∧ Own w8 5 gx zs) := ⟨hO8, I7.out.2.2.2.1.grown hG8 (by simp)⟩
  have HG8 : Hid (w7.grownBy w8 none) := hG8
  clear hO8 hG8
  go_wp2_with fail
  refine (eqByteS_same _ _ len len len zs _ (I8.out.2.sl len hl) (I8.out.1.sl len hl) (by omega)).mono ?_
  rintro e w9 ⟨rfl, hG9⟩
  have G9 := grownBy_trans HG8.out hG9
  have I9 : Hid (w.grownBy w9 none ∧ SvAt w9 s ∧ Sb w9 b3 s ∧ Own w9 5 gx zs ∧ SvAt w9 r ∧ Sb w9 b6 r) :=
    ⟨grownBy_trans I7.out.1 G9, I7.out.2.1.grown0 G9, I7.out.2.2.1.grown0 G9, I7.out.2.2.2.1.grown G9 (by simp), I7.out.2.2.2.2.1.grown0 G9, I7.out.2.2.2.2.2.1.grown0 G9⟩
  clear I7 I8 HG8 hG9 G9
  go_wp2_with fail
  refine (markByteS_own gx len len 1 zs _ I9.out.2.2.2.1 hl (by omega) (by omega)).mono ?_
  rintro e w10 ⟨rfl, -, hG10⟩
  have I10 : Hid (w.grownBy w10 none ∧ SvAt w10 s ∧ Sb w10 b3 s ∧ SvAt w10 r ∧ Sb w10 b6 r) := by
    have O := Only.of (S := fun k => k = gx) hG10 (fun k e => by simpa using e.symm)
    have hq := J.out.1
    exact ⟨grownBy_new I9.out.1 hG10 J.out.2.1, I9.out.2.1.apart O (fun k hk e => by have := J.out.2.2.2.2 k hk; omega), I9.out.2.2.1.apart O (fun e => by omega), I9.out.2.2.2.2.1.apart O (fun k hk e => by have := (J3.out.1 k hk).1; omega), I9.out.2.2.2.2.2.apart O (fun e => by have := J3.out.2.2.2; omega)⟩
  obtain ⟨c30, c31, c32⟩ := I10.out.2.2.1.cells
  obtain ⟨c60, c61, c62⟩ := I10.out.2.2.2.2.cells
  clear I9 hG10
  go_wp2_with fail
  refine (HEQ.out r s _ I10.out.2.2.2.1 I10.out.2.1 J3.out.2.1 J.out.2.2.1 J3.out.2.2.1).mono ?_
  rintro e w11 ⟨rfl, hG11⟩
  have I11 : Hid (w.grownBy w11 none ∧ SvAt w11 s ∧ Sb w11 b3 s ∧ SvAt w11 r ∧ Sb w11 b6 r) :=
    ⟨grownBy_trans I10.out.1 hG11, I10.out.2.1.grown0 hG11, I10.out.2.2.1.grown0 hG11, I10.out.2.2.2.1.grown0 hG11, I10.out.2.2.2.2.grown0 hG11⟩
  clear I10 c30 c31 c32 c60 c61 c62 hG11
  obtain ⟨c60, c61, c62⟩ := I11.out.2.2.2.2.cells
  have HMK : Hid (∀ X : World, SvAt X r → Calls Try.prog 37 #[.agg #[.int .i64 r.b, .slice r.ko r.K.length r.kc, .slice r.so r.S.length r.sc], .int .i64 1] X fun e w' => e = .returned (.int .i64 ((r.fin 1 : Nat) : Int)) ∧ SvAt w' (r.mkd 1) ∧ Only (SvB r) X w') := fun X hX => markService_any r 1 X hX J3.out.2.2.1.small J3.out.2.2.1.bound
  have HHD : Hid (∀ X : World, SvAt X (r.mkd 1) → Calls Try.prog 40 #[.agg #[.int .i64 r.b, .slice r.ko r.K.length r.kc, .slice r.so r.S.length r.sc], .int .i64 1] X fun e w' => e = .returned (.int .i64 ((r.fin 1 : Nat) : Int)) ∧ X.grownBy w' none) := fun X hX => heldService_any r 1 X hX J3.out.2.2.1.small J3.out.2.2.1.bound
  have hf : r.fin 1 ≤ 1073741000 := J3.out.2.2.1.bound.2 _ (Nat.le_refl _)
  generalize r.fin 1 = F at *
  go_wp2_with fail
  refine (HMK.out _ I11.out.2.2.2.1).mono ?_
  rintro e w12 ⟨rfl, hA12, hO12⟩
  have I12 : Hid (w.grownBy w12 none ∧ SvAt w12 s ∧ Sb w12 b3 s ∧ SvAt w12 (r.mkd 1) ∧ Sb w12 b6 r) := by
    have hq := J.out.1
    exact ⟨hO12.grown I11.out.1 (fun k hk => by have := (J3.out.1 k hk).1; have := J.out.2.1; omega), I11.out.2.1.apart hO12 (fun k hk hk' => by have h1 := J.out.2.2.2.2 k hk; have h2 := (J3.out.1 k hk').1; omega), I11.out.2.2.1.apart hO12 (fun hk' => by have h2 := (J3.out.1 b3 hk').1; omega), hA12, I11.out.2.2.2.2.apart hO12 (fun hk' => by have h2 := (J3.out.1 b6 hk').2; omega)⟩
  clear I11 c60 c61 c62 hA12 hO12 HMK
  obtain ⟨c60, c61, c62⟩ := I12.out.2.2.2.2.cells
  go_wp2_with fail
  refine (HHD.out _ I12.out.2.2.2.1).mono ?_
  rintro e w13 ⟨rfl, hG13⟩
  have I13 : Hid (w.grownBy w13 none ∧ SvAt w13 s ∧ Sb w13 b3 s) := ⟨grownBy_trans I12.out.1 hG13, I12.out.2.1.grown0 hG13, I12.out.2.2.1.grown0 hG13⟩
  clear I12 c60 c61 c62 hG13 HHD
  go_wp2_with fail
  refine (toByteS_any oa len cap zs _ (HS.out.grown0 I13.out.1) (by omega)).mono ?_
  rintro e w14 ⟨rfl, hO14, hG14⟩
  have I14 : Hid (w.grownBy w14 none ∧ SvAt w14 s ∧ Sb w14 b3 s ∧ Own w14 5 w13.heap.size zs) := ⟨grownBy_trans I13.out.1 hG14, I13.out.2.1.grown0 hG14, I13.out.2.2.grown0 hG14, hO14⟩
  clear I13 hO14 hG14
  go_wp2_with fail
  refine (HI.out _ _ I14.out.2.2.2).mono ?_
  rintro e w15 ⟨q, rfl, htq, hAq, hFq, hBq, hG15⟩
  have I15 : Hid (w.grownBy w15 none ∧ SvAt w15 s ∧ Sb w15 b3 s ∧ SvAt w15 q ∧ q.tell = T ∧ Few q) := ⟨grownBy_trans I14.out.1 hG15, I14.out.2.1.grown0 hG15, I14.out.2.2.1.grown0 hG15, hAq, htq, hFq⟩
  have hl3 := I15.out.2.2.1.lt
  obtain ⟨c30, c31, c32⟩ := I15.out.2.2.1.cells
  clear I14 hBq hAq hG15 htq hFq
  go_wp2_with fail
  refine (HEQ.out q s _ (I15.out.2.2.2.1.grown0 (World.grownBy_alloc _ _ _)) (I15.out.2.1.grown0 (World.grownBy_alloc _ _ _)) I15.out.2.2.2.2.1 J.out.2.2.1 I15.out.2.2.2.2.2).mono ?_
  rintro e w16 ⟨rfl, hG16⟩
  have R : Hid (w.grownBy w16 none) := grownBy_trans (grownBy_alloc I15.out.1 _) hG16
  clear hG16
  go_wp2
  go_ret
  exact ⟨rfl, R.out⟩

theorem cellsU8 : Try.prog.cellsOf 5 = 1 := by kernel_rfl
theorem own : ownKnob Try.prog.godebug = none := by kernel_rfl
theorem laidOut : laidOutB Try.prog = true := by kernel_rfl
set_option maxRecDepth 100000 in
theorem lifted (os : Os) (started : os.Started) (H : Type) (enc : TypeId × Value → H) :
    ReturnsInHanded {} Try.checked os 9 .any (Rows.fnExactDecodeStateSpec.pre6 enc Try.prog Try.f9 Rows.fnExactDecodeStateRow.domain false) (Rows.fnExactDecodeStateSpec.post enc Try.prog Try.f9 false true false false) := by
  refine returnsInHanded_of_change (C := Try.checked) own started (by kernel_rfl) Try.func9
    (ChangeSpec.witness6 (enc := enc) (C := Try.checked) false ⟨#[], #[.slice none 0 0], []⟩ 8 (by kernel_rfl) (by kernel_rfl) (by kernel_rfl) (by kernel_rfl)) ?_
  intro W base args ds gs before hval0 hW hcnd _
  have hval : ∀ (j : Nat) t v, Try.f9.params[j]? = some t → args[j]? = some v → Value.okWide Try.prog W .any base t v := hval0
  have hW' := hW
  obtain ⟨p, q, hA0, hV, rfl, hfz, hnd⟩ := hW
  have hA : DataW.TrodAll enc Try.prog W 0 (fun _ => true) true Try.f9.params.toList args.toList ds p := hA0
  rw [Try.params9] at hA hval
  obtain ⟨v0, vs0, d0, ds0, p0, q0, hargs, rfl, rfl, h0, r0⟩ := trodAll_cons hA
  obtain ⟨rfl, rfl, rfl⟩ := trodAll_nil r0
  obtain rfl : args = #[v0] := by cases args; simp_all
  obtain ⟨rfl, rfl⟩ := trodVars_none hV
  obtain ⟨oa, len, cap, rfl⟩ := okWide_slice Try.underlying31 (hval 0 31 v0 rfl rfl)
  obtain ⟨zs, hs, hmx⟩ := slb_open Try.underlying31 Try.underlying5 cellsU8 h0
  refine (walk oa len cap zs W hs hmx).mono fun e W' ⟨he, hgr⟩ => ?_
  subst he
  exact ⟨_, rfl, Post.law laidOut (below_of_grown hgr) hW' (by kernel_rfl) (by kernel_rfl) (tb := 4) (by kernel_rfl) Try.underlying4 rfl⟩
end Go.Proofs.Ytionggfecikedaa.fnExactDecodeState
namespace Go.Proofs.Ytionggfecikedaa
theorem FnExactDecodeState_holds : Rows.FnExactDecodeStateSaid :=
  OpenClaim.holds_of_wide 9 Try.f9 rfl rfl rfl rfl rfl rfl rfl ⟨rfl, rfl, rfl, rfl, rfl⟩ rfl rfl rfl rfl rfl (by kernel_rfl) Try.func9 (by kernel_rfl)
    (of_decide_eq_true (by kernel_rfl)) (by unfold Func.isWrapper; first | (rw [if_pos (by decide +kernel)]; kernel_rfl) | (rw [if_neg (by decide +kernel)]; exact ⟨rfl, rfl⟩))
    (fun os started H enc _ => fnExactDecodeState.lifted os started H enc)
#print axioms FnExactDecodeState_holds
end Go.Proofs.Ytionggfecikedaa
