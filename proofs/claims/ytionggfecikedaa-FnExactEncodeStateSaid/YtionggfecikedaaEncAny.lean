/-
  EncodeState, the program's and the model's, of whatever service; the laws' szService and toService.
-/
import Derived.Test.YtionggfecikedaaImEnc
import Derived.Test.YtionggfecikedaaSpEncG
import Derived.Test.YtionggfecikedaaSpVal
import Derived.Test.YtionggfecikedaaArLawS
import Derived.Test.YtionggfecikedaaItemDec2
namespace Go.Proofs.Ytionggfecikedaa
open Go.RowKit

abbrev Told := Int × List (List Int × List Nat) × List (List Int × List Nat)
def elOf (y : List Int × List Nat) : El := ⟨y.1, y.2, none, 0⟩
def snOf (y : List Int × List Nat) : Sn := ⟨(y.1.getD 0 0).toNat, (y.1.getD 1 0).toNat, (y.1.getD 2 0).toNat, y.2⟩
def validT (T : Told) : Prop := ValidV T.1 (T.2.1.map elOf) (T.2.2.map elOf)
def encT (T : Told) : List Nat := encSt (T.1 + (T.2.1.length : Int)).toNat (T.2.2.map snOf)
theorem risesE_map (f : El → El) (hf : ∀ x, (f x).c = x.c) (l : List El) : ∀ b, risesE b (l.map f) ↔ risesE b l := by
  induction l with
  | nil => intro b; exact Iff.rfl
  | cons x l ih =>
    intro b
    have e1 : risesE b ((x :: l).map f) ↔ b < (f x).c ∧ risesE (f x).c (l.map f) := Iff.rfl
    have e2 : risesE b (x :: l) ↔ b < x.c ∧ risesE x.c l := Iff.rfl
    rw [e1, e2, hf, ih]
theorem validV_tell (b : Int) (K S : List El) : ValidV b K S ↔ validT (b, K.map El.tell, S.map El.tell) := by
  have e : ∀ L : List El, (L.map El.tell).map elOf = L.map (fun x => elOf x.tell) := fun L => by simp [List.map_map, Function.comp_def]
  unfold validT ValidV
  simp only [e, List.length_map, List.forall_mem_map]
  rw [risesE_map (fun x => elOf x.tell) (fun _ => rfl)]
  exact Iff.rfl
def encC (T : Told) [Decidable (validT T)] : Int := if validT T then 0 else 5
def encR (T : Told) [Decidable (validT T)] : List Nat := if validT T then encT T else []
def seOf (x : El) : Se := ⟨x.c.toNat, x.q.toNat, x.i.toNat, x.d, x.o, x.cp⟩
theorem seOf_el (x : El) (hl : x.hd.length = 3) (h : 0 ≤ x.c ∧ 0 ≤ x.q ∧ 0 ≤ x.i) : (seOf x).el = x := by
  obtain ⟨hd, d, o, cp⟩ := x
  simp only at hl
  match hd, hl with
  | [a, b, c], _ =>
    simp only [El.c, El.q, El.i, List.getD_cons_zero, List.getD_cons_succ] at h
    simp [seOf, Se.el, El.c, El.q, El.i]
    omega
theorem rises_of {l : List El} (hc : ∀ x ∈ l, 0 ≤ x.c) : ∀ b : Nat, risesE (b : Int) l → rises b (l.map (fun x => (seOf x).tell)) := by
  induction l with
  | nil => intro b _; trivial
  | cons x l ih =>
    intro b h
    obtain ⟨h1, h2⟩ := h
    have hx := hc x (by simp)
    have e : ((x.c.toNat : Nat) : Int) = x.c := by omega
    refine ⟨by show b < x.c.toNat; omega, ih (fun y hy => hc y (by simp [hy])) x.c.toNat (by rw [e]; exact h2)⟩
theorem valid_se {b : Int} {K S : List El} (hV : ValidV b K S) (hl : ∀ x ∈ S, x.hd.length = 3) :
    ∃ (cn : Nat) (L : List Se), S = L.map Se.el ∧ b + (K.length : Int) = (cn : Int) ∧ ValidW cn (L.map Se.tell) ∧ encT (b, K.map El.tell, S.map El.tell) = encSt cn (L.map Se.tell) := by
  obtain ⟨h0, h1, h2, -, h4, h5⟩ := hV
  obtain ⟨cn, hcn⟩ : ∃ cn : Nat, b + (K.length : Int) = (cn : Int) := ⟨(b + (K.length : Int)).toNat, by omega⟩
  have hpos : ∀ x ∈ S, 0 ≤ x.c ∧ 0 ≤ x.q ∧ 0 ≤ x.i := fun x hx => by
    obtain ⟨h6, h7, _⟩ := h4 x hx
    unfold okE itemOk at h6
    omega
  have hS : S = (S.map seOf).map Se.el := by
    rw [List.map_map]
    conv => lhs; rw [← List.map_id S]
    exact List.map_congr_left fun x hx => (seOf_el x (hl x hx) (hpos x hx)).symm
  refine ⟨cn, S.map seOf, hS, hcn, ⟨by omega, fun y hy => ?_, ?_⟩, ?_⟩
  · rw [List.map_map] at hy
    obtain ⟨x, hx, rfl⟩ := List.mem_map.1 hy
    obtain ⟨h6, h7, h8⟩ := h4 x hx
    unfold okE itemOk at h6
    refine ⟨⟨?_, ?_, ?_, ?_, ?_⟩, ?_⟩ <;> simp only [Function.comp_apply, seOf, Se.tell] <;> omega
  · rw [List.map_map]
    exact rises_of (fun x hx => (hpos x hx).1) 0 h5
  · unfold encT
    simp only [List.length_map]
    rw [hcn]
    congr 1
    rw [List.map_map, List.map_map]
    exact List.map_congr_left fun x _ => rfl
theorem ElO.ses {w : World} {oa : Option Addr} {cap : Nat} {L : List Se} (h : ElO w 79 3 oa cap (L.map Se.el)) : SesSl w oa L := by
  intro i x hx
  have hx' : (L.map Se.el)[i]? = some x.el := by simp [hx]
  rcases h with ⟨_, _, h0⟩ | ⟨g, rfl, hA⟩
  · rw [h0] at hx'; simp at hx'
  · exact ⟨g, rfl, hA.cell hx' (j := 0) rfl, hA.cell hx' (j := 1) rfl, hA.cell hx' (j := 2) rfl, hA.slice hx', (hA.own i _ hx').2.1, hA.lt⟩
theorem SvAt.hd3 {w : World} {s : Sv} (h : SvAt w s) : ∀ x ∈ s.S, x.hd.length = 3 := by
  intro x hx
  obtain ⟨i, hi⟩ := List.getElem?_of_mem hx
  rcases h.ss with ⟨_, _, h0⟩ | ⟨g, _, hA⟩
  · rw [h0] at hi; simp at hi
  · exact (hA.own i x hi).1
open Classical in
def EncAns (w : World) (T : Told) (e : Ending) (w' : World) : Prop :=
  ∃ og n cp, e = .returned (.tuple #[.slice og n cp, .int .i64 (encC T)]) ∧ n ≤ 1073741824 ∧ (og = none → cp = 0) ∧ (∀ g, blk og = some g → w.heap.size ≤ g) ∧ OwnS w' 5 og n (encR T) ∧ w.grownBy w' none
theorem encAns_no {w w' : World} {T : Told} (h : ¬ validT T) (hG : w.grownBy w' none) : EncAns w T (.returned (.tuple #[.slice none 0 0, .int .i64 5])) w' :=
  ⟨none, 0, 0, by simp [encC, h], by omega, fun _ => rfl, (fun g hg => by cases hg), by simp only [encR, if_neg h]; exact OwnS.none _ _, hG⟩
theorem encSt_short {b : Nat} {l : List Sn} (h : ValidW b l) : (encSt b l).length ≤ 1073741824 := by
  have h1 := h.len
  have h2 : ∀ l : List Sn, (∀ x ∈ l, x.d.length ≤ 64) → (encL l).length ≤ 96 * l.length := by
    intro l
    induction l with
    | nil => intro _; simp [encL]
    | cons x l ih =>
      intro hx
      have h3 := ih (fun y hy => hx y (by simp [hy]))
      have h4 := hx x (by simp)
      rw [encL_cons, List.length_append, encS_len]
      simp only [List.length_cons]
      omega
  have h3 := h2 l (fun x hx => (h.2.1 x hx).1.2.2.2.2)
  have h4 : (encSt b l).length = 16 + (encL l).length := by simp [encSt, leN_len]; omega
  omega
theorem encAns_ok {w w' : World} {T : Told} {g n cp cn : Nat} {l : List Sn} (h : validT T) (hW : ValidW cn l) (hT : encT T = encSt cn l) (hn : n = (encSt cn l).length) (hg : w.heap.size ≤ g) (hO : Own w' 5 g (encSt cn l)) (hG : w.grownBy w' none) : EncAns w T (.returned (.tuple #[.slice (some ⟨g, 0, none⟩) n cp, .int .i64 0])) w' := by
  refine ⟨some ⟨g, 0, none⟩, n, cp, by simp [encC, h], by rw [hn]; exact encSt_short hW, (fun e => by cases e), fun g' hg' => ?_, ?_, hG⟩
  · obtain rfl : g = g' := by simpa [blk] using hg'
    exact hg
  · simp only [encR, if_pos h, hT]
    exact hO.s hn.symm
theorem specEnc_any (s : Sv) (w : World) (h : SvAt w s) (hs : SvSmall s) : Calls Try.prog 33 #[.agg #[.int .i64 s.b, .slice s.ko s.K.length s.kc, .slice s.so s.S.length s.sc]] w (EncAns w s.tell) := by
  have hval : ∀ w', w.grownBy w' none → Calls Try.prog 53 #[.agg #[.int .i64 s.b, .slice s.ko s.K.length s.kc, .slice s.so s.S.length s.sc]] w' fun e w'' => ∃ r : Bool, e = .returned (.bool r) ∧ (r = true ↔ ValidV s.b s.K s.S) ∧ w'.grownBy w'' none := fun w' hw' =>
    l5validE_any s.b s.ko s.kc s.K s.so s.sc s.S w' (h.kk.grown0 hw') (h.ss.grown0 hw') hs.1 hs.2.1 hs.2.2.1 hs.2.2.2
  by_cases hV : ValidV s.b s.K s.S
  · obtain ⟨cn, L, hL, hcn, hW, hT⟩ := valid_se hV h.hd3
    obtain ⟨b, ko, kc, K, so, sc, S⟩ := s
    simp only at *
    subst hL
    have hd : ∀ x ∈ L, ∀ z ∈ x.d, z < 256 := by
      intro x hx
      obtain ⟨i, hi⟩ := List.getElem?_of_mem hx
      obtain ⟨_, _, _, _, _, _, h9, _⟩ := h.ss.ses i x hi
      exact h9.sl.2.1
    have h1 := specEncG_ok b ko K.length kc cn hcn so sc L w h.ss.ses hW hd (fun w' hw' => by
      have hv := hval w' hw'
      rw [List.length_map] at hv
      refine hv.mono ?_
      rintro e w'' ⟨r, rfl, hr, hG⟩
      exact ⟨by rw [hr.2 hV], hG⟩)
    rw [List.length_map]
    refine h1.mono ?_
    rintro e w' ⟨g, n, cp, rfl, hn, hg, hO, hG⟩
    exact encAns_ok ((validV_tell b K _).1 hV) hW hT hn hg hO hG
  · refine (specEncG_no s.b s.ko s.K.length s.kc s.so s.S.length s.sc w (fun w' hw' => by
      refine (hval w' hw').mono ?_
      rintro e w'' ⟨r, rfl, hr, hG⟩
      cases r
      · exact ⟨rfl, hG⟩
      · exact absurd (hr.1 rfl) hV)).mono ?_
    rintro e w' ⟨rfl, hG⟩
    exact encAns_no (fun hT => hV ((validV_tell s.b s.K s.S).2 hT)) hG
theorem implEnc_any (s : Sv) (w : World) (h : SvAt w s) (hs : SvSmall s) : Calls Try.prog 35 #[.agg #[.int .i64 s.b, .slice s.ko s.K.length s.kc, .slice s.so s.S.length s.sc]] w (EncAns w s.tell) := by
  have hval : ∀ w', w.grownBy w' none → Calls Try.prog 56 #[.agg #[.int .i64 s.b, .slice s.ko s.K.length s.kc, .slice s.so s.S.length s.sc]] w' fun e w'' => ∃ r : Bool, e = .returned (.bool r) ∧ (r = true ↔ ValidV s.b s.K s.S) ∧ w'.grownBy w'' none := fun w' hw' =>
    svalidE_any s.b s.ko s.kc s.K s.so s.sc s.S w' (h.kk.grown0 hw') (h.ss.grown0 hw') hs.1 hs.2.1 hs.2.2.1 hs.2.2.2
  by_cases hV : ValidV s.b s.K s.S
  · obtain ⟨cn, L, hL, hcn, hW, hT⟩ := valid_se hV h.hd3
    have hb0 := hV.1
    obtain ⟨b, ko, kc, K, so, sc, S⟩ := s
    simp only at *
    subst hL
    have hd : ∀ x ∈ L, ∀ z ∈ x.d, z < 256 := by
      intro x hx
      obtain ⟨i, hi⟩ := List.getElem?_of_mem hx
      obtain ⟨_, _, _, _, _, _, h9, _⟩ := h.ss.ses i x hi
      exact h9.sl.2.1
    have h1 := implEncG_ok b ko K.length kc cn hcn hb0 hs.1 so sc L w h.ss.ses hW hd (fun w' hw' => by
      have hv := hval w' hw'
      rw [List.length_map] at hv
      refine hv.mono ?_
      rintro e w'' ⟨r, rfl, hr, hG⟩
      exact ⟨by rw [hr.2 hV], hG⟩)
    rw [List.length_map]
    refine h1.mono ?_
    rintro e w' ⟨g, n, cp, rfl, hn, hg, hO, hG, -⟩
    exact encAns_ok ((validV_tell b K _).1 hV) hW hT hn hg hO hG
  · refine (implEncG_no s.b s.ko s.K.length s.kc s.so s.S.length s.sc w (fun w' hw' => by
      refine (hval w' hw').mono ?_
      rintro e w'' ⟨r, rfl, hr, hG⟩
      cases r
      · exact ⟨rfl, hG⟩
      · exact absurd (hr.1 rfl) hV)).mono ?_
    rintro e w' ⟨rfl, hG⟩
    exact encAns_no (fun hT => hV ((validV_tell s.b s.K s.S).2 hT)) hG
set_option maxHeartbeats 800000 in
theorem szService_any (b : Int) (ko : Option Addr) (kc : Nat) (A : List Ar) (so : Option Addr) (sc : Nat) (B : List Ar) (w : World) (hA : ArSl w 2 ko A) (hB : ArSl w 3 so B) (hnA : A.length ≤ maxLen) (hnB : B.length ≤ maxLen) :
    Calls Try.prog 32 #[.agg #[.int .i64 b, .slice ko A.length kc, .slice so B.length sc], .int .i64 1048576] w fun e w' => ∃ v : Int, e = .returned (.int .i64 v) ∧ ((tot A + tot B ≤ 1048576 ∧ 0 ≤ v ∧ v ≤ 1048576) ∨ (1048576 < tot A + tot B ∧ v = -1)) ∧ w.grownBy w' none := by
  have HA : Hid (∀ X : World, w.grownBy X none → Calls Try.prog 51 #[.slice ko A.length kc, .int .i64 1048576] X fun e w' => ∃ v : Int, e = .returned (.int .i64 v) ∧ ((tot A ≤ 1048576 ∧ v = ((1048576 : Nat) : Int) - (tot A : Int)) ∨ (1048576 < tot A ∧ v = -1)) ∧ X.grownBy w' none) := fun X hX => szItemS_any ko kc A 1048576 X (hA.grown hX) hnA (by omega)
  have HB : Hid (∀ (L : Nat) (X : World), L ≤ 1048576 → w.grownBy X none → Calls Try.prog 52 #[.slice so B.length sc, .int .i64 (L : Int)] X fun e w' => ∃ v : Int, e = .returned (.int .i64 v) ∧ ((tot B ≤ L ∧ v = (L : Int) - (tot B : Int)) ∨ (L < tot B ∧ v = -1)) ∧ X.grownBy w' none) := fun L X hL hX => szSessionS_any so sc B L X (hB.grown hX) hnB hL
  clear hA hB hnA hnB
  generalize A.length = an at *
  generalize B.length = bn at *
  go_enter Try.func32, Try.ntmps32
  go_wp2_with fail
  refine (HA.out _ (World.grownBy_alloc _ _ _)).mono ?_
  rintro e w1 ⟨v, rfl, hv, hG1⟩
  have hz : w.heap.size < w1.heap.size := by have := hG1.size; simp at this; omega
  have a2 : w1.cell? ⟨w.heap.size, 2, none⟩ = some (.slice so bn sc) := ((bcell hG1).1 _ _ (by simp)).trans (by simp)
  have HG1 : Hid (w.grownBy w1 none) := grownBy_trans (World.grownBy_alloc _ _ _) hG1
  clear hG1
  rcases hv with ⟨h1, rfl⟩ | ⟨h1, rfl⟩
  · obtain ⟨L, hL⟩ : ∃ L : Nat, ((1048576 : Nat) : Int) - (tot A : Int) = (L : Int) := ⟨1048576 - tot A, by omega⟩
    have HL : Hid (tot A + L = 1048576) := by show _ = _; omega
    have hL2 : L ≤ 1048576 := by omega
    rw [hL]
    clear hL h1
    go_wp2_with fail
    refine (HB.out L _ hL2 HG1.out).mono ?_
    rintro e w2 ⟨v, rfl, hv, hG2⟩
    have R : Hid (w.grownBy w2 none) := grownBy_trans HG1.out hG2
    clear hG2
    rcases hv with ⟨h1, rfl⟩ | ⟨h1, rfl⟩
    · obtain ⟨M, hM⟩ : ∃ M : Nat, (L : Int) - (tot B : Int) = (M : Int) := ⟨L - tot B, by omega⟩
      have HM : Hid (tot B + M = L) := by show _ = _; omega
      rw [hM]
      clear hM h1
      go_wp2
      go_ret
      exact ⟨(M : Int), rfl, .inl ⟨by have := HM.out; have := HL.out; omega, by omega, by have := HM.out; have := HL.out; omega⟩, R.out⟩
    · have H1 : Hid (L < tot B) := h1
      clear h1
      go_wp2
      go_ret
      exact ⟨-1, rfl, .inr ⟨by have := HL.out; have := H1.out; omega, rfl⟩, R.out⟩
  · have H1 : Hid (1048576 < tot A) := h1
    clear h1
    go_wp2
    go_ret
    exact ⟨-1, rfl, .inr ⟨by have := H1.out; omega, rfl⟩, HG1.out⟩
/-- fits the laws' room -/
def SvFit (s : Sv) : Prop := s.K.length + (s.K.map (fun x => x.d.length)).sum ≤ 1048576 ∧ s.S.length + (s.S.map (fun x => x.d.length)).sum ≤ 1048576
theorem mem_sum (l : List Nat) (x : Nat) (h : x ∈ l) : x ≤ l.sum := by
  induction l with
  | nil => simp at h
  | cons y l ih =>
    simp only [List.sum_cons]
    rcases List.mem_cons.1 h with rfl | h
    · omega
    · have := ih h; omega
theorem SvFit.small {s : Sv} (h : SvFit s) : SvSmall s := by
  obtain ⟨h1, h2⟩ := h
  refine ⟨by omega, by omega, fun x hx => ?_, fun x hx => ?_⟩
  · have := mem_sum _ _ (List.mem_map.2 ⟨x, hx, rfl⟩ : x.d.length ∈ s.K.map (fun x => x.d.length)); omega
  · have := mem_sum _ _ (List.mem_map.2 ⟨x, hx, rfl⟩ : x.d.length ∈ s.S.map (fun x => x.d.length)); omega
theorem eAt_sum (c : Nat) (L : List El) (m k : Nat) : eAt c L m k ≤ m + c * k + ((L.take k).map (fun x => x.d.length)).sum := by
  induction k with
  | zero => simp [eAt]
  | succ k ih =>
    simp only [eAt]
    cases hx : L[k]? with
    | none =>
      have hk : L.length ≤ k := by rw [List.getElem?_eq_none_iff] at hx; exact hx
      rw [List.take_of_length_le (by omega : L.length ≤ k + 1)]
      rw [List.take_of_length_le hk] at ih
      simp
      rw [Nat.mul_add]
      omega
    | some x =>
      rw [take_snoc hx]
      simp
      rw [Nat.mul_add]
      simp at ih
      omega
theorem sum_take (l : List El) (k : Nat) : ((l.take k).map (fun x => x.d.length)).sum ≤ (l.map (fun x => x.d.length)).sum := by
  induction l generalizing k with
  | nil => simp
  | cons x l ih =>
    cases k with
    | zero => simp
    | succ k =>
      have := ih k
      simp only [List.take_succ_cons, List.map_cons, List.sum_cons]
      omega
theorem SvFit.bound {s : Sv} (h : SvFit s) : SvBound s 1 := by
  obtain ⟨h1, h2⟩ := h
  have hm : s.mid 1 ≤ 1 + 2 * 1048576 + 1048576 := by
    have h3 := eAt_sum 2 s.K 1 s.K.length
    have h4 := sum_take s.K s.K.length
    unfold Sv.mid
    omega
  refine ⟨fun k hk => ?_, fun k hk => ?_⟩
  · have h3 := eAt_sum 2 s.K 1 k
    have h4 := sum_take s.K k
    omega
  · have h3 := eAt_sum 3 s.S (s.mid 1) k
    have h4 := sum_take s.S k
    omega
theorem fit_of {A : List Ar} {M : List El} (h : M.map El.tell = A.map Ar.tell) (hd : ∀ x ∈ A, x.d.length = x.len) (ht : tot A ≤ 1048576) : M.length + (M.map (fun x => x.d.length)).sum ≤ 1048576 := by
  have e1 : M.length = A.length := by have := congrArg List.length h; simpa using this
  have e2 : M.map (fun x => x.d.length) = A.map Ar.len := by
    have h2 := congrArg (List.map (fun y : List Int × List Nat => y.2.length)) h
    simp only [List.map_map] at h2
    have h3 : A.map ((fun y : List Int × List Nat => y.2.length) ∘ Ar.tell) = A.map Ar.len := List.map_congr_left fun x hx => hd x hx
    rw [h3] at h2
    exact h2
  rw [e1, e2]
  unfold tot totTo at ht
  rw [List.take_length] at ht
  exact ht
set_option maxHeartbeats 800000 in
theorem toService_any (b : Int) (ko : Option Addr) (kc : Nat) (A : List Ar) (so : Option Addr) (sc : Nat) (B : List Ar) (w : World) (hA : ArSl w 2 ko A) (hB : ArSl w 3 so B) (ht : tot A + tot B ≤ 1048576) :
    Calls Try.prog 34 #[.agg #[.int .i64 b, .slice ko A.length kc, .slice so B.length sc]] w fun e w' => ∃ s : Sv, e = .returned (.agg #[.int .i64 s.b, .slice s.ko s.K.length s.kc, .slice s.so s.S.length s.sc]) ∧ s.tell = (b, A.map Ar.tell, B.map Ar.tell) ∧ SvAt w' s ∧ SvFit s ∧ (∀ k, SvB s k → w.heap.size ≤ k) ∧ w.grownBy w' none := by
  have hlA := tot_len A
  have hlB := tot_len B
  have HA : Hid (∀ X : World, w.grownBy X none → Calls Try.prog 54 #[.slice ko A.length kc] X fun e w' => ∃ M, e = .returned (.slice (some ⟨X.heap.size, 0, none⟩) A.length A.length) ∧ ElAt w' 37 2 X.heap.size M ∧ M.map El.tell = A.map Ar.tell ∧ (∀ y ∈ M, ∀ b, y.o = some b → X.heap.size < b) ∧ X.grownBy w' none) := fun X hX => toItemS_any ko kc A X (hA.grown hX) (by omega) (fun x hx => by have := tot_each A x hx; omega)
  have HB : Hid (∀ X : World, w.grownBy X none → Calls Try.prog 55 #[.slice so B.length sc] X fun e w' => ∃ M, e = .returned (.slice (some ⟨X.heap.size, 0, none⟩) B.length B.length) ∧ ElAt w' 79 3 X.heap.size M ∧ M.map El.tell = B.map Ar.tell ∧ (∀ y ∈ M, ∀ b, y.o = some b → X.heap.size < b) ∧ X.grownBy w' none) := fun X hX => toSessionS_any so sc B X (hB.grown hX) (by omega) (fun x hx => by have := tot_each B x hx; omega)
  have HF : Hid ((∀ x ∈ A, x.d.length = x.len) ∧ (∀ x ∈ B, x.d.length = x.len) ∧ tot A ≤ 1048576 ∧ tot B ≤ 1048576) := ⟨fun x hx => by
      obtain ⟨i, hi⟩ := List.getElem?_of_mem hx
      obtain ⟨_, _, _, _, _, _, h5, _⟩ := hA i x hi
      exact h5.1, fun x hx => by
      obtain ⟨i, hi⟩ := List.getElem?_of_mem hx
      obtain ⟨_, _, _, _, _, _, h5, _⟩ := hB i x hi
      exact h5.1, by omega, by omega⟩
  clear hA hB ht hlA hlB
  obtain ⟨an, han⟩ : ∃ an, A.length = an := ⟨_, rfl⟩
  obtain ⟨bn, hbn⟩ : ∃ bn, B.length = bn := ⟨_, rfl⟩
  have HAN : Hid (A.length = an ∧ B.length = bn) := ⟨han, hbn⟩
  rw [han] at HA ⊢
  rw [hbn] at HB ⊢
  clear han hbn
  go_enter Try.func34, Try.ntmps34
  go_wp2_with fail
  refine (HA.out _ (by repeat (first | exact grownBy_refl _ _ | apply grownBy_alloc))).mono ?_
  rintro e w1 ⟨M, rfl, hM, hMt, hMf, hG1⟩
  obtain ⟨W0, hW0⟩ : ∃ W0, W0 = ((w.alloc (.cells #[.int .i64 b, .slice ko an kc, .slice so bn sc] 51)).alloc (.cells #[.int .i64 0, .slice none 0 0, .slice none 0 0] 57)).alloc (.cells #[.int .i64 b, .slice none 0 0, .slice none 0 0] 57) := ⟨_, rfl⟩
  have k0 : W0.heap[w.heap.size]? = some (.cells #[.int .i64 b, .slice ko an kc, .slice so bn sc] 51 (0, 0)) := by rw [hW0]; exact push0' w _ _ _
  have k1 : W0.heap[w.heap.size + 1]? = some (.cells #[.int .i64 0, .slice none 0 0, .slice none 0 0] 57 (0, 0)) := by rw [hW0]; exact push2 w _ _ _
  have k2 : W0.heap[w.heap.size + 2]? = some (.cells #[.int .i64 b, .slice none 0 0, .slice none 0 0] 57 (0, 0)) := by rw [hW0]; exact push3 w _ _ _
  have kz : W0.heap.size = w.heap.size + 3 := by rw [hW0]; simp
  have kg : w.grownBy W0 none := by rw [hW0]; exact grownBy_alloc (grownBy_alloc (World.grownBy_alloc _ _ _) _) _
  rw [← hW0] at hM hMf hG1 ⊢
  clear hW0
  obtain ⟨g1, hg1⟩ : ∃ g1, g1 = W0.heap.size := ⟨_, rfl⟩
  rw [← hg1] at hM hMf ⊢
  have j0 : w1.heap[w.heap.size]? = some (.cells #[.int .i64 b, .slice ko an kc, .slice so bn sc] 51 (0, 0)) := (hG1.block _ (by omega) (by simp)).trans k0
  have j1 : w1.heap[w.heap.size + 1]? = some (.cells #[.int .i64 0, .slice none 0 0, .slice none 0 0] 57 (0, 0)) := (hG1.block _ (by omega) (by simp)).trans k1
  have j2 : w1.heap[w.heap.size + 2]? = some (.cells #[.int .i64 b, .slice none 0 0, .slice none 0 0] 57 (0, 0)) := (hG1.block _ (by omega) (by simp)).trans k2
  have p0 : w1.cell? ⟨w.heap.size, 2, none⟩ = some (.slice so bn sc) := by simp [World.cell?, j0]
  have q1 : w1.cell? ⟨w.heap.size + 2, 1, none⟩ = some (.slice none 0 0) := by simp [World.cell?, j2]
  have f1 : w1.frozen? ⟨w.heap.size + 2, 1, none⟩ = false := by simp [World.frozen?, j2]
  have hz1 : w.heap.size + 3 ≤ w1.heap.size := by have := hG1.size; omega
  have H1 : Hid (ElAt w1 37 2 g1 M ∧ M.map El.tell = A.map Ar.tell ∧ (∀ y ∈ M, ∀ b, y.o = some b → g1 < b) ∧ w.grownBy w1 none ∧ g1 = w.heap.size + 3) := ⟨hM, hMt, hMf, grownBy_trans kg hG1, by rw [hg1, kz]⟩
  have HJ : Hid (w1.heap[w.heap.size + 1]? = some (.cells #[.int .i64 0, .slice none 0 0, .slice none 0 0] 57 (0, 0)) ∧ w1.heap[w.heap.size + 2]? = some (.cells #[.int .i64 b, .slice none 0 0, .slice none 0 0] 57 (0, 0))) := ⟨j1, j2⟩
  clear hM hMt hMf hG1 k0 k1 k2 kz kg hg1 j0 j1 j2 HA
  go_wp2_with fail
  refine (HB.out _ (grownBy_setNew H1.out.2.2.2.1 (by simp; omega))).mono ?_
  rintro e w2 ⟨M2, rfl, hM2, hMt2, hMf2, hG2⟩
  obtain ⟨g2, hg2⟩ : ∃ g2, g2 = (w1.setCell ⟨w.heap.size + 2, 1, none⟩ (.slice (some ⟨g1, 0, none⟩) an an)).heap.size := ⟨_, rfl⟩
  rw [← hg2] at hM2 hMf2 ⊢
  have hz2 : g2 = w1.heap.size := by rw [hg2]; simp [World.setCell]
  have hzs := hG2.size
  rw [← hg2, hz2] at hzs
  have m1 : w2.heap[w.heap.size + 1]? = some (.cells #[.int .i64 0, .slice none 0 0, .slice none 0 0] 57 (0, 0)) := by
    refine (hG2.block _ (by rw [← hg2, hz2]; omega) (by simp)).trans ?_
    rw [heap_setCell_other _ _ _ _ (by simp)]
    exact HJ.out.1
  have m2 : w2.heap[w.heap.size + 2]? = some (.cells #[.int .i64 b, .slice (some ⟨g1, 0, none⟩) an an, .slice none 0 0] 57 (0, 0)) := by
    refine (hG2.block _ (by rw [← hg2, hz2]; omega) (by simp)).trans ?_
    rw [heap_setCell_same w1 (w.heap.size + 2) 1 _ _ _ HJ.out.2]
    rfl
  have a0 : w2.cell? ⟨w.heap.size + 2, 0, none⟩ = some (.int .i64 b) := by simp [World.cell?, m2]
  have a1 : w2.cell? ⟨w.heap.size + 2, 1, none⟩ = some (.slice (some ⟨g1, 0, none⟩) an an) := by simp [World.cell?, m2]
  have a2 : w2.cell? ⟨w.heap.size + 2, 2, none⟩ = some (.slice none 0 0) := by simp [World.cell?, m2]
  have x2 : w2.frozen? ⟨w.heap.size + 2, 2, none⟩ = false := by simp [World.frozen?, m2]
  have r0 : w2.cell? ⟨w.heap.size + 1, 0, none⟩ = some (.int .i64 0) := by simp [World.cell?, m1]
  have r1 : w2.cell? ⟨w.heap.size + 1, 1, none⟩ = some (.slice none 0 0) := by simp [World.cell?, m1]
  have r2 : w2.cell? ⟨w.heap.size + 1, 2, none⟩ = some (.slice none 0 0) := by simp [World.cell?, m1]
  have y0 : w2.frozen? ⟨w.heap.size + 1, 0, none⟩ = false := by simp [World.frozen?, m1]
  have y1 : w2.frozen? ⟨w.heap.size + 1, 1, none⟩ = false := by simp [World.frozen?, m1]
  have y2 : w2.frozen? ⟨w.heap.size + 1, 2, none⟩ = false := by simp [World.frozen?, m1]
  have H2 : Hid (ElAt w2 37 2 g1 M ∧ ElAt w2 79 3 g2 M2 ∧ M2.map El.tell = B.map Ar.tell ∧ (∀ y ∈ M2, ∀ b, y.o = some b → g2 < b) ∧ w.grownBy w2 none ∧ g1 < g2 ∧ (∀ y ∈ M, ∀ b, y.o = some b → g1 < b ∧ b < g2)) := by
    have hg1e := H1.out.2.2.2.2
    have hlt := H1.out.1.lt
    have hA1 : ElAt (w1.setCell ⟨w.heap.size + 2, 1, none⟩ (.slice (some ⟨g1, 0, none⟩) an an)) 37 2 g1 M := H1.out.1.kept (fun k hk hkk => heap_setCell_other _ _ _ _ (by
      show k ≠ w.heap.size + 2
      rcases hkk with rfl | ⟨x, hx, ho⟩
      · omega
      · have := H1.out.2.2.1 x hx k ho; omega))
    refine ⟨hA1.kept (fun k hk _ => hG2.block k hk (by simp)), hM2, hMt2, hMf2, grownBy_trans (grownBy_setNew H1.out.2.2.2.1 (by simp; omega)) hG2, by omega, fun y hy b' hb' => ⟨H1.out.2.2.1 y hy b' hb', ?_⟩⟩
    obtain ⟨i, hi⟩ := List.getElem?_of_mem hy
    have := (ownS_blk (H1.out.1.own i y hi).2.1 hb').lt
    omega
  have HZ : Hid (g1 = w.heap.size + 3) := H1.out.2.2.2.2
  have HT1 : Hid (M.map El.tell = A.map Ar.tell) := H1.out.2.1
  clear hM2 hMt2 hMf2 hG2 hg2 hz2 hzs m1 m2 p0 q1 f1 hz1 H1 HJ HB
  go_wp2
  have lM : M.length = an := by have := congrArg List.length HT1.out; have h2 := HAN.out.1; simp at this; omega
  have lM2 : M2.length = bn := by have := congrArg List.length H2.out.2.2.1; have h2 := HAN.out.2; simp at this; omega
  refine bodyPost_ret (v := .agg #[.int .i64 b, .slice (some ⟨g1, 0, none⟩) an an, .slice (some ⟨g2, 0, none⟩) bn bn]) (by simp [results, Try.results34, go_sem, r0, r1, r2]) rfl ⟨⟨b, some ⟨g1, 0, none⟩, an, M, some ⟨g2, 0, none⟩, bn, M2⟩, by simp [lM, lM2], by simp [Sv.tell, HT1.out, H2.out.2.2.1], ?_, ⟨fit_of HT1.out HF.out.1 HF.out.2.2.1, fit_of H2.out.2.2.1 HF.out.2.1 HF.out.2.2.2⟩, fun k hk => ?_, ?_⟩
  · have hz := HZ.out
    have ho : ∀ {t : TypeId} {m g : Nat} {L : List El} {X : World} (p : Addr) (v : Value), ElAt X t m g L → (∀ k, (k = g ∨ ∃ x ∈ L, x.o = some k) → k ≠ p.block) → ElAt (X.setCell p v) t m g L := fun p v h hk => h.kept (fun k _ hkk => heap_setCell_other _ _ _ _ (hk k hkk))
    have hK : ∀ k, (k = g1 ∨ ∃ x ∈ M, x.o = some k) → w.heap.size + 2 < k := by
      rintro k (rfl | ⟨x, hx, hxo⟩)
      · omega
      · have := (H2.out.2.2.2.2.2.2 x hx k hxo).1; omega
    have hS : ∀ k, (k = g2 ∨ ∃ x ∈ M2, x.o = some k) → w.heap.size + 2 < k := by
      have := H2.out.2.2.2.2.2.1
      rintro k (rfl | ⟨x, hx, hxo⟩)
      · omega
      · have := H2.out.2.2.2.1 x hx k hxo; omega
    refine ⟨.inr ⟨g1, rfl, ?_⟩, .inr ⟨g2, rfl, ?_⟩, fun x hx y hy j hxj hyj => ?_⟩
    · exact ho _ _ (ho _ _ (ho _ _ (ho _ _ H2.out.1 (fun k hk => by have := hK k hk; show k ≠ w.heap.size + 2; omega)) (fun k hk => by have := hK k hk; show k ≠ w.heap.size + 1; omega)) (fun k hk => by have := hK k hk; show k ≠ w.heap.size + 1; omega)) (fun k hk => by have := hK k hk; show k ≠ w.heap.size + 1; omega)
    · exact ho _ _ (ho _ _ (ho _ _ (ho _ _ H2.out.2.1 (fun k hk => by have := hS k hk; show k ≠ w.heap.size + 2; omega)) (fun k hk => by have := hS k hk; show k ≠ w.heap.size + 1; omega)) (fun k hk => by have := hS k hk; show k ≠ w.heap.size + 1; omega)) (fun k hk => by have := hS k hk; show k ≠ w.heap.size + 1; omega)
    · have h1 := (H2.out.2.2.2.2.2.2 x hx j hxj).2
      have h2 := H2.out.2.2.2.1 y hy j hyj
      omega
  · have hz := HZ.out
    have h12 := H2.out.2.2.2.2.2.1
    rcases hk with (h | ⟨x, hx, ho⟩) | (h | ⟨x, hx, ho⟩)
    · have : g1 = k := by simpa using h
      omega
    · have := (H2.out.2.2.2.2.2.2 x hx k ho).1; omega
    · have : g2 = k := by simpa using h
      omega
    · have := H2.out.2.2.2.1 x hx k ho; omega
  · exact grownBy_setNew (grownBy_setNew (grownBy_setNew (grownBy_setNew H2.out.2.2.2.2.1 (by simp; omega)) (by simp)) (by simp)) (by simp)
end Go.Proofs.Ytionggfecikedaa
