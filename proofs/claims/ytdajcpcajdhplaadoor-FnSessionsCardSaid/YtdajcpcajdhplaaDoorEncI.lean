/-
  A valid service laid down by the program, and read back.
-/
import Derived.Test.YtdajcpcajdhplaaDoorImEnc
import Derived.Test.YtdajcpcajdhplaaDoorStDec2
import Derived.Test.YtdajcpcajdhplaaDoorSvLaw
namespace Go.Proofs.YtdajcpcajdhplaaDoor
open Go.RowKit

def seOf (x : El) : Se := ⟨x.c.toNat, x.q.toNat, x.i.toNat, x.d, x.o, x.cp⟩
theorem seOf_el (x : El) (hl : x.hd.length = 3) (h : 0 ≤ x.c ∧ 0 ≤ x.q ∧ 0 ≤ x.i) : (seOf x).el = x := by
  obtain ⟨hd, d, o, cp⟩ := x
  simp only at hl
  match hd, hl with
  | [a, b, c], _ =>
    simp only [El.c, El.q, El.i, List.getD_cons_zero, List.getD_cons_succ] at h
    simp [seOf, Se.el, El.c, El.q, El.i]
    omega
theorem rises_of {l : List El} (hc : ∀ x ∈ l, 0 ≤ x.c) : ∀ b : Nat, risesE (b : Int) l → rises b (l.map (fun x => (seOf x).tell)) := by
  induction l with
  | nil => intro b _; trivial
  | cons x l ih =>
    intro b h
    obtain ⟨h1, h2⟩ := h
    have hx := hc x (by simp)
    have e : ((x.c.toNat : Nat) : Int) = x.c := by omega
    refine ⟨by show b < x.c.toNat; omega, ih (fun y hy => hc y (by simp [hy])) x.c.toNat (by rw [e]; exact h2)⟩
theorem valid_seI {b : Int} {K S : List El} (hV : ValidV b K S) (hl : ∀ x ∈ S, x.hd.length = 3) :
    ∃ (cn : Nat) (L : List Se), S = L.map Se.el ∧ b + (K.length : Int) = (cn : Int) ∧ ValidW cn (L.map Se.tell) := by
  obtain ⟨h0, h1, h2, -, h4, h5⟩ := hV
  obtain ⟨cn, hcn⟩ : ∃ cn : Nat, b + (K.length : Int) = (cn : Int) := ⟨(b + (K.length : Int)).toNat, by omega⟩
  have hpos : ∀ x ∈ S, 0 ≤ x.c ∧ 0 ≤ x.q ∧ 0 ≤ x.i := fun x hx => by
    obtain ⟨h6, h7, _⟩ := h4 x hx
    unfold okE itemOk at h6
    omega
  have hS : S = (S.map seOf).map Se.el := by
    rw [List.map_map]
    conv => lhs; rw [← List.map_id S]
    exact List.map_congr_left fun x hx => (seOf_el x (hl x hx) (hpos x hx)).symm
  refine ⟨cn, S.map seOf, hS, hcn, ⟨by omega, fun y hy => ?_, ?_⟩⟩
  · rw [List.map_map] at hy
    obtain ⟨x, hx, rfl⟩ := List.mem_map.1 hy
    obtain ⟨h6, h7, h8⟩ := h4 x hx
    unfold okE itemOk at h6
    refine ⟨⟨?_, ?_, ?_, ?_, ?_⟩, ?_⟩ <;> simp only [Function.comp_apply, seOf, Se.tell] <;> omega
  · rw [List.map_map]
    exact rises_of (fun x hx => (hpos x hx).1) 0 h5
theorem ElO.ses {w : World} {oa : Option Addr} {cap : Nat} {L : List Se} (h : ElO w 74 3 oa cap (L.map Se.el)) : SesSl w oa L := by
  intro i x hx
  have hx' : (L.map Se.el)[i]? = some x.el := by simp [hx]
  rcases h with ⟨_, _, h0⟩ | ⟨g, rfl, hA⟩
  · rw [h0] at hx'; simp at hx'
  · exact ⟨g, rfl, hA.cell hx' (j := 0) rfl, hA.cell hx' (j := 1) rfl, hA.cell hx' (j := 2) rfl, hA.slice hx', (hA.own i _ hx').2.1, hA.lt⟩
theorem SvAt.hd3 {w : World} {s : Sv} (h : SvAt w s) : ∀ x ∈ s.S, x.hd.length = 3 := by
  intro x hx
  obtain ⟨i, hi⟩ := List.getElem?_of_mem hx
  rcases h.ss with ⟨_, _, h0⟩ | ⟨g, _, hA⟩
  · rw [h0] at hi; simp at hi
  · exact (hA.own i x hi).1
theorem encSt_short {b : Nat} {l : List Sn} (h : ValidW b l) : (encSt b l).length ≤ 1073741824 := by
  have h1 := h.len
  have h2 : ∀ l : List Sn, (∀ x ∈ l, x.d.length ≤ 64) → (encL l).length ≤ 96 * l.length := by
    intro l
    induction l with
    | nil => intro _; simp [encL]
    | cons x l ih =>
      intro hx
      have h3 := ih (fun y hy => hx y (by simp [hy]))
      have h4 := hx x (by simp)
      rw [encL_cons, List.length_append, encS_len]
      simp only [List.length_cons]
      omega
  have h3 := h2 l (fun x hx => (h.2.1 x hx).1.2.2.2.2)
  have h4 : (encSt b l).length = 16 + (encL l).length := by simp [encSt, leN_len]; omega
  omega
theorem implEnc_valid (s : Sv) (w : World) (h : SvAt w s) (hs : SvSmall s) (hV : ValidV s.b s.K s.S) : Calls Tryd.prog 15 #[.agg #[.int .i64 s.b, .slice s.ko s.K.length s.kc, .slice s.so s.S.length s.sc]] w fun e w' => ∃ (g n cp cn : Nat) (L : List Se), e = .returned (.tuple #[.slice (some ⟨g, 0, none⟩) n cp, .int .i64 0]) ∧ Hid (s.S = L.map Se.el ∧ s.b + (s.K.length : Int) = (cn : Int) ∧ ValidW cn (L.map Se.tell) ∧ n = (encSt cn (L.map Se.tell)).length ∧ w.heap.size ≤ g ∧ Own w' 5 g (encSt cn (L.map Se.tell)) ∧ w.grownBy w' none ∧ n ≤ cp ∧ cp ≤ maxLen) := by
  have hval : ∀ w', w.grownBy w' none → Calls Tryd.prog 33 #[.agg #[.int .i64 s.b, .slice s.ko s.K.length s.kc, .slice s.so s.S.length s.sc]] w' fun e w'' => ∃ r : Bool, e = .returned (.bool r) ∧ (r = true ↔ ValidV s.b s.K s.S) ∧ w'.grownBy w'' none := fun w' hw' =>
    svalidE_any s.b s.ko s.kc s.K s.so s.sc s.S w' (h.kk.grown0 hw') (h.ss.grown0 hw') hs.1 hs.2.1 hs.2.2.1 hs.2.2.2
  obtain ⟨cn, L, hL, hcn, hW⟩ := valid_seI hV h.hd3
  have hb0 := hV.1
  obtain ⟨b, ko, kc, K, so, sc, S⟩ := s
  simp only at *
  subst hL
  have hd : ∀ x ∈ L, ∀ z ∈ x.d, z < 256 := by
    intro x hx
    obtain ⟨i, hi⟩ := List.getElem?_of_mem hx
    obtain ⟨_, _, _, _, _, _, h9, _⟩ := h.ss.ses i x hi
    exact h9.sl.2.1
  have h1 := implEncG_ok b ko K.length kc cn hcn hb0 hs.1 so sc L w h.ss.ses hW hd (fun w' hw' => by
    have hv := hval w' hw'
    rw [List.length_map] at hv
    refine hv.mono ?_
    rintro e w'' ⟨r, rfl, hr, hG⟩
    exact ⟨by rw [hr.2 hV], hG⟩)
  rw [List.length_map]
  refine h1.mono ?_
  rintro e w' ⟨g, n, cp, rfl, hn, hg, hO, hG, hc1, hc2⟩
  exact ⟨g, n, cp, cn, L, rfl, rfl, hcn, hW, hn, hg, hO, hG, hc1, hc2⟩
theorem se_tells {L L' : List Se} (h : L.map Se.tell = L'.map Se.tell) : (L.map Se.el).map El.tell = (L'.map Se.el).map El.tell := by
  rw [List.map_map, List.map_map]
  have e : ∀ M : List Se, M.map (El.tell ∘ Se.el) = (M.map Se.tell).map (fun y => ([(y.c : Int), (y.q : Int), (y.i : Int)], y.d)) := fun M => by
    rw [List.map_map]
    exact List.map_congr_left fun x _ => rfl
  rw [e, e, h]
/-- read back: the sessions are the same, and nothing is kept -/
theorem implDec_valid (g n cp cn : Nat) (L : List Se) (w : World) (hO : Own w 5 g (encSt cn (L.map Se.tell))) (hn : n = (encSt cn (L.map Se.tell)).length) (hW : ValidW cn (L.map Se.tell)) (hcn : cn ≤ 1000000) (hc1 : n ≤ cp) (hc2 : cp ≤ maxLen) :
    Calls Tryd.prog 16 #[.slice (some ⟨g, 0, none⟩) n cp] w fun e w' => ∃ (oa : Option Addr) (sn cap : Nat) (S : List El), e = .returned (.tuple #[.agg #[.int .i64 (cn : Int), .slice none 0 0, .slice oa sn cap], .int .i64 0]) ∧ Hid (S.length = sn ∧ S.map El.tell = (L.map Se.el).map El.tell ∧ ElO w' 74 3 oa cap S ∧ (∀ k, ElB oa S k → w.heap.size ≤ k) ∧ w.grownBy w' none) := by
  have hV : ValidS cn (L.map Se.tell) := ⟨hcn, hW.2.1, hW.2.2⟩
  refine (implDecodeState_any g 0 n cp _ w (hO.sl n hn.symm) hc1 hc2 (by rw [hn]; exact encSt_short hW) hO.lt).mono ?_
  rintro e w' ⟨hG, ⟨B, L', v, rfl, hV', he, hrow⟩ | ⟨hno, _⟩⟩
  · obtain ⟨rfl, hLe⟩ := encSt_inj hV' hV he
    obtain ⟨oa, cap, rfl, hA, hB⟩ := svOf_at B hrow
    refine ⟨oa, L'.length, cap, L'.map Se.el, rfl, by simp, se_tells hLe, hA.ss, fun k hk => hB k (.inr hk), hG⟩
  · exact absurd rfl (hno _ _ hV)
end Go.Proofs.YtdajcpcajdhplaaDoor
