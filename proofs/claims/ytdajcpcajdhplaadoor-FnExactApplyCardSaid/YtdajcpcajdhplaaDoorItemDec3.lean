/-
  An item of just eight bytes, read by the model: DecodeItem, walked; and both, for bytes of their own.
-/
import Derived.Test.YtdajcpcajdhplaaDoorItemDec2
namespace Go.Proofs.YtdajcpcajdhplaaDoor
open Go.RowKit

set_option maxRecDepth 4000 in
set_option maxHeartbeats 3000000 in
theorem specDecodeItem_eight (oa : Option Addr) (zs : List Nat) (w : World) (hsl : SlB w oa 8 zs) :
    Calls Tryd.prog 45 #[.slice oa 8 8] w (DecPost w 8 zs) := by
  have hl : zs.length = 8 := hsl.1
  obtain ⟨b, off, rfl, -⟩ := hsl.2.2 (by omega)
  have HS : Hid (SlB w (some ⟨b, off, none⟩) 8 zs) := hsl
  obtain ⟨i0, TB⟩ := byteT
  have hc32 : decCl zs < 4294967296 := val4_lt _ (fun z hz => hsl.2.1 z (List.mem_of_mem_take hz)) (by simp; omega)
  have hq32 : decSq zs < 4294967296 := val4_lt _ (fun z hz => hsl.2.1 z (List.mem_of_mem_drop (List.mem_of_mem_take hz))) (by simp; omega)
  obtain ⟨C, hCe⟩ : ∃ C, decCl zs = C := ⟨_, rfl⟩
  obtain ⟨Q, hQe⟩ : ∃ Q, decSq zs = Q := ⟨_, rfl⟩
  have HT1 : Hid (∀ X : World, w.grownBy X none → Calls Tryd.prog 70 #[.slice (some ⟨b, off, none⟩) 4 8] X fun e w' => e = .returned (.int .i64 (C : Int)) ∧ w' = X) := by
    intro X hX
    rw [← hCe]
    have h1 := slb_cut (HS.out.grown0 hX) 0 4 (by omega)
    have h2 := l2Get_any _ 4 8 _ X h1 (by omega)
    rw [satVal_four _ h1.2.1 (by simp; omega)] at h2
    simpa [decCl] using h2
  have HT2 : Hid (∀ X : World, w.grownBy X none → Calls Tryd.prog 70 #[.slice (some ⟨b, off + 4, none⟩) 4 4] X fun e w' => e = .returned (.int .i64 (Q : Int)) ∧ w' = X) := by
    intro X hX
    rw [← hQe]
    have h1 := slb_cut (HS.out.grown0 hX) 4 4 (by omega)
    have h2 := l2Get_any _ 4 4 _ X h1 (by omega)
    rw [satVal_four _ h1.2.1 (by simp; omega)] at h2
    simpa [decSq] using h2
  have HD : Hid (∀ X : World, w.grownBy X none → SlB X (some ⟨b, off, none⟩) 0 (zs.drop 8)) := by
    intro X hX
    have h0 : zs.drop 8 = [] := List.drop_of_length_le (by omega)
    rw [h0]
    exact ⟨rfl, by simp, fun h => absurd rfl h⟩
  have HCQ : Hid (decCl zs = C ∧ decSq zs = Q) := ⟨hCe, hQe⟩
  rw [hCe] at hc32
  rw [hQe] at hq32
  have HZ : Hid (∀ z ∈ zs.drop 8, z < 256) := fun z hz => hsl.2.1 z (List.mem_of_mem_drop hz)
  clear hsl hCe hQe
  go_enter Tryd.func45, Tryd.ntmps45
  go_wp2_with fail
  go_cut [4] (fun p wx => DecLaid w wx p C Q 0 (zs.drop 8))
  case first =>
    go_region_held3 (fun _ => True) (first | exact trivial | fail)
      (first
        | (go_at_call 70; refine calls_args (args := #[.slice (some ⟨b, off, none⟩) 4 8]) (by rfl) ((HT1.out _ (by repeat (first | exact grownBy_refl _ _ | exact HW3.out | apply grownBy_drew | apply grownBy_alloc))).mono ?_); rintro e w' ⟨rfl, rfl⟩)
        | (go_at_call 70; refine calls_args (args := #[.slice (some ⟨b, off + 4, none⟩) 4 4]) (by rfl) ((HT2.out _ (by repeat (first | exact grownBy_refl _ _ | exact HW3.out | apply grownBy_drew | apply grownBy_alloc))).mono ?_); rintro e w' ⟨rfl, rfl⟩)
        | (refine step_append_b (by rfl) (.tmp 15) (.tmp 17) TB (by rfl) (base := w.heap.size + 1) (g := w.heap.size + 1) (n := 0) (cap := 0) (xs := []) (by rfl) (by exact row0 _ _ (w.heap.size + 1) _ (by omega) (push1 w _ _)) (oa := some ⟨b, off, none⟩) (m := 0) (c := 0) (zs := zs.drop 8) (by rfl) (by exact HD.out _ (by repeat (first | exact grownBy_refl _ _ | apply grownBy_drew | apply grownBy_alloc))) (by omega) (by simp) ?_; intro g3 c3 w3 hown hgr hat hsz; obtain ⟨hrb, y0, y1, y2, f0, f1, f2⟩ := far3 hgr.out (k := w.heap.size) (by omega) (push0 w _ _); have HW3 : Hid (w.grownBy w3 none) := (by exact grown_next hgr.out (grownBy_alloc (World.grownBy_alloc w _ none) _) ⟨rfl, rfl, rfl, rfl⟩ (by omega)))
        | (refine step_append_b (by rfl) (.tmp 15) (.tmp 17) TB (by rfl) (base := w.heap.size + 1) (g := w.heap.size + 1) (n := 0) (cap := 0) (xs := []) (by rfl) (by exact row0 _ _ (w.heap.size + 1) _ (by omega) (push2 w _ _ _)) (oa := some ⟨b, off, none⟩) (m := 0) (c := 0) (zs := zs.drop 8) (by rfl) (by exact HD.out _ (by repeat (first | exact grownBy_refl _ _ | apply grownBy_drew | apply grownBy_alloc))) (by omega) (by simp) ?_; intro g3 c3 w3 hown hgr hat hsz; obtain ⟨hkb, q0, q1, q2, p0, p1, p2⟩ := far3 hgr.out (k := w.heap.size + 2) (by omega) (push3 w _ _ _); obtain ⟨hrb, y0, y1, y2, f0, f1, f2⟩ := far3 hgr.out (k := w.heap.size) (by omega) (push0' w _ _ _); have HW3 : Hid (w.grownBy w3 none) := (by exact grown_next hgr.out (grownBy_alloc (grownBy_alloc (World.grownBy_alloc w _ none) _) _) ⟨rfl, rfl, rfl, rfl⟩ (by omega)))
        | (refine step_append_b (by rfl) (.tmp 15) (.tmp 17) TB (by rfl) (base := w.heap.size + 1) (g := w.heap.size + 2) (n := 0) (cap := 0) (xs := []) (by rfl) (by exact row0 _ _ (w.heap.size + 2) _ (by omega) (push3 w _ _ _)) (oa := some ⟨b, off, none⟩) (m := 0) (c := 0) (zs := zs.drop 8) (by rfl) (by exact HD.out _ (by repeat (first | exact grownBy_refl _ _ | apply grownBy_drew | apply grownBy_alloc))) (by omega) (by simp) ?_; intro g3 c3 w3 hown hgr hat hsz; obtain ⟨hkb, q0, q1, q2, p0, p1, p2⟩ := far3 hgr.out (k := w.heap.size + 1) (by omega) (push2 w _ _ _); obtain ⟨hrb, y0, y1, y2, f0, f1, f2⟩ := far3 hgr.out (k := w.heap.size) (by omega) (push0' w _ _ _); have HW3 : Hid (w.grownBy w3 none) := (by exact grown_next hgr.out (grownBy_alloc (grownBy_alloc (World.grownBy_alloc w _ none) _) _) ⟨rfl, rfl, rfl, rfl⟩ (by omega)))
        | fail)
    all_goals
      have hO3 : Own w3 5 g3 (zs.drop 8) := by have h1 := hown.out; rw [Nat.zero_add, List.nil_append] at h1; exact own_made h1 HZ.out
      have hg3 := (hown.out.lt g3 rfl).1
      have hs3 : w.heap.size < w3.heap.size := by have := hO3.lt; omega
      go_wp2_with fail
      go_meet
      case rel =>
        first
          | exact decLaid_alloc w w3 g3 c3 C Q 0 (zs.drop 8) _ _ hs3 (by omega) hrb hO3 HW3.out
          | exact decLaid_set w w3 _ g3 c3 C Q 0 (zs.drop 8) _ _ (by omega) (by omega) (by rcases hat.out with h | h <;> (try simp at h) <;> omega) hkb hrb hO3 HW3.out
  case rest =>
    obtain ⟨bx, g, c, rfl, ⟨x0, x1, x2⟩, hbx, hg, hs, hO, ⟨y0, y1, y2⟩, ⟨f0, f1, f2⟩, hG⟩ := hcut
    have HR : Hid (Own wc 5 g (zs.drop 8) ∧ w.grownBy wc none) := ⟨hO, hG⟩
    clear hO hG HT1 HT2 HD HZ HS
    by_cases hk : itemOk C Q 0
    · have HK : Hid (itemOk C Q 0) := hk
      clear hk
      go_wp2_with fail
      refine (l5Item_yes _ _ _ _ _ _ HK.out).mono ?_
      rintro e w2 ⟨rfl, hw2⟩
      subst hw2
      go_wp2
      refine bodyPost_ret (v := .tuple #[.agg #[.int .i64 (C : Int), .int .i64 (Q : Int), .slice (some ⟨g, 0, none⟩) 0 c], .int .i64 0]) (by simp [results, Tryd.results45, go_sem, y0, y1, y2]) rfl ?_
      refine .inl ⟨?_, g, c, ?_, by omega, ?_, ?_⟩
      · rw [HCQ.out.1, HCQ.out.2]; exact HK.out
      · rw [HCQ.out.1, HCQ.out.2]
      · exact ((HR.out.1.setOther (by simp; omega)).setOther (by simp; omega)).setOther (by simp; omega)
      · exact grownBy_setNew (grownBy_setNew (grownBy_setNew HR.out.2 (by simp)) (by simp)) (by simp)
    · have HK : Hid (¬ itemOk C Q 0) := hk
      clear hk
      go_wp2_with fail
      refine (l5Item_no _ _ _ _ _ _ HK.out (by unfold maxLen; omega)).mono ?_
      rintro e w2 ⟨rfl, hw2⟩
      subst hw2
      go_wp2
      refine bodyPost_ret (v := .tuple #[.agg #[.int .i64 0, .int .i64 0, .slice none 0 0], .int .i64 5]) (by simp [results, Tryd.results45, go_sem, y0, y1, y2]) rfl ?_
      refine .inr ⟨?_, rfl, ?_⟩
      · rw [HCQ.out.1, HCQ.out.2]; exact HK.out
      · exact grownBy_setNew (grownBy_setNew (grownBy_setNew HR.out.2 (by simp)) (by simp)) (by simp)

/-- what DecodeItem tells -/
abbrev decGood (zs : List Nat) : Prop := 8 ≤ zs.length ∧ itemOk (decCl zs) (decSq zs) (zs.length - 8)
def dC (zs : List Nat) : Int := if decGood zs then decCl zs else 0
def dQ (zs : List Nat) : Int := if decGood zs then decSq zs else 0
def dD (zs : List Nat) : List Nat := if decGood zs then zs.drop 8 else []
def dK (zs : List Nat) : Int := if decGood zs then 0 else 5
def DecAll (w : World) (zs : List Nat) (e : Ending) (w' : World) : Prop :=
  ∃ og n cp, e = .returned (.tuple #[.agg #[.int .i64 (dC zs), .int .i64 (dQ zs), .slice og n cp], .int .i64 (dK zs)]) ∧ n ≤ 1073741824 ∧ (og = none → cp = 0) ∧ (∀ g, blk og = some g → w.heap.size ≤ g) ∧ OwnS w' 5 og n (dD zs) ∧ w.grownBy w' none
theorem decAll_bad {w w' : World} {zs : List Nat} (h : ¬ decGood zs) (hG : w.grownBy w' none) : DecAll w zs (.returned (.tuple #[.agg #[.int .i64 0, .int .i64 0, .slice none 0 0], .int .i64 5])) w' := by
  refine ⟨none, 0, 0, ?_, by omega, fun _ => rfl, (fun g hg => by cases hg), ?_, hG⟩
  · simp [dC, dQ, dK, h]
  · rw [dD, if_neg h]; exact OwnS.none _ _
theorem decAll_of {w w' : World} {len : Nat} {zs : List Nat} {e : Ending} (hl : zs.length = len) (h8 : 8 ≤ len) (hm : len ≤ 1073741824) (h : DecPost w len zs e w') : DecAll w zs e w' := by
  rcases h with ⟨hk, g, cp, rfl, hg, hO, hG⟩ | ⟨hk, rfl, hG⟩
  · have hd : decGood zs := ⟨by omega, by rw [hl]; exact hk⟩
    refine ⟨some ⟨g, 0, none⟩, len - 8, cp, by simp [dC, dQ, dK, hd], by omega, (fun h => by cases h), fun g' hg' => ?_, ?_, hG⟩
    · obtain rfl : g = g' := by simpa [blk] using hg'
      exact hg
    · rw [dD, if_pos hd]; exact hO.s (by simp; omega)
  · exact decAll_bad (fun hd => hk (by have := hd.2; rw [hl] at this; exact this)) hG
theorem implDecodeItem_any (oa : Option Addr) (len : Nat) (zs : List Nat) (w : World) (hsl : SlB w oa len zs) (hm : len ≤ 1073741824) :
    Calls Tryd.prog 11 #[.slice oa len len] w (DecAll w zs) := by
  have hl := hsl.1
  by_cases h8 : 8 ≤ len
  · exact (implDecodeItem_long oa len len zs w hsl h8 (Nat.le_refl _) hm).mono fun e w' h => decAll_of hl h8 hm h
  · refine (implDecodeItem_short oa len len w (by omega)).mono ?_
    rintro e w' ⟨rfl, hG⟩
    exact decAll_bad (fun hd => by have := hd.1; omega) hG
theorem specDecodeItem_any (oa : Option Addr) (len : Nat) (zs : List Nat) (w : World) (hsl : SlB w oa len zs) (hm : len ≤ 1073741824) :
    Calls Tryd.prog 45 #[.slice oa len len] w (DecAll w zs) := by
  have hl := hsl.1
  by_cases h8 : 8 ≤ len
  · by_cases h9 : len = 8
    · subst h9
      exact (specDecodeItem_eight oa zs w hsl).mono fun e w' h => decAll_of hl h8 hm h
    · exact (specDecodeItem_long oa len len zs w hsl h8 (Nat.le_refl _) hm h9).mono fun e w' h => decAll_of hl h8 hm h
  · refine (specDecodeItem_short oa len len w (by omega)).mono ?_
    rintro e w' ⟨rfl, hG⟩
    exact decAll_bad (fun hd => by have := hd.1; omega) hG
end Go.Proofs.YtdajcpcajdhplaaDoor
