/-
  ItemDec3, Ap1
-/
import Derived.Test.YtdajcpcajdhplaaDoorSvc11
import Derived.Test.YtdajcpcajdhplaaDoorSvc10
import Derived.Deep.RegionHeld3
/-
  An item of just eight bytes, read by the model: DecodeItem, walked; and both, for bytes of their own.
-/
namespace Go.Proofs.YtdajcpcajdhplaaDoor
open Go.RowKit

set_option maxRecDepth 4000 in
set_option maxHeartbeats 3000000 in
theorem specDecodeItem_eight (oa : Option Addr) (zs : List Nat) (w : World) (hsl : SlB w oa 8 zs) :
    Calls Tryd.prog 45 #[.slice oa 8 8] w (DecPost w 8 zs) := by
  have hl : zs.length = 8 := hsl.1; obtain ⟨b, off, rfl, -⟩ := hsl.2.2 (by omega); have HS : Hid (SlB w (some ⟨b, off, none⟩) 8 zs) := hsl; obtain ⟨i0, TB⟩ := byteT; have hc32 : decCl zs < 4294967296 := val4_lt _ (fun z hz => hsl.2.1 z (List.mem_of_mem_take hz)) (by simp; omega); have hq32 : decSq zs < 4294967296 := val4_lt _ (fun z hz => hsl.2.1 z (List.mem_of_mem_drop (List.mem_of_mem_take hz))) (by simp; omega); obtain ⟨C, hCe⟩ : ∃ C, decCl zs = C := ⟨_, rfl⟩; obtain ⟨Q, hQe⟩ : ∃ Q, decSq zs = Q := ⟨_, rfl⟩
  have HT1 : Hid (∀ X : World, w.grownBy X none → Calls Tryd.prog 70 #[.slice (some ⟨b, off, none⟩) 4 8] X fun e w' => e = .returned (.int .i64 (C : Int)) ∧ w' = X) := by
    intro X hX; rw [← hCe]; have h1 := slb_cut (HS.out.grown0 hX) 0 4 (by omega); have h2 := l2Get_any _ 4 8 _ X h1 (by omega); rw [satVal_four _ h1.2.1 (by simp; omega)] at h2
    simpa [decCl] using h2
  have HT2 : Hid (∀ X : World, w.grownBy X none → Calls Tryd.prog 70 #[.slice (some ⟨b, off + 4, none⟩) 4 4] X fun e w' => e = .returned (.int .i64 (Q : Int)) ∧ w' = X) := by
    intro X hX; rw [← hQe]; have h1 := slb_cut (HS.out.grown0 hX) 4 4 (by omega); have h2 := l2Get_any _ 4 4 _ X h1 (by omega); rw [satVal_four _ h1.2.1 (by simp; omega)] at h2
    simpa [decSq] using h2
  have HD : Hid (∀ X : World, w.grownBy X none → SlB X (some ⟨b, off, none⟩) 0 (zs.drop 8)) := by
    intro X hX; have h0 : zs.drop 8 = [] := List.drop_of_length_le (by omega); rw [h0]; exact ⟨rfl, by simp, fun h => absurd rfl h⟩
  have HCQ : Hid (decCl zs = C ∧ decSq zs = Q) := ⟨hCe, hQe⟩; rw [hCe] at hc32; rw [hQe] at hq32
  have HZ : Hid (∀ z ∈ zs.drop 8, z < 256) := fun z hz => hsl.2.1 z (List.mem_of_mem_drop hz)
  clear hsl hCe hQe
  go_enter Tryd.func45, Tryd.ntmps45
  go_wp2_with fail
  go_cut [4] (fun p wx => DecLaid w wx p C Q 0 (zs.drop 8))
  case first =>
    go_region_held3 (fun _ => True) (first | exact trivial | fail)
      (first
        | (go_at_call 70; refine calls_args (args := #[.slice (some ⟨b, off, none⟩) 4 8]) (by rfl) ((HT1.out _ (by repeat (first | exact grownBy_refl _ _ | exact HW3.out | apply grownBy_drew | apply grownBy_alloc))).mono ?_); rintro e w' ⟨rfl, rfl⟩)
        | (go_at_call 70; refine calls_args (args := #[.slice (some ⟨b, off + 4, none⟩) 4 4]) (by rfl) ((HT2.out _ (by repeat (first | exact grownBy_refl _ _ | exact HW3.out | apply grownBy_drew | apply grownBy_alloc))).mono ?_); rintro e w' ⟨rfl, rfl⟩)
        | (refine step_append_b (by rfl) (.tmp 15) (.tmp 17) TB (by rfl) (base := w.heap.size + 1) (g := w.heap.size + 1) (n := 0) (cap := 0) (xs := []) (by rfl) (by exact row0 _ _ (w.heap.size + 1) _ (by omega) (push1 w _ _)) (oa := some ⟨b, off, none⟩) (m := 0) (c := 0) (zs := zs.drop 8) (by rfl) (by exact HD.out _ (by repeat (first | exact grownBy_refl _ _ | apply grownBy_drew | apply grownBy_alloc))) (by omega) (by simp) ?_; intro g3 c3 w3 hown hgr hat hsz; obtain ⟨hrb, y0, y1, y2, f0, f1, f2⟩ := far3 hgr.out (k := w.heap.size) (by omega) (push0 w _ _); have HW3 : Hid (w.grownBy w3 none) := (by exact grown_next hgr.out (grownBy_alloc (World.grownBy_alloc w _ none) _) ⟨rfl, rfl, rfl, rfl⟩ (by omega)))
        | (refine step_append_b (by rfl) (.tmp 15) (.tmp 17) TB (by rfl) (base := w.heap.size + 1) (g := w.heap.size + 1) (n := 0) (cap := 0) (xs := []) (by rfl) (by exact row0 _ _ (w.heap.size + 1) _ (by omega) (push2 w _ _ _)) (oa := some ⟨b, off, none⟩) (m := 0) (c := 0) (zs := zs.drop 8) (by rfl) (by exact HD.out _ (by repeat (first | exact grownBy_refl _ _ | apply grownBy_drew | apply grownBy_alloc))) (by omega) (by simp) ?_; intro g3 c3 w3 hown hgr hat hsz; obtain ⟨hkb, q0, q1, q2, p0, p1, p2⟩ := far3 hgr.out (k := w.heap.size + 2) (by omega) (push3 w _ _ _); obtain ⟨hrb, y0, y1, y2, f0, f1, f2⟩ := far3 hgr.out (k := w.heap.size) (by omega) (push0' w _ _ _); have HW3 : Hid (w.grownBy w3 none) := (by exact grown_next hgr.out (grownBy_alloc (grownBy_alloc (World.grownBy_alloc w _ none) _) _) ⟨rfl, rfl, rfl, rfl⟩ (by omega)))
        | (refine step_append_b (by rfl) (.tmp 15) (.tmp 17) TB (by rfl) (base := w.heap.size + 1) (g := w.heap.size + 2) (n := 0) (cap := 0) (xs := []) (by rfl) (by exact row0 _ _ (w.heap.size + 2) _ (by omega) (push3 w _ _ _)) (oa := some ⟨b, off, none⟩) (m := 0) (c := 0) (zs := zs.drop 8) (by rfl) (by exact HD.out _ (by repeat (first | exact grownBy_refl _ _ | apply grownBy_drew | apply grownBy_alloc))) (by omega) (by simp) ?_; intro g3 c3 w3 hown hgr hat hsz; obtain ⟨hkb, q0, q1, q2, p0, p1, p2⟩ := far3 hgr.out (k := w.heap.size + 1) (by omega) (push2 w _ _ _); obtain ⟨hrb, y0, y1, y2, f0, f1, f2⟩ := far3 hgr.out (k := w.heap.size) (by omega) (push0' w _ _ _); have HW3 : Hid (w.grownBy w3 none) := (by exact grown_next hgr.out (grownBy_alloc (grownBy_alloc (World.grownBy_alloc w _ none) _) _) ⟨rfl, rfl, rfl, rfl⟩ (by omega)))
        | fail)
    all_goals
      have hO3 : Own w3 5 g3 (zs.drop 8) := by have h1 := hown.out; rw [Nat.zero_add, List.nil_append] at h1; exact own_made h1 HZ.out
      have hg3 := (hown.out.lt g3 rfl).1
      have hs3 : w.heap.size < w3.heap.size := by have := hO3.lt; omega
      go_wp2_with fail; go_meet
      case rel =>
        first
          | exact decLaid_alloc w w3 g3 c3 C Q 0 (zs.drop 8) _ _ hs3 (by omega) hrb hO3 HW3.out
          | exact decLaid_set w w3 _ g3 c3 C Q 0 (zs.drop 8) _ _ (by omega) (by omega) (by rcases hat.out with h | h <;> (try simp at h) <;> omega) hkb hrb hO3 HW3.out
  case rest =>
    obtain ⟨bx, g, c, rfl, ⟨x0, x1, x2⟩, hbx, hg, hs, hO, ⟨y0, y1, y2⟩, ⟨f0, f1, f2⟩, hG⟩ := hcut; have HR : Hid (Own wc 5 g (zs.drop 8) ∧ w.grownBy wc none) := ⟨hO, hG⟩; clear hO hG HT1 HT2 HD HZ HS
    by_cases hk : itemOk C Q 0
    · have HK : Hid (itemOk C Q 0) := hk; clear hk; go_wp2_with fail; refine (l5Item_yes _ _ _ _ _ _ HK.out).mono ?_; rintro e w2 ⟨rfl, hw2⟩; subst hw2; go_wp2; refine bodyPost_ret (v := .tuple #[.agg #[.int .i64 (C : Int), .int .i64 (Q : Int), .slice (some ⟨g, 0, none⟩) 0 c], .int .i64 0]) (by simp [results, Tryd.results45, go_sem, y0, y1, y2]) rfl ?_; refine .inl ⟨?_, g, c, ?_, by omega, ?_, ?_⟩
      · rw [HCQ.out.1, HCQ.out.2]; exact HK.out
      · rw [HCQ.out.1, HCQ.out.2]
      · exact ((HR.out.1.setOther (by simp; omega)).setOther (by simp; omega)).setOther (by simp; omega)
      · exact grownBy_setNew (grownBy_setNew (grownBy_setNew HR.out.2 (by simp)) (by simp)) (by simp)
    · have HK : Hid (¬ itemOk C Q 0) := hk; clear hk; go_wp2_with fail; refine (l5Item_no _ _ _ _ _ _ HK.out (by unfold maxLen; omega)).mono ?_; rintro e w2 ⟨rfl, hw2⟩; subst hw2; go_wp2; refine bodyPost_ret (v := .tuple #[.agg #[.int .i64 0, .int .i64 0, .slice none 0 0], .int .i64 5]) (by simp [results, Tryd.results45, go_sem, y0, y1, y2]) rfl ?_; refine .inr ⟨?_, rfl, ?_⟩
      · rw [HCQ.out.1, HCQ.out.2]; exact HK.out
      · exact grownBy_setNew (grownBy_setNew (grownBy_setNew HR.out.2 (by simp)) (by simp)) (by simp)

/-- what DecodeItem tells -/
abbrev decGood (zs : List Nat) : Prop := 8 ≤ zs.length ∧ itemOk (decCl zs) (decSq zs) (zs.length - 8)
def dC (zs : List Nat) : Int := if decGood zs then decCl zs else 0
def dQ (zs : List Nat) : Int := if decGood zs then decSq zs else 0
def dD (zs : List Nat) : List Nat := if decGood zs then zs.drop 8 else []
def dK (zs : List Nat) : Int := if decGood zs then 0 else 5
def DecAll (w : World) (zs : List Nat) (e : Ending) (w' : World) : Prop :=
  ∃ og n cp, e = .returned (.tuple #[.agg #[.int .i64 (dC zs), .int .i64 (dQ zs), .slice og n cp], .int .i64 (dK zs)]) ∧ n ≤ 1073741824 ∧ (og = none → cp = 0) ∧ (∀ g, blk og = some g → w.heap.size ≤ g) ∧ OwnS w' 5 og n (dD zs) ∧ w.grownBy w' none
theorem decAll_bad {w w' : World} {zs : List Nat} (h : ¬ decGood zs) (hG : w.grownBy w' none) : DecAll w zs (.returned (.tuple #[.agg #[.int .i64 0, .int .i64 0, .slice none 0 0], .int .i64 5])) w' := by
  refine ⟨none, 0, 0, ?_, by omega, fun _ => rfl, (fun g hg => by cases hg), ?_, hG⟩
  · simp [dC, dQ, dK, h]
  · rw [dD, if_neg h]; exact OwnS.none _ _
theorem decAll_of {w w' : World} {len : Nat} {zs : List Nat} {e : Ending} (hl : zs.length = len) (h8 : 8 ≤ len) (hm : len ≤ 1073741824) (h : DecPost w len zs e w') : DecAll w zs e w' := by
  rcases h with ⟨hk, g, cp, rfl, hg, hO, hG⟩ | ⟨hk, rfl, hG⟩
  · have hd : decGood zs := ⟨by omega, by rw [hl]; exact hk⟩; refine ⟨some ⟨g, 0, none⟩, len - 8, cp, by simp [dC, dQ, dK, hd], by omega, (fun h => by cases h), fun g' hg' => ?_, ?_, hG⟩
    · obtain rfl : g = g' := by simpa [blk] using hg'
      exact hg
    · rw [dD, if_pos hd]; exact hO.s (by simp; omega)
  · exact decAll_bad (fun hd => hk (by have := hd.2; rw [hl] at this; exact this)) hG
theorem implDecodeItem_any (oa : Option Addr) (len : Nat) (zs : List Nat) (w : World) (hsl : SlB w oa len zs) (hm : len ≤ 1073741824) :
    Calls Tryd.prog 11 #[.slice oa len len] w (DecAll w zs) := by
  have hl := hsl.1
  by_cases h8 : 8 ≤ len
  · exact (implDecodeItem_long oa len len zs w hsl h8 (Nat.le_refl _) hm).mono fun e w' h => decAll_of hl h8 hm h
  · refine (implDecodeItem_short oa len len w (by omega)).mono ?_; rintro e w' ⟨rfl, hG⟩; exact decAll_bad (fun hd => by have := hd.1; omega) hG
theorem specDecodeItem_any (oa : Option Addr) (len : Nat) (zs : List Nat) (w : World) (hsl : SlB w oa len zs) (hm : len ≤ 1073741824) :
    Calls Tryd.prog 45 #[.slice oa len len] w (DecAll w zs) := by
  have hl := hsl.1
  by_cases h8 : 8 ≤ len
  · by_cases h9 : len = 8
    · subst h9
      exact (specDecodeItem_eight oa zs w hsl).mono fun e w' h => decAll_of hl h8 hm h
    · exact (specDecodeItem_long oa len len zs w hsl h8 (Nat.le_refl _) hm h9).mono fun e w' h => decAll_of hl h8 hm h
  · refine (specDecodeItem_short oa len len w (by omega)).mono ?_; rintro e w' ⟨rfl, hG⟩; exact decAll_bad (fun hd => by have := hd.1; omega) hG
theorem decItem_good (oa : Option Addr) (len cap : Nat) (zs : List Nat) (w : World) (hsl : SlB w oa len zs) (hcp : len ≤ cap) (hm : len ≤ 1073741824) (hd : decGood zs) :
    Calls Tryd.prog 11 #[.slice oa len cap] w fun e w' => ∃ g cp, e = .returned (.tuple #[.agg #[.int .i64 (decCl zs : Int), .int .i64 (decSq zs : Int), .slice (some ⟨g, 0, none⟩) (len - 8) cp], .int .i64 0]) ∧ w.heap.size ≤ g ∧ Own w' 5 g (zs.drop 8) ∧ w.grownBy w' none := by
  have hl := hsl.1; refine (implDecodeItem_long oa len cap zs w hsl (by have := hd.1; omega) hcp hm).mono ?_; rintro e w' (⟨hk, h⟩ | ⟨hk, h⟩)
  · exact h
  · exact absurd (by have := hd.2; rwa [hl] at this) hk
theorem decItem_bad (oa : Option Addr) (len cap : Nat) (zs : List Nat) (w : World) (hsl : SlB w oa len zs) (hcp : len ≤ cap) (hm : len ≤ 1073741824) (hd : ¬ decGood zs) :
    Calls Tryd.prog 11 #[.slice oa len cap] w fun e w' => e = .returned (.tuple #[.agg #[.int .i64 0, .int .i64 0, .slice none 0 0], .int .i64 5]) ∧ w.grownBy w' none := by
  have hl := hsl.1
  by_cases h8 : 8 ≤ len
  · refine (implDecodeItem_long oa len cap zs w hsl h8 hcp hm).mono ?_; rintro e w' (⟨hk, h⟩ | ⟨hk, h⟩)
    · exact absurd ⟨by omega, by rw [hl]; exact hk⟩ hd
    · exact h
  · exact implDecodeItem_short oa len cap w (by omega)
theorem Spot.one {S : List El} {key : Int} {k j : Nat} (h : Spot S key k) (h' : Spot S key j) : k = j := by
  have aux : ∀ {a c : Nat}, Spot S key a → Spot S key c → ¬ a < c := fun {a c} ha hc hac => by
    have hle := hc.le; have hx := List.getElem?_eq_getElem (l := S) (i := a) (by omega); have h1 := hc.lo a _ hac hx; have h2 := ha.hi a _ (Nat.le_refl _) hx
    omega
  have h1 := aux h h'; have h2 := aux h' h
  omega
theorem spot_ex (S : List El) (key : Int) : ∀ b, risesE b S → ∃ k, Spot S key k := by
  induction S with
  | nil => intro b _; exact ⟨0, Nat.le_refl _, fun i x hi => absurd hi (by omega), fun i x _ h => by simp at h⟩
  | cons y S ih =>
    intro b hb
    by_cases hy : y.c < key
    · obtain ⟨k, h⟩ := ih y.c hb.2; refine ⟨k + 1, by simpa using h.le, fun i x hi hx => ?_, fun i x hi hx => ?_⟩
      · cases i with
        | zero => simp at hx; subst hx; exact hy
        | succ i => exact h.lo i x (by omega) (by simpa using hx)
      · cases i with
        | zero => omega
        | succ i => exact h.hi i x (by omega) (by simpa using hx)
    · refine ⟨0, Nat.zero_le _, fun i x hi => absurd hi (by omega), fun i x _ hx => ?_⟩
      cases i with
      | zero => simp at hx; subst hx; omega
      | succ i =>
        have := risesE_lt S y.c hb.2 i x (by simpa using hx)
        omega
set_option maxRecDepth 4000 in
set_option maxHeartbeats 1000000 in
theorem apply_empty (p : Value) (oa : Option Addr) (cap : Nat) (w : World) :
    Calls Tryd.prog 35 #[p, .slice oa 0 cap] w fun e w' => e = .returned (.tuple #[.int .i64 0, .nilIface]) ∧ w.grownBy w' none := by
  go_enter Tryd.func35, Tryd.ntmps35
  go_wp2
  go_ret2
  exact ⟨rfl, grownBy_refl _ _⟩
set_option maxRecDepth 4000 in
set_option maxHeartbeats 1000000 in
theorem apply_bad (p : Value) (oa : Option Addr) (len cap : Nat) (zs : List Nat) (ad : Nat → Addr) (w : World) (hE : ErrsAt w ad) (hsl : SlB w oa len zs) (h0 : 0 < len) (hcp : len ≤ cap) (hm : len ≤ 1073741824) (hd : ¬ decGood zs) :
    Calls Tryd.prog 35 #[p, .slice oa len cap] w fun e w' => e = .returned (.tuple #[.int .i64 0, .iface 150 (.pointer (some (ad 0)))]) ∧ w.grownBy w' none := by
  have HD : Hid (Calls Tryd.prog 11 #[.slice oa len cap] w fun e w' => e = .returned (.tuple #[.agg #[.int .i64 0, .int .i64 0, .slice none 0 0], .int .i64 5]) ∧ w.grownBy w' none) := decItem_bad oa len cap zs w hsl hcp hm hd; have HE : Hid (ErrsAt w ad) := hE
  have e0 : ((len : Int) == 0) = false := by have : (len : Int) ≠ 0 := by omega
                                             simpa using this
  clear hE hsl hd h0
  go_enter Tryd.func35, Tryd.ntmps35
  go_wp2_with fail; refine HD.out.mono ?_; rintro e w1 ⟨rfl, hG1⟩; have HG1 : Hid (w.grownBy w1 none) := hG1; have c0 := (HE.out.grown hG1).cell 0 (by decide); have l0 := cell_block_lt c0; simp only at l0
  have n0 : ¬ (w1.heap.size = 0) := by omega
  have n1 : ¬ (0 = w1.heap.size) := by omega
  clear hG1; go_wp2; go_quiet (fail); go_wp2
  go_ret2
  refine ⟨rfl, ?_⟩; exact grownBy_same (grownBy_alloc HG1.out _) ⟨rfl, rfl, rfl, rfl⟩
set_option maxRecDepth 4000 in
set_option maxHeartbeats 2000000 in
theorem apply_again (p gk kn kc gs sc : Nat) (b : Int) (S : List El) (k : Nat) (x : El) (oa : Option Addr) (len cap : Nat) (zs : List Nat) (ad : Nat → Addr) (w : World) (hE : ErrsAt w ad) (hsl : SlB w oa len zs) (hcp : len ≤ cap) (hm : len ≤ 1073741824) (hd : decGood zs)
    (hp : w.heap[p]? = some (.cells #[.int .i64 b, .slice (some ⟨gk, 0, none⟩) kn kc, .slice (some ⟨gs, 0, none⟩) S.length sc] 28 (0, 0))) (hS : ElAt w 74 3 gs S) (hr : risesE 0 S) (hn : S.length ≤ 1048576)
    (hk : Spot S (decCl zs : Int) k) (hx : S[k]? = some x) (hxc : x.c = (decCl zs : Int)) (hq : (decSq zs : Int) ≤ x.q) :
    Calls Tryd.prog 35 #[.pointer (some ⟨p, 0, none⟩), .slice oa len cap] w fun e w' => ((sameItem x.q x.d (decSq zs : Int) (zs.drop 8) ∧ e = .returned (.tuple #[.int .i64 x.i, .nilIface])) ∨ (¬ sameItem x.q x.d (decSq zs : Int) (zs.drop 8) ∧ e = .returned (.tuple #[.int .i64 0, .iface 150 (.pointer (some (ad 4)))]))) ∧ w.grownBy w' none := by
  have h8 : 8 ≤ len := by have h1 := hd.1; have h2 := hsl.1; omega
  have e0 : ((len : Int) == 0) = false := by have : (len : Int) ≠ 0 := by omega
                                             simpa using this
  have HD : Hid (Calls Tryd.prog 11 #[.slice oa len cap] w fun e w' => ∃ g cp, e = .returned (.tuple #[.agg #[.int .i64 (decCl zs : Int), .int .i64 (decSq zs : Int), .slice (some ⟨g, 0, none⟩) (len - 8) cp], .int .i64 0]) ∧ w.heap.size ≤ g ∧ Own w' 5 g (zs.drop 8) ∧ w.grownBy w' none) := decItem_good oa len cap zs w hsl hcp hm hd
  have HL : Hid ((zs.drop 8).length = len - 8) := by have := hsl.1; show _ = _; simp; omega
  obtain ⟨n0, n1, n2, hhd, -⟩ := hS.get3 hx; obtain ⟨q0, q1, q2⟩ := El.hd3 hhd; rw [q1] at hq ⊢; rw [q2]; rw [q0] at hxc; obtain ⟨key, hkey⟩ : ∃ key : Int, (decCl zs : Int) = key := ⟨_, rfl⟩; obtain ⟨sq, hsq⟩ : ∃ sq : Int, (decSq zs : Int) = sq := ⟨_, rfl⟩; rw [hkey] at HD hk hxc; rw [hsq] at HD hq ⊢; obtain ⟨ln, hln⟩ : ∃ ln, S.length = ln := ⟨_, rfl⟩; rw [hln] at hp
  have hkl : k < ln := by have := (List.getElem?_eq_some_iff.1 hx).1; omega
  have HK : Hid (knownAt S key k = true) := by show _ = _; unfold knownAt; rw [hx]; simp [q0, hxc]
  have HA : Hid (ErrsAt w ad ∧ ElAt w 74 3 gs S ∧ risesE 0 S ∧ S.length ≤ 1048576 ∧ Spot S key k ∧ S[k]? = some x ∧ x.hd = [n0, n1, n2] ∧ S.length = ln ∧ w.heap[p]? = some (.cells #[.int .i64 b, .slice (some ⟨gk, 0, none⟩) kn kc, .slice (some ⟨gs, 0, none⟩) ln sc] 28 (0, 0))) := ⟨hE, hS, hr, hn, hk, hx, hhd, hln, hp⟩
  have HLN : Hid (ln ≤ 1048576) := by show _ ≤ _; omega
  clear hE hsl hd hp hS hr hn hk hx hhd q0 q1 q2 hxc hkey hsq hln
  go_enter Tryd.func35, Tryd.ntmps35
  go_wp2_with fail; refine HD.out.mono ?_; rintro e w1 ⟨gx, cx, rfl, hgx, hO1, hG1⟩; have hpl : p < w1.heap.size := Nat.lt_of_lt_of_le (Array.getElem?_eq_some_iff.1 HA.out.2.2.2.2.2.2.2.2).1 hG1.size; have HX : Hid (w.heap.size ≤ gx ∧ Own w1 5 gx (zs.drop 8) ∧ w.grownBy w1 none) := ⟨hgx, hO1, hG1⟩; clear hgx hO1 hG1; go_wp2_with fail; obtain ⟨W2, hW2⟩ : ∃ W2, W2 = w1.alloc (.cells #[.int .i64 key, .int .i64 sq, .slice (some ⟨gx, 0, none⟩) (len - 8) cx] 32) := ⟨_, rfl⟩; obtain ⟨y, hy⟩ : ∃ y, w1.heap.size = y := ⟨_, rfl⟩
  have HG2 : Hid (w.grownBy W2 none ∧ W2.heap[y]? = some (.cells #[.int .i64 key, .int .i64 sq, .slice (some ⟨gx, 0, none⟩) (len - 8) cx] 32 (0, 0)) ∧ Own W2 5 gx (zs.drop 8)) := by
    subst hW2 hy; exact ⟨grownBy_alloc HX.out.2.2 _, heap_alloc_new w1 _, HX.out.2.1.grown (World.grownBy_alloc _ _ none) (by simp)⟩
  rw [← hW2, hy]
  have p2 : W2.cell? ⟨p, 2, none⟩ = some (.slice (some ⟨gs, 0, none⟩) ln sc) := by
    have := (HG2.out.1.block p (Array.getElem?_eq_some_iff.1 HA.out.2.2.2.2.2.2.2.2).1 (by simp)).trans HA.out.2.2.2.2.2.2.2.2
    simp [World.cell?, this]
  have y0 : W2.cell? ⟨y, 0, none⟩ = some (.int .i64 key) := by simp [World.cell?, HG2.out.2.1]
  have HS : Hid (∀ X : World, Same W2 X → Calls Tryd.prog 59 #[.slice (some ⟨gs, 0, none⟩) ln sc, .int .i64 key, .func (.func 60) #[] #[]] X fun e w2 => e = .returned (.tuple #[.int .i64 (k : Int), .bool true]) ∧ (w2.cell? ⟨p, 2, none⟩ = some (.slice (some ⟨gs, 0, none⟩) ln sc) ∧ w2.cell? ⟨y, 0, none⟩ = some (.int .i64 key)) ∧ Hid (W2.grownBy w2 none)) := by
    intro X hX; obtain ⟨hE, hS, hr, hn, hk, hx, hhd, hln, hp⟩ := HA.out; have GX : W2.grownBy X none := grownBy_same (grownBy_refl _ _) hX; have hSX : ElAt X 74 3 gs S := hS.kept (fun j hj _ => (grownBy_trans HG2.out.1 GX).block j hj (by simp)); have h := search_any gs sc S key X hSX hr hn; rw [hln] at h; refine h.mono ?_; rintro e w2 ⟨k', rfl, hk', hG2⟩; obtain rfl := hk.one hk'; have G3 : W2.grownBy w2 none := grownBy_trans GX hG2; exact ⟨by rw [HK.out], ⟨((bcell G3).1 _ _ (cell_block_lt p2)).trans p2, ((bcell G3).1 _ _ (cell_block_lt y0)).trans y0⟩, G3⟩
  clear hW2 hy hpl
  go_region_held3 (fun w' => w'.cell? ⟨p, 2, none⟩ = some (.slice (some ⟨gs, 0, none⟩) ln sc) ∧ w'.cell? ⟨y, 0, none⟩ = some (.int .i64 key)) (first | go_keep | exact ⟨p2, y0⟩ | exact hD | fail)
    (first
      | (go_at_call 59; refine (HS.out _ (by exact ⟨rfl, rfl, rfl, rfl⟩)).mono ?_; rintro e w2 ⟨rfl, hD, HG3⟩)
      | fail)
  all_goals
    clear p2 y0; obtain ⟨p2, y0⟩ := hD; have y1 : w2.cell? ⟨y, 1, none⟩ = some (.int .i64 sq) := ((bcell HG3.out).1 _ _ (Array.getElem?_eq_some_iff.1 HG2.out.2.1).1).trans (by simp [World.cell?, HG2.out.2.1]); have y2 : w2.cell? ⟨y, 2, none⟩ = some (.slice (some ⟨gx, 0, none⟩) (len - 8) cx) := ((bcell HG3.out).1 _ _ (Array.getElem?_eq_some_iff.1 HG2.out.2.1).1).trans (by simp [World.cell?, HG2.out.2.1]); have HG4 : Hid (w.grownBy w2 none ∧ Own w2 5 gx (zs.drop 8)) := ⟨grownBy_trans HG2.out.1 HG3.out, HG2.out.2.2.grown HG3.out (by simp)⟩; have hS4 : ElAt w2 74 3 gs S := HA.out.2.1.kept (fun j hj _ => HG4.out.1.block j hj (by simp)); obtain ⟨m0, m1, m2, hhd, s0, s1, s2, s3⟩ := hS4.get3 HA.out.2.2.2.2.2.1
    obtain ⟨rfl, rfl, rfl⟩ : n0 = m0 ∧ n1 = m1 ∧ n2 = m2 := by
      have h1 := HA.out.2.2.2.2.2.2.1; rw [hhd] at h1
      simp at h1
      exact ⟨h1.1.symm, h1.2.1.symm, h1.2.2.symm⟩
    have HPA : Hid (∀ X : World, Same w2 X → Calls Tryd.prog 61 #[.agg #[.int .i64 n0, .int .i64 n1, .int .i64 n2, .slice (oad x.o) x.d.length x.cp], .agg #[.int .i64 key, .int .i64 sq, .slice (some ⟨gx, 0, none⟩) (len - 8) cx]] X fun e w' => ∃ v1 v2, e = .returned (.tuple #[v1, v2]) ∧ Hid ((sameItem n1 x.d sq (zs.drop 8) ∧ v1 = .int .i64 n2 ∧ v2 = .nilIface) ∨ (¬ sameItem n1 x.d sq (zs.drop 8) ∧ v1 = .int .i64 0 ∧ v2 = .iface 150 (.pointer (some (ad 4))))) ∧ (w'.cell? ⟨p, 2, none⟩ = some (.slice (some ⟨gs, 0, none⟩) ln sc) ∧ w'.cell? ⟨y, 0, none⟩ = some (.int .i64 key) ∧ w'.cell? ⟨y, 1, none⟩ = some (.int .i64 sq) ∧ w'.cell? ⟨y, 2, none⟩ = some (.slice (some ⟨gx, 0, none⟩) (len - 8) cx) ∧ w'.cell? ⟨gs, k * 4, none⟩ = some (.int .i64 n0) ∧ w'.cell? ⟨gs, k * 4 + 1, none⟩ = some (.int .i64 n1) ∧ w'.cell? ⟨gs, k * 4 + 2, none⟩ = some (.int .i64 n2) ∧ w'.cell? ⟨gs, k * 4 + 3, none⟩ = some (.slice (oad x.o) x.d.length x.cp)) ∧ Hid (w.grownBy w' none)) := by
      intro X hX; have GX : w2.grownBy X none := grownBy_same (grownBy_refl _ _) hX; have GW : w.grownBy X none := grownBy_trans HG4.out.1 GX; refine (placeAgain_any n0 n1 n2 (oad x.o) x.d.length x.cp x.d key sq (some ⟨gx, 0, none⟩) (len - 8) cx (zs.drop 8) ad X (HA.out.1.grown GW) ((hS4.own k x HA.out.2.2.2.2.2.1).2.1.sl.grown0 GX) ((HG4.out.2.sl _ HL.out).grown0 GX)).mono ?_; rintro e w' ⟨h1, h2⟩; have G5 : w2.grownBy w' none := grownBy_trans GX h2
      have hc : ∀ {a o v}, w2.cell? ⟨a, o, none⟩ = some v → w'.cell? ⟨a, o, none⟩ = some v := fun h => ((bcell G5).1 _ _ (cell_block_lt h)).trans h
      rcases h1 with ⟨h1, rfl⟩ | ⟨h1, rfl⟩
      · exact ⟨_, _, rfl, .inl ⟨h1, rfl, rfl⟩, ⟨hc p2, hc y0, hc y1, hc y2, hc s0, hc s1, hc s2, hc s3⟩, grownBy_trans GW h2⟩
      · exact ⟨_, _, rfl, .inr ⟨h1, rfl, rfl⟩, ⟨hc p2, hc y0, hc y1, hc y2, hc s0, hc s1, hc s2, hc s3⟩, grownBy_trans GW h2⟩
    clear hS4 hhd HD HX; obtain ⟨vd, hvd⟩ : ∃ vd, Value.slice (oad x.o) x.d.length x.cp = vd := ⟨_, rfl⟩; rw [hvd] at s3 HPA; clear hvd; obtain ⟨vx, hvx⟩ : ∃ vx, Value.slice (some ⟨gx, 0, none⟩) (len - 8) cx = vx := ⟨_, rfl⟩; rw [hvx] at y2 HPA; clear hvx
    have hkI : (k : Int) < (ln : Int) := by omega
    go_wp2; go_quiet (fail); go_wp2_with fail
    go_region_held3 (fun W => W.cell? ⟨p, 2, none⟩ = some (.slice (some ⟨gs, 0, none⟩) ln sc) ∧ W.cell? ⟨y, 0, none⟩ = some (.int .i64 key) ∧ W.cell? ⟨y, 1, none⟩ = some (.int .i64 sq) ∧ W.cell? ⟨y, 2, none⟩ = some vx ∧ W.cell? ⟨gs, k * 4, none⟩ = some (.int .i64 n0) ∧ W.cell? ⟨gs, k * 4 + 1, none⟩ = some (.int .i64 n1) ∧ W.cell? ⟨gs, k * 4 + 2, none⟩ = some (.int .i64 n2) ∧ W.cell? ⟨gs, k * 4 + 3, none⟩ = some vd) (first | go_keep | exact ⟨p2, y0, y1, y2, s0, s1, s2, s3⟩ | exact hD2 | fail)
      (first
        | (go_at_call 61; refine (HPA.out _ (by exact ⟨rfl, rfl, rfl, rfl⟩)).mono ?_; rintro e w3 ⟨v1, v2, rfl, HV, hD2, HG5⟩)
        | fail)
    all_goals
      go_wp2
      go_ret2
      rcases HV.out with ⟨h1, rfl, rfl⟩ | ⟨h1, rfl, rfl⟩
      · exact ⟨.inl ⟨h1, rfl⟩, HG5.out⟩
      · exact ⟨.inr ⟨h1, rfl⟩, HG5.out⟩
end Go.Proofs.YtdajcpcajdhplaaDoor
