/-
  ItemDec2
-/
import Derived.Test.YtdajcpcajdhplaaDoorSvc2
import Derived.Deep.DeepCutAuto
/-
  An item read by the model: DecodeItem, walked.
-/
namespace Go.Proofs.YtdajcpcajdhplaaDoor
open Go.RowKit

/-- a block of three cells behind a row's growth elsewhere -/
theorem far3 {X w3 : World} {g k : Nat} {a b c : Value} {t : TypeId} (hgr : X.grownBy w3 (some g)) (hne : k ≠ g) (hb : X.heap[k]? = some (.cells #[a, b, c] t (0, 0))) :
    w3.heap[k]? = some (.cells #[a, b, c] t (0, 0)) ∧ w3.cell? ⟨k, 0, none⟩ = some a ∧ w3.cell? ⟨k, 1, none⟩ = some b ∧ w3.cell? ⟨k, 2, none⟩ = some c ∧ w3.frozen? ⟨k, 0, none⟩ = false ∧ w3.frozen? ⟨k, 1, none⟩ = false ∧ w3.frozen? ⟨k, 2, none⟩ = false := by
  have hk := (Array.getElem?_eq_some_iff.1 hb).1; have h := (hgr.block k hk (by simpa using hne)).trans hb
  simp [World.cell?, World.frozen?, h]
/-- an empty row of bytes in a world -/
theorem row0 (X : World) (e : TypeId) (k base : Nat) (hb : base ≤ k) (hX : X.heap[k]? = some (.cells #[] e (0, 0))) : X.ownsRow base e 1 (.slice (some ⟨k, 0, none⟩) 0 0) 0 (([] : List Nat).map bv) :=
  ⟨rfl, .inr ⟨k, 0, #[], rfl, hb, hX, Nat.le_refl _, Nat.zero_le _, rfl, rfl⟩⟩
theorem push0 (w : World) (A B : Obj) : ((w.alloc A).alloc B).heap[w.heap.size]? = some A := by show ((w.heap.push A).push B)[w.heap.size]? = _; simp [Array.getElem?_push]
theorem push0' (w : World) (A B C : Obj) : (((w.alloc A).alloc B).alloc C).heap[w.heap.size]? = some A := by show (((w.heap.push A).push B).push C)[w.heap.size]? = _; simp [Array.getElem?_push]; omega
theorem push1 (w : World) (A B : Obj) : ((w.alloc A).alloc B).heap[w.heap.size + 1]? = some B := by show ((w.heap.push A).push B)[w.heap.size + 1]? = _; rw [Array.getElem?_push, if_pos (by simp)]
theorem push2 (w : World) (A B C : Obj) : (((w.alloc A).alloc B).alloc C).heap[w.heap.size + 1]? = some B := by show (((w.heap.push A).push B).push C)[w.heap.size + 1]? = _; rw [Array.getElem?_push, if_neg (by simp), Array.getElem?_push, if_pos (by simp)]
theorem push3 (w : World) (A B C : Obj) : (((w.alloc A).alloc B).alloc C).heap[w.heap.size + 2]? = some C := by show (((w.heap.push A).push B).push C)[w.heap.size + 2]? = _; rw [Array.getElem?_push, if_pos (by simp)]
/-- behind the literal: the item in its block, its data in theirs -/
def DecLaid (w wx : World) (p : Value) (C Q n : Nat) (zs : List Nat) : Prop :=
  ∃ bx g c, p = .pointer (some ⟨bx, 0, none⟩) ∧ (wx.cell? ⟨bx, 0, none⟩ = some (.int .i64 (C : Int)) ∧ wx.cell? ⟨bx, 1, none⟩ = some (.int .i64 (Q : Int)) ∧ wx.cell? ⟨bx, 2, none⟩ = some (.slice (some ⟨g, 0, none⟩) n c)) ∧ w.heap.size < bx ∧ w.heap.size < g ∧ w.heap.size < wx.heap.size ∧ Own wx 5 g zs ∧
    (wx.cell? ⟨w.heap.size, 0, none⟩ = some (.int .i64 0) ∧ wx.cell? ⟨w.heap.size, 1, none⟩ = some (.int .i64 0) ∧ wx.cell? ⟨w.heap.size, 2, none⟩ = some (.slice none 0 0)) ∧
    (wx.frozen? ⟨w.heap.size, 0, none⟩ = false ∧ wx.frozen? ⟨w.heap.size, 1, none⟩ = false ∧ wx.frozen? ⟨w.heap.size, 2, none⟩ = false) ∧ w.grownBy wx none

theorem decLaid_of (w wx : World) (bx g3 c3 C Q n : Nat) (zs : List Nat) (t t' : TypeId) (hb : w.heap.size < bx) (hg : w.heap.size < g3) (hx : wx.heap[bx]? = some (.cells #[.int .i64 (C : Int), .int .i64 (Q : Int), .slice (some ⟨g3, 0, none⟩) n c3] t (0, 0)))
    (hr : wx.heap[w.heap.size]? = some (.cells #[.int .i64 0, .int .i64 0, .slice none 0 0] t' (0, 0))) (hO : Own wx 5 g3 zs) (hG : w.grownBy wx none) : DecLaid w wx (.pointer (some ⟨bx, 0, none⟩)) C Q n zs :=
  ⟨bx, g3, c3, rfl, by simp [World.cell?, hx], hb, hg, (Array.getElem?_eq_some_iff.1 hr).1, hO, by simp [World.cell?, hr], by simp [World.frozen?, hr], hG⟩
theorem decLaid_alloc (w w3 : World) (g3 c3 C Q n : Nat) (zs : List Nat) (t t' : TypeId) (hs : w.heap.size < w3.heap.size) (hg : w.heap.size < g3) (hr : w3.heap[w.heap.size]? = some (.cells #[.int .i64 0, .int .i64 0, .slice none 0 0] t' (0, 0))) (hO : Own w3 5 g3 zs) (hG : w.grownBy w3 none) :
    DecLaid w (w3.alloc (.cells #[.int .i64 (C : Int), .int .i64 (Q : Int), .slice (some ⟨g3, 0, none⟩) n c3] t)) (.pointer (some ⟨w3.heap.size, 0, none⟩)) C Q n zs :=
  decLaid_of w _ w3.heap.size g3 c3 C Q n zs t t' hs hg (heap_alloc_new w3 _) (((World.grownBy_alloc w3 _ none).block _ hs (by simp)).trans hr) (hO.grown (World.grownBy_alloc w3 _ none) (by simp)) (grownBy_alloc hG _)
theorem decLaid_set (w w3 : World) (k g3 c3 C Q n : Nat) (zs : List Nat) (t t' : TypeId) (hk : w.heap.size < k) (hg : w.heap.size < g3) (hne : k ≠ g3) (hkb : w3.heap[k]? = some (.cells #[.int .i64 0, .int .i64 0, .slice none 0 0] t (0, 0))) (hr : w3.heap[w.heap.size]? = some (.cells #[.int .i64 0, .int .i64 0, .slice none 0 0] t' (0, 0))) (hO : Own w3 5 g3 zs) (hG : w.grownBy w3 none) :
    DecLaid w (((w3.setCell ⟨k, 0, none⟩ (.int .i64 (C : Int))).setCell ⟨k, 1, none⟩ (.int .i64 (Q : Int))).setCell ⟨k, 2, none⟩ (.slice (some ⟨g3, 0, none⟩) n c3)) (.pointer (some ⟨k, 0, none⟩)) C Q n zs := by
  have h1 := heap_setCell_same w3 k 0 _ _ (.int .i64 (C : Int)) hkb; have h2 := heap_setCell_same _ k 1 _ _ (.int .i64 (Q : Int)) h1; have h3 := heap_setCell_same _ k 2 _ _ (.slice (some ⟨g3, 0, none⟩) n c3) h2; refine decLaid_of w _ k g3 c3 C Q n zs t t' hk hg (h3.trans rfl) ?_ (((hO.setOther (by simpa using hne.symm)).setOther (by simpa using hne.symm)).setOther (by simpa using hne.symm)) (grownBy_setNew (grownBy_setNew (grownBy_setNew hG (by simp; omega)) (by simp; omega)) (by simp; omega)); rw [heap_setCell_other _ _ _ _ (by simp; omega), heap_setCell_other _ _ _ _ (by simp; omega), heap_setCell_other _ _ _ _ (by simp; omega)]; exact hr
/-- what DecodeItem tells of at least eight bytes -/
def DecPost (w : World) (len : Nat) (zs : List Nat) (e : Ending) (w' : World) : Prop :=
  (itemOk (decCl zs) (decSq zs) (len - 8) ∧ ∃ g cp, e = .returned (.tuple #[.agg #[.int .i64 (decCl zs : Int), .int .i64 (decSq zs : Int), .slice (some ⟨g, 0, none⟩) (len - 8) cp], .int .i64 0]) ∧ w.heap.size ≤ g ∧ Own w' 5 g (zs.drop 8) ∧ w.grownBy w' none) ∨
  (¬ itemOk (decCl zs) (decSq zs) (len - 8) ∧ e = .returned (.tuple #[.agg #[.int .i64 0, .int .i64 0, .slice none 0 0], .int .i64 5]) ∧ w.grownBy w' none)
theorem implDecodeItem_long (oa : Option Addr) (len cap : Nat) (zs : List Nat) (w : World) (hsl : SlB w oa len zs) (h8 : 8 ≤ len) (hcp : len ≤ cap) (hm : len ≤ 1073741824) :
    Calls Tryd.prog 11 #[.slice oa len cap] w (DecPost w len zs) := by
  by_cases h : itemOk (decCl zs) (decSq zs) (len - 8)
  · exact (implDecodeItem_ok oa len cap zs w hsl h8 hcp hm h).mono fun e w' hh => .inl ⟨h, hh⟩
  · exact (implDecodeItem_no oa len cap zs w hsl h8 hcp hm h).mono fun e w' hh => .inr ⟨h, hh⟩

set_option maxRecDepth 4000 in
set_option maxHeartbeats 3000000 in
theorem specDecodeItem_long (oa : Option Addr) (len cap : Nat) (zs : List Nat) (w : World) (hsl : SlB w oa len zs) (h8 : 8 ≤ len) (hcp : len ≤ cap) (hm : len ≤ 1073741824) (hc8 : ¬ cap = 8) :
    Calls Tryd.prog 45 #[.slice oa len cap] w (DecPost w len zs) := by
  have hl : zs.length = len := hsl.1; obtain ⟨b, off, rfl, -⟩ := hsl.2.2 (by omega); have HS : Hid (SlB w (some ⟨b, off, none⟩) len zs) := hsl; obtain ⟨i0, TB⟩ := byteT; have hc32 : decCl zs < 4294967296 := val4_lt _ (fun z hz => hsl.2.1 z (List.mem_of_mem_take hz)) (by simp; omega); have hq32 : decSq zs < 4294967296 := val4_lt _ (fun z hz => hsl.2.1 z (List.mem_of_mem_drop (List.mem_of_mem_take hz))) (by simp; omega); obtain ⟨C, hCe⟩ : ∃ C, decCl zs = C := ⟨_, rfl⟩; obtain ⟨Q, hQe⟩ : ∃ Q, decSq zs = Q := ⟨_, rfl⟩
  have HT1 : Hid (∀ X : World, w.grownBy X none → Calls Tryd.prog 70 #[.slice (some ⟨b, off, none⟩) 4 cap] X fun e w' => e = .returned (.int .i64 (C : Int)) ∧ w' = X) := by
    intro X hX; rw [← hCe]; have h1 := slb_cut (HS.out.grown0 hX) 0 4 (by omega); have h2 := l2Get_any _ 4 cap _ X h1 (by omega); rw [satVal_four _ h1.2.1 (by simp; omega)] at h2
    simpa [decCl] using h2
  have HT2 : Hid (∀ X : World, w.grownBy X none → Calls Tryd.prog 70 #[.slice (some ⟨b, off + 4, none⟩) 4 (cap - 4)] X fun e w' => e = .returned (.int .i64 (Q : Int)) ∧ w' = X) := by
    intro X hX; rw [← hQe]; have h1 := slb_cut (HS.out.grown0 hX) 4 4 (by omega); have h2 := l2Get_any _ 4 (cap - 4) _ X h1 (by omega); rw [satVal_four _ h1.2.1 (by simp; omega)] at h2
    simpa [decSq] using h2
  have HD : Hid (∀ X : World, w.grownBy X none → SlB X (some ⟨b, off + 8, none⟩) (len - 8) (zs.drop 8)) := by
    intro X hX; have h1 := slb_cut (HS.out.grown0 hX) 8 (len - 8) (by omega); rw [drop_take_all zs 8 (len - 8) (by omega)] at h1; exact h1
  have HCQ : Hid (decCl zs = C ∧ decSq zs = Q) := ⟨hCe, hQe⟩; rw [hCe] at hc32; rw [hQe] at hq32
  have HZ : Hid (∀ z ∈ zs.drop 8, z < 256) := fun z hz => hsl.2.1 z (List.mem_of_mem_drop hz)
  clear hsl hCe hQe
  have n4 : ¬ (cap = 4) := by omega
  have z1 : (4 : Int) ≤ (len : Int) := by omega
  have z2 : (8 : Int) ≤ (len : Int) := by omega
  have z3 : (len : Int) ≤ (cap : Int) := by omega
  have z4 : (4 : Int) ≤ (cap : Int) := by omega
  have z5 : (8 : Int) ≤ (cap : Int) := by omega
  have z6 : (0 : Int) ≤ (cap : Int) := by omega
  go_enter Tryd.func45, Tryd.ntmps45
  go_wp2_with fail
  go_cut [4] (fun p wx => DecLaid w wx p C Q (len - 8) (zs.drop 8))
  case first =>
    go_region_held3 (fun _ => True) (first | exact trivial | fail)
      (first
        | (go_at_call 70; refine calls_args (args := #[.slice (some ⟨b, off, none⟩) 4 cap]) (by rfl) ((HT1.out _ (by repeat (first | exact grownBy_refl _ _ | exact HW3.out | apply grownBy_drew | apply grownBy_alloc))).mono ?_); rintro e w' ⟨rfl, rfl⟩)
        | (go_at_call 70; refine calls_args (args := #[.slice (some ⟨b, off + 4, none⟩) 4 (cap - 4)]) (by rfl) ((HT2.out _ (by repeat (first | exact grownBy_refl _ _ | exact HW3.out | apply grownBy_drew | apply grownBy_alloc))).mono ?_); rintro e w' ⟨rfl, rfl⟩)
        | (refine step_append_b (by rfl) (.tmp 15) (.tmp 17) TB (by rfl) (base := w.heap.size + 1) (g := w.heap.size + 1) (n := 0) (cap := 0) (xs := []) (by rfl) (by exact row0 _ _ (w.heap.size + 1) _ (by omega) (push1 w _ _)) (oa := some ⟨b, off + 8, none⟩) (m := len - 8) (c := cap - 8) (zs := zs.drop 8) (by rfl) (by exact HD.out _ (by repeat (first | exact grownBy_refl _ _ | apply grownBy_drew | apply grownBy_alloc))) (by omega) (by simp) ?_; intro g3 c3 w3 hown hgr hat hsz; obtain ⟨hrb, y0, y1, y2, f0, f1, f2⟩ := far3 hgr.out (k := w.heap.size) (by omega) (push0 w _ _); have HW3 : Hid (w.grownBy w3 none) := (by exact grown_next hgr.out (grownBy_alloc (World.grownBy_alloc w _ none) _) ⟨rfl, rfl, rfl, rfl⟩ (by omega)))
        | (refine step_append_b (by rfl) (.tmp 15) (.tmp 17) TB (by rfl) (base := w.heap.size + 1) (g := w.heap.size + 1) (n := 0) (cap := 0) (xs := []) (by rfl) (by exact row0 _ _ (w.heap.size + 1) _ (by omega) (push2 w _ _ _)) (oa := some ⟨b, off + 8, none⟩) (m := len - 8) (c := cap - 8) (zs := zs.drop 8) (by rfl) (by exact HD.out _ (by repeat (first | exact grownBy_refl _ _ | apply grownBy_drew | apply grownBy_alloc))) (by omega) (by simp) ?_; intro g3 c3 w3 hown hgr hat hsz; obtain ⟨hkb, q0, q1, q2, p0, p1, p2⟩ := far3 hgr.out (k := w.heap.size + 2) (by omega) (push3 w _ _ _); obtain ⟨hrb, y0, y1, y2, f0, f1, f2⟩ := far3 hgr.out (k := w.heap.size) (by omega) (push0' w _ _ _); have HW3 : Hid (w.grownBy w3 none) := (by exact grown_next hgr.out (grownBy_alloc (grownBy_alloc (World.grownBy_alloc w _ none) _) _) ⟨rfl, rfl, rfl, rfl⟩ (by omega)))
        | (refine step_append_b (by rfl) (.tmp 15) (.tmp 17) TB (by rfl) (base := w.heap.size + 1) (g := w.heap.size + 2) (n := 0) (cap := 0) (xs := []) (by rfl) (by exact row0 _ _ (w.heap.size + 2) _ (by omega) (push3 w _ _ _)) (oa := some ⟨b, off + 8, none⟩) (m := len - 8) (c := cap - 8) (zs := zs.drop 8) (by rfl) (by exact HD.out _ (by repeat (first | exact grownBy_refl _ _ | apply grownBy_drew | apply grownBy_alloc))) (by omega) (by simp) ?_; intro g3 c3 w3 hown hgr hat hsz; obtain ⟨hkb, q0, q1, q2, p0, p1, p2⟩ := far3 hgr.out (k := w.heap.size + 1) (by omega) (push2 w _ _ _); obtain ⟨hrb, y0, y1, y2, f0, f1, f2⟩ := far3 hgr.out (k := w.heap.size) (by omega) (push0' w _ _ _); have HW3 : Hid (w.grownBy w3 none) := (by exact grown_next hgr.out (grownBy_alloc (grownBy_alloc (World.grownBy_alloc w _ none) _) _) ⟨rfl, rfl, rfl, rfl⟩ (by omega)))
        | fail)
    all_goals
      have hO3 : Own w3 5 g3 (zs.drop 8) := by have h1 := hown.out; rw [Nat.zero_add, List.nil_append] at h1; exact own_made h1 HZ.out
      have hg3 := (hown.out.lt g3 rfl).1
      have hs3 : w.heap.size < w3.heap.size := by have := hO3.lt; omega
      go_wp2_with fail; go_meet
      case rel =>
        first
          | exact decLaid_alloc w w3 g3 c3 C Q (len - 8) (zs.drop 8) _ _ hs3 (by omega) hrb hO3 HW3.out
          | exact decLaid_set w w3 _ g3 c3 C Q (len - 8) (zs.drop 8) _ _ (by omega) (by omega) (by rcases hat.out with h | h <;> (try simp at h) <;> omega) hkb hrb hO3 HW3.out
  case rest =>
    obtain ⟨bx, g, c, rfl, ⟨x0, x1, x2⟩, hbx, hg, hs, hO, ⟨y0, y1, y2⟩, ⟨f0, f1, f2⟩, hG⟩ := hcut; have HR : Hid (Own wc 5 g (zs.drop 8) ∧ w.grownBy wc none) := ⟨hO, hG⟩; clear hO hG HT1 HT2 HD HZ HS
    by_cases hk : itemOk C Q (len - 8)
    · have HK : Hid (itemOk C Q (len - 8)) := hk; clear hk; go_wp2_with fail; refine (l5Item_yes _ _ _ _ _ _ HK.out).mono ?_; rintro e w2 ⟨rfl, hw2⟩; subst hw2; go_wp2; refine bodyPost_ret (v := .tuple #[.agg #[.int .i64 (C : Int), .int .i64 (Q : Int), .slice (some ⟨g, 0, none⟩) (len - 8) c], .int .i64 0]) (by simp [results, Tryd.results45, go_sem, y0, y1, y2]) rfl ?_; refine .inl ⟨?_, g, c, ?_, by omega, ?_, ?_⟩
      · rw [HCQ.out.1, HCQ.out.2]; exact HK.out
      · rw [HCQ.out.1, HCQ.out.2]
      · exact ((HR.out.1.setOther (by simp; omega)).setOther (by simp; omega)).setOther (by simp; omega)
      · exact grownBy_setNew (grownBy_setNew (grownBy_setNew HR.out.2 (by simp)) (by simp)) (by simp)
    · have HK : Hid (¬ itemOk C Q (len - 8)) := hk; clear hk; go_wp2_with fail; refine (l5Item_no _ _ _ _ _ _ HK.out (by unfold maxLen; omega)).mono ?_; rintro e w2 ⟨rfl, hw2⟩; subst hw2; go_wp2; refine bodyPost_ret (v := .tuple #[.agg #[.int .i64 0, .int .i64 0, .slice none 0 0], .int .i64 5]) (by simp [results, Tryd.results45, go_sem, y0, y1, y2]) rfl ?_; refine .inr ⟨?_, rfl, ?_⟩
      · rw [HCQ.out.1, HCQ.out.2]; exact HK.out
      · exact grownBy_setNew (grownBy_setNew (grownBy_setNew HR.out.2 (by simp)) (by simp)) (by simp)
end Go.Proofs.YtdajcpcajdhplaaDoor
