/-
  An item laid down by the program.
-/
import Derived.Test.YtionggfecikedaaItemOk
import Derived.Test.YtionggfecikedaaLe4
import Derived.Test.YtionggfecikedaaLeN
import Derived.Test.YtionggfecikedaaMarkS
import Derived.Deep.RegionHeld3
namespace Go.Proofs.Ytionggfecikedaa
open Go.RowKit

/-- an item's bytes -/
def itemB (cl sq : Nat) (zs : List Nat) : List Nat := le4 cl ++ le4 sq ++ zs
theorem itemB_len (cl sq : Nat) (zs : List Nat) : (itemB cl sq zs).length = 8 + zs.length := by simp [itemB, le4_len]; omega
theorem itemB_lt (cl sq : Nat) (zs : List Nat) (h : ∀ z ∈ zs, z < 256) : ∀ z ∈ itemB cl sq zs, z < 256 := by
  intro z hz
  unfold itemB at hz
  rcases List.mem_append.1 hz with hz | hz
  · rcases List.mem_append.1 hz with hz | hz
    · exact le4_lt _ z hz
    · exact le4_lt _ z hz
  · exact h z hz

set_option maxHeartbeats 400000 in
theorem implEncodeItem_no (cl sq : Int) (oa : Option Addr) (len cap : Nat) (w : World) (h : ¬ itemOk cl sq len) (hx : len ≤ maxLen) :
    Calls Try.prog 22 #[.agg #[.int .i64 cl, .int .i64 sq, .slice oa len cap]] w fun e w' => e = .returned (.tuple #[.slice none 0 0, .int .i64 5]) ∧ w.grownBy w' none := by
  have HK : Hid (¬ itemOk cl sq len) := h
  clear h
  go_enter Try.func22, Try.ntmps22
  go_wp2_with fail
  refine (valid_no cl sq oa len cap _ HK.out hx).mono ?_
  rintro e w1 ⟨rfl, hG1⟩
  have HG : Hid (w.grownBy w1 none) := grownBy_trans (World.grownBy_alloc _ _ _) hG1
  clear hG1
  go_wp2
  go_ret2
  exact ⟨rfl, HG.out⟩

theorem put_first (n : Nat) : putN (List.replicate 8 0) 0 n 4 = le4 n ++ List.replicate 4 0 := by
  have := putN_four [] [0, 0, 0, 0] [0, 0, 0, 0] n rfl
  simpa using this
theorem put_second (a n : Nat) : putN (le4 a ++ List.replicate 4 0) 4 n 4 = le4 a ++ le4 n := by
  have := putN_four (le4 a) [0, 0, 0, 0] [] n rfl
  rw [le4_len] at this
  simpa using this
set_option maxRecDepth 4000 in
set_option maxHeartbeats 1000000 in
theorem implEncodeItem_ok (cl sq : Nat) (oa : Option Addr) (len cap : Nat) (zs : List Nat) (w : World) (h : itemOk cl sq len) (hsl : SlB w oa len zs) :
    Calls Try.prog 22 #[.agg #[.int .i64 (cl : Int), .int .i64 (sq : Int), .slice oa len cap]] w fun e w' => ∃ g n cp, e = .returned (.tuple #[.slice (some ⟨g, 0, none⟩) n cp, .int .i64 0]) ∧ n = 8 + len ∧ w.heap.size ≤ g ∧ Own w' 5 g (itemB cl sq zs) ∧ w.grownBy w' none := by
  have HS : Hid (SlB w oa len zs) := hsl
  have HK : Hid (itemOk cl sq len) := h
  have hl : zs.length = len := hsl.1
  have hcl : cl ≤ 50 := by have := h.2.1; omega
  have hsq : sq ≤ 1000000000 := by have := h.2.2.2.1; omega
  have hln : len ≤ 64 := h.2.2.2.2
  clear hsl h
  obtain ⟨i0, TB⟩ := byteT
  go_enter Try.func22, Try.ntmps22
  go_wp2_with fail
  refine (valid_yes cl sq oa len cap _ HK.out).mono ?_
  rintro e w1 ⟨rfl, hG1⟩
  have hz : w.heap.size + 1 ≤ w1.heap.size := by have := hG1.size; simpa using this
  have A0 : w1.cell? ⟨w.heap.size, 0, none⟩ = some (.int .i64 (cl : Int)) := ((bcell hG1).1 _ _ (by simp)).trans (by simp)
  have A1 : w1.cell? ⟨w.heap.size, 1, none⟩ = some (.int .i64 (sq : Int)) := ((bcell hG1).1 _ _ (by simp)).trans (by simp)
  have A2 : w1.cell? ⟨w.heap.size, 2, none⟩ = some (.slice oa len cap) := ((bcell hG1).1 _ _ (by simp)).trans (by simp)
  have HG : Hid (w.grownBy w1 none) := grownBy_trans (World.grownBy_alloc _ _ _) hG1
  clear hG1
  go_wp2_with (at_make; refine wpList_make_cap (by rfl) (.const (.int .i64 8)) (.tmp 11) TB (by rfl) (base := w1.heap.size) (n := 8) (cp := 8 + len) (by rfl) (by rfl) (by rfl) (by omega) (by omega) (by omega) (by omega) ?_)
  intro w2 hR2 hG2
  have hz2 : w1.heap.size < w2.heap.size := (hR2.out.lt w1.heap.size rfl).2
  have B0 : w2.cell? ⟨w.heap.size, 0, none⟩ = some (.int .i64 (cl : Int)) := ((bcell hG2.out).1 _ _ (by omega)).trans A0
  have B1 : w2.cell? ⟨w.heap.size, 1, none⟩ = some (.int .i64 (sq : Int)) := ((bcell hG2.out).1 _ _ (by omega)).trans A1
  have B2 : w2.cell? ⟨w.heap.size, 2, none⟩ = some (.slice oa len cap) := ((bcell hG2.out).1 _ _ (by omega)).trans A2
  have HG2 : Hid (w.grownBy w2 none) := grownBy_trans HG.out hG2.out
  clear A0 A1 A2 HG hG2
  go_wp2_with fail
  refine (putNumber_row w1.heap.size 8 (8 + len) w1.heap.size 0 8 (8 + len) cl (List.replicate 8 0) _ hR2.out (by intro z hz; have := List.eq_of_mem_replicate hz; omega) (by omega) (by omega) (by simp) (by omega)).mono ?_
  rintro e w3 ⟨rfl, hR3, hG3⟩
  rw [put_first] at hR3
  have C1 : w3.cell? ⟨w.heap.size, 1, none⟩ = some (.int .i64 (sq : Int)) := keep_far hG3 (by omega) (by omega) B1
  have C2 : w3.cell? ⟨w.heap.size, 2, none⟩ = some (.slice oa len cap) := keep_far hG3 (by omega) (by omega) B2
  have hz3 : w1.heap.size + 1 ≤ w3.heap.size := by have := hG3.size; omega
  have HG3 : Hid (w.grownBy w3 none) := grownBy_new HG2.out hG3 (by omega)
  have HR3 : Hid (_) := hR3
  clear B0 B1 B2 HG2 hR2 hR3 hG3
  have HP : Hid (∀ (c : Nat) (X : World), Same w3 X → Calls Try.prog 47 #[.slice (some ⟨w1.heap.size, 4, none⟩) 4 c, .int .u32 (sq : Int)] X fun e w' => e = .returned (.tuple #[]) ∧ w'.cell? ⟨w.heap.size, 2, none⟩ = some (.slice oa len cap) ∧ Hid (w'.ownsRow w1.heap.size 5 1 (.slice (some ⟨w1.heap.size, 0, none⟩) 8 (8 + len)) 8 ((le4 cl ++ le4 sq).map bv)) ∧ Hid (w.grownBy w' none)) := by
    intro c X hX
    refine (putNumber_row w1.heap.size 8 (8 + len) w1.heap.size 4 4 c sq (le4 cl ++ List.replicate 4 0) X (ownsRow_heap HR3.out hX.1) (fun z hz => (own_made HR3.out (by intro y hy; rcases List.mem_append.1 hy with h | h; exact le4_lt _ y h; have := List.eq_of_mem_replicate h; omega)).1 z hz) (by omega) (by omega) (by simp [le4_len]) (by omega)).mono ?_
    rintro e w4 ⟨rfl, hR4, hG4⟩
    rw [put_second] at hR4
    have hxz : X.heap.size = w3.heap.size := by rw [hX.1]
    have hxc : X.cell? ⟨w.heap.size, 2, none⟩ = some (.slice oa len cap) := (World.cell?_of_block (w := w3) (by rw [hX.1])).trans C2
    exact ⟨rfl, keep_far hG4 (by omega) (by omega) hxc, hR4, grown_next hG4 HG3.out hX (by omega)⟩
  have hcp : ¬ (8 + len = 4) := by omega
  have ew : IntKind.u32.wrap (sq : Int) = sq := by rw [IntKind.wrap_u32']; omega
  go_wp2_with fail
  go_region_with (first
    | (go_at_call 47; refine (HP.out _ _ (by exact ⟨rfl, rfl, rfl, rfl⟩)).mono ?_; rintro e w4 ⟨rfl, D2, HR4, HG4⟩)
    | fail)
  have hz4 := HG4.out.size
  have hz5 := (HR4.out.lt w1.heap.size rfl).2
  clear HP HR3 HG3 C1 C2 hz3
  go_wp2_with (at_builtin; refine wpList_append_b (by rfl) (.tmp 24) (.tmp 26) TB (by rfl) (base := w1.heap.size) (g := w1.heap.size) (n := 8) (cap := 8 + len) (xs := le4 cl ++ le4 sq) (by rfl) (by exact HR4.out) (oa := oa) (m := len) (c := cap) (zs := zs) (by rfl) (by exact HS.out.grown0 HG4.out) (by omega) (by omega) ?_; intro g5 c5 w5 hown5 hgr5 hat5 hsz5)
  go_ret2
  have hg5 := (hown5.out.lt g5 rfl).1
  refine ⟨g5, 8 + len, c5, rfl, rfl, by omega, ?_, grown_next hgr5.out HG4.out ⟨rfl, rfl, rfl, rfl⟩ (by omega)⟩
  exact own_made hown5.out (itemB_lt cl sq zs HS.out.2.1)
/-- what EncodeItem tells: the bytes, the code -/
def itemR (cl sq : Int) (zs : List Nat) : List Nat := if itemOk cl sq zs.length then itemB cl.toNat sq.toNat zs else []
def itemC (cl sq : Int) (zs : List Nat) : Int := if itemOk cl sq zs.length then 0 else 5
theorem implEncodeItem_any (cl sq : Int) (oa : Option Addr) (len cap : Nat) (zs : List Nat) (w : World) (hsl : SlB w oa len zs) (hx : len ≤ maxLen) :
    Calls Try.prog 22 #[.agg #[.int .i64 cl, .int .i64 sq, .slice oa len cap]] w fun e w' => ∃ og n cp, e = .returned (.tuple #[.slice og n cp, .int .i64 (itemC cl sq zs)]) ∧ n ≤ 72 ∧ (og = none → cp = 0) ∧ (∀ g, blk og = some g → w.heap.size ≤ g) ∧ OwnS w' 5 og n (itemR cl sq zs) ∧ w.grownBy w' none := by
  have hl := hsl.1
  by_cases hb : itemOk cl sq zs.length
  · have e1 : itemR cl sq zs = itemB cl.toNat sq.toNat zs := if_pos hb
    have e2 : itemC cl sq zs = 0 := if_pos hb
    rw [e1, e2]
    obtain ⟨c, rfl⟩ : ∃ c : Nat, cl = c := ⟨cl.toNat, by have := hb.1; omega⟩
    obtain ⟨q, rfl⟩ : ∃ q : Nat, sq = q := ⟨sq.toNat, by have := hb.2.2.1; omega⟩
    have h64 := hb.2.2.2.2
    refine (implEncodeItem_ok c q oa len cap zs w (by rw [← hl]; exact hb) hsl).mono ?_
    rintro e w' ⟨g, n, cp, rfl, hn, hg, hO, hG⟩
    refine ⟨some ⟨g, 0, none⟩, n, cp, rfl, by omega, (fun h => by cases h), fun g' hg' => ?_, ?_, hG⟩
    · obtain rfl : g = g' := by simpa [blk] using hg'
      exact hg
    · exact hO.s (by rw [itemB_len]; omega)
  · have e1 : itemR cl sq zs = [] := if_neg hb
    have e2 : itemC cl sq zs = 5 := if_neg hb
    rw [e1, e2]
    refine (implEncodeItem_no cl sq oa len cap w (by rw [← hl]; exact hb) hx).mono ?_
    rintro e w' ⟨rfl, hG⟩
    exact ⟨none, 0, 0, rfl, by omega, fun _ => rfl, (fun g hg => by cases hg), OwnS.none _ _, hG⟩
end Go.Proofs.Ytionggfecikedaa
