/-
  TakeW, Bytes, Bytes2, StrB, BaseI, MarkW, EntW
-/
import Derived.Test.YtjnegjgpkboocaaGreatDoorWal2
import Derived.Test.YtjnegjgpkboocaaGreatDoorWal1
import Derived.Laws.BytesString
import Derived.Laws.Cells
import Derived.ProofKit
import Derived.OpenShut
/-
  A record's payload taken apart by the program: walked.
-/
namespace Go.Proofs.YtjnegjgpkboocaaGreatDoor
open Go.RowKit

/-- number i of a payload -/
def wnum (zs : List Nat) (i : Nat) : Nat := leVal ((zs.drop (8 * i)).take 8)
def inb (b : Nat × Nat) (n : Nat) : Bool := decide (b.1 ≤ n) && decide (n ≤ b.2)
def okTo (bs : List (Nat × Nat)) (zs : List Nat) (k : Nat) : Prop := ∀ i b, i < k → bs[i]? = some b → inb b (wnum zs i) = true
/-- a right payload -/
def WOk (bs : List (Nat × Nat)) (room : Nat) (zs : List Nat) : Prop := 8 * bs.length ≤ zs.length ∧ zs.length ≤ 8 * bs.length + room ∧ okTo bs zs bs.length
def fld (bs : List (Nat × Nat)) (zs : List Nat) (k i : Nat) : Nat := if i < k ∧ i < bs.length then wnum zs i else 0
theorem fld_same {bs : List (Nat × Nat)} {zs : List Nat} {k : Nat} (h : k < bs.length) : fld bs zs (k + 1) k = wnum zs k := by rw [fld, if_pos ⟨by omega, h⟩]
theorem fld_ne {bs : List (Nat × Nat)} {zs : List Nat} {k i : Nat} (h : i ≠ k) : fld bs zs (k + 1) i = fld bs zs k i := by
  unfold fld
  by_cases h1 : i < k ∧ i < bs.length
  · rw [if_pos h1, if_pos ⟨by omega, h1.2⟩]
  · rw [if_neg h1, if_neg (fun hc => h1 ⟨by omega, hc.2⟩)]
theorem bcs_get {bs : List (Nat × Nat)} {i : Nat} {b : Nat × Nat} (h : bs[i]? = some b) : (bcs bs)[i * 2]? = some (.int .i64 (b.1 : Int)) ∧ (bcs bs)[i * 2 + 1]? = some (.int .i64 (b.2 : Int)) := by
  induction bs generalizing i with
  | nil => simp at h
  | cons x bs ih =>
    cases i with
    | zero => simp at h; subst h; simp [bcs]
    | succ i =>
      have h1 := ih (i := i) (by simpa using h)
      have e : bcs (x :: bs) = .int .i64 (x.1 : Int) :: .int .i64 (x.2 : Int) :: bcs bs := by simp [bcs]
      rw [e, show (i + 1) * 2 = i * 2 + 1 + 1 by omega]
      simpa using h1
theorem wnum_lt {zs : List Nat} (h : ∀ z ∈ zs, z < 256) (i : Nat) : wnum zs i < 18446744073709551616 := by
  have h1 := leVal_lt ((zs.drop (8 * i)).take 8) (fun z hz => h z (List.mem_of_mem_drop (List.mem_of_mem_take hz)))
  have h2 : ((zs.drop (8 * i)).take 8).length ≤ 8 := by simp; omega
  have h3 : 256 ^ ((zs.drop (8 * i)).take 8).length ≤ 256 ^ 8 := Nat.pow_le_pow_right (by decide) h2
  unfold wnum
  have h4 : (256 : Nat) ^ 8 = 18446744073709551616 := by decide
  omega
section
variable {P : Program} {ops : Array Oper} {Q : Exit → Act → World → Prop} {md : Region.Mode} {S : World → Prop} {ex : Nat → Bool}
/-- a load whose memory every operation keeps -/
theorem wpAnyZ_loadS {i : Nat} {oi : Oper} {rest : List Oper} {v : Value} {fuel : Nat} {listed : Array Bool} {a : Act} {w : World} (hd : ops.toList.drop i = oi :: rest) (hs : Region.noSelect ops = true) (hf : Region.free md ops listed i = true) (hr : (Region.ready md ops listed).contains i = true)
    (hQ : ∀ c a w, Q (.panic c) (a.put oi.dst v) w → Q (.panic c) a w) (hex : ∀ j, ex j = false) (hy : YieldsIf P ops S oi v a) (hS : S w)
    (h : wpAnyZ P md ops Q S ex fuel (listed.setIfInBounds i true) (a.put oi.dst v) w) : wpAnyZ P md ops Q S ex (fuel + 1) listed a w :=
  wpAnyZ_first (S0 := S) (I := fun _ => True) (get_of_drop hd) (Region.noSelect_spec hs) hQ (fun _ j _ _ _ _ _ _ hS0 hS' => ⟨hS' (hex j) hS0, trivial⟩) fuel listed a w (Region.free_spec (get_of_drop hd) hf) (by simpa using hr) trivial hy hS h
end
/-- behind a slice's front -/
def adr (off cap size : Nat) : Nat := if cap = size then off else off + size
set_option maxRecDepth 8000 in
set_option maxHeartbeats 4000000 in
theorem take_any (g : Nat) (bs : List (Nat × Nat)) (room f : Nat) (b off len cap : Nat) (zs : List Nat) (w : World) (hg : BdR w g bs) (h1 : 1 ≤ bs.length) (h3 : bs.length ≤ 3) (hbb : ∀ x ∈ bs, x.1 ≤ 1073741824 ∧ x.2 ≤ 1073741824) (hr : room ≤ 8000)
    (hsl : SlB w (some ⟨b, off, none⟩) len zs) (hlc : len ≤ cap) (hm : cap ≤ maxLen) (hm2 : len ≤ 1048576) :
    Calls Tryz.prog 60 #[.agg #[.slice (some ⟨g, 0, none⟩) bs.length bs.length, .int .i64 (room : Int), .func (.func f) #[] #[]], .slice (some ⟨b, off, none⟩) len cap] w fun e w' => w.grownBy w' none ∧
      ((WOk bs room zs ∧ e = .returned (.tuple #[.agg #[.int .i64 ((fld bs zs bs.length 0 : Nat) : Int), .int .i64 ((fld bs zs bs.length 1 : Nat) : Int), .int .i64 ((fld bs zs bs.length 2 : Nat) : Int)], .slice (some ⟨b, adr off cap (8 * bs.length), none⟩) (len - 8 * bs.length) (cap - 8 * bs.length), .bool true]))
        ∨ (¬ WOk bs room zs ∧ e = .returned (.tuple #[.agg #[.int .i64 0, .int .i64 0, .int .i64 0], .slice none 0 0, .bool false]))) := by
  have hzl : zs.length = len := hsl.1
  unfold maxLen at hm
  obtain ⟨n, hn⟩ : ∃ n, bs.length = n := ⟨_, rfl⟩; have HO : Hid (BdR w g bs ∧ bs.length = n ∧ (∀ x ∈ bs, x.1 ≤ 1073741824 ∧ x.2 ≤ 1073741824) ∧ SlB w (some ⟨b, off, none⟩) len zs ∧ zs.length = len) := ⟨hg, hn, hbb, hsl, hzl⟩; rw [hn] at h1 h3 ⊢; clear hg hn hbb hsl hzl
  go_enter Tryz.func60, Tryz.ntmps60
  by_cases hs1 : len < 8 * n
  · have e1 : (len : Int) < 8 * (n : Int) := by omega
    have HB : Hid (¬ WOk bs room zs) := fun hc => by have h9 := hc.1; rw [HO.out.2.1, HO.out.2.2.2.2] at h9; omega
    go_wp2; refine bodyPost_ret (v := .tuple #[.agg #[.int .i64 0, .int .i64 0, .int .i64 0], .slice none 0 0, .bool false]) (by simp [results, Tryz.results60, go_sem]) rfl ⟨grownBy_alloc (World.grownBy_alloc _ _ _) _, .inr ⟨HB.out, rfl⟩⟩
  · have e1 : ¬ (len : Int) < 8 * (n : Int) := by omega
    by_cases hs2 : 8 * n + room < len
    · have e2 : 8 * (n : Int) + (room : Int) < (len : Int) := by omega
      have HB : Hid (¬ WOk bs room zs) := fun hc => by have h9 := hc.2.1; rw [HO.out.2.1, HO.out.2.2.2.2] at h9; omega
      go_wp2; refine bodyPost_ret (v := .tuple #[.agg #[.int .i64 0, .int .i64 0, .int .i64 0], .slice none 0 0, .bool false]) (by simp [results, Tryz.results60, go_sem]) rfl ⟨grownBy_alloc (World.grownBy_alloc _ _ _) _, .inr ⟨HB.out, rfl⟩⟩
    · have e2 : ¬ 8 * (n : Int) + (room : Int) < (len : Int) := by omega
      go_wp2
      go_loopw [33] (fun i wr => ∃ k : Nat, k ≤ n ∧ i = .int .i64 (k : Int) ∧ okTo bs zs k ∧ w.grownBy wr none ∧ wr.heap[w.heap.size + 1]? = some (.cells #[.int .i64 0, .int .i64 0, .int .i64 0] 123 (0, 0)) ∧ wr.heap[w.heap.size + 1 + 1]? = some (.cells #[.int .i64 ((fld bs zs k 0 : Nat) : Int), .int .i64 ((fld bs zs k 1 : Nat) : Int), .int .i64 ((fld bs zs k 2 : Nat) : Int)] 123 (0, 0))) (fun i _ => n - (intOf i).toNat)
      case atStart =>
        refine ⟨0, Nat.zero_le _, rfl, fun i b hi => absurd hi (by omega), grownBy_alloc (grownBy_alloc (World.grownBy_alloc _ _ _) _) _, ?_, ?_⟩
        · have h := heap_two w (.cells #[.slice (some ⟨g, 0, none⟩) n n, .int .i64 (room : Int), .func (.func f) #[] #[]] 56) (.cells #[.int .i64 0, .int .i64 0, .int .i64 0] 123 (0, 0)); exact grown_blk (World.grownBy_alloc _ _ _) h
        · have h := heap_alloc_new ((w.alloc (.cells #[.slice (some ⟨g, 0, none⟩) n n, .int .i64 (room : Int), .func (.func f) #[] #[]] 56)).alloc (.cells #[.int .i64 0, .int .i64 0, .int .i64 0] 123)) (.cells #[.int .i64 0, .int .i64 0, .int .i64 0] 123 (0, 0))
          simpa [fld] using h
      case round =>
        obtain ⟨k, hk, rfl, hok, hGr, hb1, hb2⟩ := hrel; have HR : Hid (okTo bs zs k ∧ w.grownBy wr none ∧ wr.heap[w.heap.size + 1]? = some (.cells #[.int .i64 0, .int .i64 0, .int .i64 0] 123 (0, 0)) ∧ wr.heap[w.heap.size + 1 + 1]? = some (.cells #[.int .i64 ((fld bs zs k 0 : Nat) : Int), .int .i64 ((fld bs zs k 1 : Nat) : Int), .int .i64 ((fld bs zs k 2 : Nat) : Int)] 123 (0, 0))) := ⟨hok, hGr, hb1, hb2⟩; clear hok hGr hb1 hb2
        by_cases hlt : k < n
        · obtain ⟨x, hx⟩ : ∃ x, bs[k]? = some x := ⟨_, List.getElem?_eq_getElem (by rw [HO.out.2.1]; exact hlt)⟩; obtain ⟨lo, hi⟩ := x; have hxb := HO.out.2.2.1 _ (List.mem_of_getElem? hx); have hgw : BdR wr g bs := grown_blk HR.out.2.1 HO.out.1
          have q0 : wr.cell? ⟨g, k * 2, none⟩ = some (.int .i64 (lo : Int)) := by rw [cell_of_row wr g _ _ _ _ hgw]; simpa using (bcs_get hx).1
          have q1 : wr.cell? ⟨g, k * 2 + 1, none⟩ = some (.int .i64 (hi : Int)) := by rw [cell_of_row wr g _ _ _ _ hgw]; simpa using (bcs_get hx).2
          have HX : Hid (bs[k]? = some (lo, hi)) := hx; have hl1 : lo ≤ 1073741824 := hxb.1; have hl2 : hi ≤ 1073741824 := hxb.2; clear hx hxb hgw
          have hkI : (k : Int) < (n : Int) := by omega
          have z1 : ¬ cap = 8 * k := by omega
          have z2 : 8 * (k : Int) ≤ (len : Int) := by omega
          have z3 : (len : Int) ≤ (cap : Int) := by omega
          go_wp2_with fail; have hcut := slb_cut HO.out.2.2.2.1 (8 * k) (len - 8 * k) (by omega); refine (takeLong_n b (off + 8 * k) (len - 8 * k) (cap - 8 * k) _ _ (hcut.grown0 (grownBy_alloc HR.out.2.1 _)) (by omega) (by omega) (by unfold maxLen; omega) (by omega)).mono ?_; rintro e w1 ⟨rfl, m, hw1⟩
          have hve : leVal (((zs.drop (8 * k)).take (len - 8 * k)).take 8) = wnum zs k := by rw [List.take_take, Nat.min_eq_left (by omega)]; rfl
          rw [hve]; obtain ⟨v, hv⟩ : ∃ v, wnum zs k = v := ⟨_, rfl⟩; have HV : Hid (wnum zs k = v) := hv
          have hvb : v < 18446744073709551616 := by rw [← hv]; exact wnum_lt HO.out.2.2.2.1.2.1 k
          rw [hv]
          have hXh : w1.heap = (wr.alloc (.cells #[.int .i64 (lo : Int), .int .i64 (hi : Int)] 113)).heap := by rw [hw1]; simp
          have HX1 : Hid (w.grownBy w1 none ∧ w1.heap[w.heap.size + 1]? = some (.cells #[.int .i64 0, .int .i64 0, .int .i64 0] 123 (0, 0)) ∧ w1.heap[w.heap.size + 1 + 1]? = some (.cells #[.int .i64 ((fld bs zs k 0 : Nat) : Int), .int .i64 ((fld bs zs k 1 : Nat) : Int), .int .i64 ((fld bs zs k 2 : Nat) : Int)] 123 (0, 0)) ∧ w1.heap[wr.heap.size]? = some (.cells #[.int .i64 (lo : Int), .int .i64 (hi : Int)] 113 (0, 0))) := by
            have hA := World.grownBy_alloc wr (.cells #[.int .i64 (lo : Int), .int .i64 (hi : Int)] 113) none; have hGA : w.grownBy (wr.alloc (.cells #[.int .i64 (lo : Int), .int .i64 (hi : Int)] 113)) none := grownBy_alloc HR.out.2.1 _; rw [hXh]; refine ⟨?_, grown_blk hA HR.out.2.2.1, grown_blk hA HR.out.2.2.2, heap_alloc_new wr _⟩; rw [hw1]; exact ⟨hGA.os, hGA.tape, hGA.output, hGA.size, hGA.block⟩
          clear hcut hve hv hXh hw1 q0 q1; have c0 : w1.cell? ⟨wr.heap.size, 0, none⟩ = some (.int .i64 (lo : Int)) := (cell_of_row w1 _ _ _ _ _ HX1.out.2.2.2).trans rfl; have c1 : w1.cell? ⟨wr.heap.size, 1, none⟩ = some (.int .i64 (hi : Int)) := (cell_of_row w1 _ _ _ _ _ HX1.out.2.2.2).trans rfl
          have u1 : IntKind.u64.wrap (lo : Int) = lo := by rw [wrapU64]; omega
          have u2 : IntKind.u64.wrap (hi : Int) = hi := by rw [wrapU64]; omega
          have r0 : w1.cell? ⟨w.heap.size + 1, 0, none⟩ = some (.int .i64 0) := (cell_of_row w1 _ _ _ _ _ HX1.out.2.1).trans rfl; have r1 : w1.cell? ⟨w.heap.size + 1, 1, none⟩ = some (.int .i64 0) := (cell_of_row w1 _ _ _ _ _ HX1.out.2.1).trans rfl; have r2 : w1.cell? ⟨w.heap.size + 1, 2, none⟩ = some (.int .i64 0) := (cell_of_row w1 _ _ _ _ _ HX1.out.2.1).trans rfl
          have rf : ∀ o, w1.frozen? ⟨w.heap.size + 1, o, none⟩ = false := fun o => by simp [World.frozen?, HX1.out.2.1]
          by_cases hv1 : v < lo
          · have a1 : (v : Int) < (lo : Int) := by omega
            have HB : Hid (¬ WOk bs room zs) := fun hc => by
              have h9 := hc.2.2 k _ (by rw [HO.out.2.1]; exact hlt) HX.out; rw [HV.out] at h9
              simp [inb] at h9
              omega
            have f0 := rf 0; have f1 := rf 1; have f2 := rf 2; go_wp2; refine bodyPost_ret (v := .tuple #[.agg #[.int .i64 0, .int .i64 0, .int .i64 0], .slice none 0 0, .bool false]) (by simp [results, Tryz.results60, go_sem, r0, r1, r2]) rfl ⟨grownBy_setNew (grownBy_setNew (grownBy_setNew HX1.out.1 (Nat.le_succ _)) (Nat.le_succ _)) (Nat.le_succ _), .inr ⟨HB.out, rfl⟩⟩
          · have a1 : ¬ (v : Int) < (lo : Int) := by omega
            by_cases hv2 : hi < v
            · have a2 : (hi : Int) < (v : Int) := by omega
              have HB : Hid (¬ WOk bs room zs) := fun hc => by
                have h9 := hc.2.2 k _ (by rw [HO.out.2.1]; exact hlt) HX.out; rw [HV.out] at h9
                simp [inb] at h9
                omega
              have f0 := rf 0; have f1 := rf 1; have f2 := rf 2; go_wp2; refine bodyPost_ret (v := .tuple #[.agg #[.int .i64 0, .int .i64 0, .int .i64 0], .slice none 0 0, .bool false]) (by simp [results, Tryz.results60, go_sem, r0, r1, r2]) rfl ⟨grownBy_setNew (grownBy_setNew (grownBy_setNew HX1.out.1 (Nat.le_succ _)) (Nat.le_succ _)) (Nat.le_succ _), .inr ⟨HB.out, rfl⟩⟩
            · have a2 : ¬ (hi : Int) < (v : Int) := by omega
              have u3 : IntKind.i64.wrap (v : Int) = v := by simp [IntKind.wrap, IntKind.bits, IntKind.signed]; omega
              have HOK : Hid (okTo bs zs (k + 1)) := fun i b' hi' hb' => by
                by_cases hik : i = k
                · subst hik; rw [HX.out] at hb'; obtain rfl := Option.some.inj hb'; rw [HV.out]
                  simp [inb]
                  omega
                · exact HR.out.1 i b' (by omega) hb'
              have HN2 : Hid ((w1.setCell ⟨w.heap.size + 1 + 1, k, none⟩ (.int .i64 (v : Int))).heap[w.heap.size + 1 + 1]? = some (.cells #[.int .i64 ((fld bs zs (k + 1) 0 : Nat) : Int), .int .i64 ((fld bs zs (k + 1) 1 : Nat) : Int), .int .i64 ((fld bs zs (k + 1) 2 : Nat) : Int)] 123 (0, 0)) ∧ w.grownBy (w1.setCell ⟨w.heap.size + 1 + 1, k, none⟩ (.int .i64 (v : Int))) none ∧ (w1.setCell ⟨w.heap.size + 1 + 1, k, none⟩ (.int .i64 (v : Int))).heap[w.heap.size + 1]? = some (.cells #[.int .i64 0, .int .i64 0, .int .i64 0] 123 (0, 0))) := by
                refine ⟨?_, grownBy_setNew HX1.out.1 (Nat.le_trans (Nat.le_succ _) (Nat.le_succ _)), set_oth k _ (by omega) HX1.out.2.1⟩; have h9 := set_blkL k (.int .i64 (v : Int)) HX1.out.2.2.1; have hbl := HO.out.2.1; have hv' := HV.out
                have hkb : k < bs.length := by rw [hbl]; exact hlt
                have e9 : v = fld bs zs (k + 1) k := by rw [fld_same hkb, hv']
                rw [e9] at h9 ⊢; clear e9
                rcases (show k = 0 ∨ k = 1 ∨ k = 2 by omega) with rfl | rfl | rfl
                · rw [fld_ne (i := 1) (by decide), fld_ne (i := 2) (by decide)]; exact h9
                · rw [fld_ne (i := 0) (by decide), fld_ne (i := 2) (by decide)]; exact h9
                · rw [fld_ne (i := 0) (by decide), fld_ne (i := 1) (by decide)]; exact h9
              have s0 : ∃ u, w1.cell? ⟨w.heap.size + 1 + 1, k, none⟩ = some (.int .i64 u) := by
                rw [cell_of_row w1 _ _ _ _ _ HX1.out.2.2.1]
                rcases (show k = 0 ∨ k = 1 ∨ k = 2 by omega) with rfl | rfl | rfl <;> exact ⟨_, rfl⟩
              obtain ⟨u9, s0⟩ := s0
              have sf : w1.frozen? ⟨w.heap.size + 1 + 1, k, none⟩ = false := by simp [World.frozen?, HX1.out.2.2.1]
              have hk3 : (k : Int) < 3 := by omega
              clear r0 r1 r2 rf; go_wp2; go_roundw
              case rel => exact ⟨k + 1, by omega, by go_num, HOK.out, HN2.out.2.1, HN2.out.2.2, HN2.out.1⟩
              case measure => simp [intOf]; omega
        · obtain rfl : k = n := by omega
          have HW : Hid (WOk bs room zs) := ⟨by rw [HO.out.2.1, HO.out.2.2.2.2]; omega, by rw [HO.out.2.1, HO.out.2.2.2.2]; omega, by rw [HO.out.2.1]; exact HR.out.1⟩
          have z2 : 8 * (k : Int) ≤ (len : Int) := by omega
          have z3 : (len : Int) ≤ (cap : Int) := by omega
          have z0 : (0 : Int) ≤ 8 * (k : Int) := by omega
          have zt : (8 * (k : Int)).toNat = 8 * k := by omega
          by_cases hcap : cap = 8 * k
          · have hcI : (cap : Int) = 8 * (k : Int) := by omega
            have hS : wr.drew.heap[w.heap.size + 1 + 1]? = some (.cells #[.int .i64 ((fld bs zs k 0 : Nat) : Int), .int .i64 ((fld bs zs k 1 : Nat) : Int), .int .i64 ((fld bs zs k 2 : Nat) : Int)] 123 (0, 0)) := HR.out.2.2.2; have r0 : wr.cell? ⟨w.heap.size + 1, 0, none⟩ = some (.int .i64 0) := (cell_of_row wr _ _ _ _ _ HR.out.2.2.1).trans rfl
            have f0 : wr.frozen? ⟨w.heap.size + 1, 0, none⟩ = false := by simp [World.frozen?, HR.out.2.2.1]
            have r1 : wr.cell? ⟨w.heap.size + 1, 1, none⟩ = some (.int .i64 0) := (cell_of_row wr _ _ _ _ _ HR.out.2.2.1).trans rfl
            have f1 : wr.frozen? ⟨w.heap.size + 1, 1, none⟩ = false := by simp [World.frozen?, HR.out.2.2.1]
            have r2 : wr.cell? ⟨w.heap.size + 1, 2, none⟩ = some (.int .i64 0) := (cell_of_row wr _ _ _ _ _ HR.out.2.2.1).trans rfl
            have f2 : wr.frozen? ⟨w.heap.size + 1, 2, none⟩ = false := by simp [World.frozen?, HR.out.2.2.1]
            go_wp2; refine wp_region_Z (fun W => W.heap[w.heap.size + 1 + 1]? = some (.cells #[.int .i64 ((fld bs zs k 0 : Nat) : Int), .int .i64 ((fld bs zs k 1 : Nat) : Int), .int .i64 ((fld bs zs k 2 : Nat) : Int)] 123 (0, 0))) (fun _ => false) (by kernel_rfl) ?_; refine wpAnyZ_loadS (i := 0) (v := ?vz1) rfl (by kernel_rfl) (by kernel_rfl) (by kernel_rfl) (fun _ _ _ h => h) (fun _ => rfl) (Or.inl ⟨by rfl, ?yz1⟩) hS ?rz1
            case yz1 => (intro W hW; have c0 : W.cell? ⟨w.heap.size + 1 + 1, 0, none⟩ = some (.int .i64 ((fld bs zs k 0 : Nat) : Int)) := (cell_of_row W _ _ _ _ _ hW).trans rfl; have c1 : W.cell? ⟨w.heap.size + 1 + 1, 1, none⟩ = some (.int .i64 ((fld bs zs k 1 : Nat) : Int)) := (cell_of_row W _ _ _ _ _ hW).trans rfl; have c2 : W.cell? ⟨w.heap.size + 1 + 1, 2, none⟩ = some (.int .i64 ((fld bs zs k 2 : Nat) : Int)) := (cell_of_row W _ _ _ _ _ hW).trans rfl; go_simp; first | done | with_reducible rfl)
            simp only [Act.put, List.setIfInBounds_toArray, List.set_cons_zero, List.set_cons_succ]; refine wpAnyZ_take' (i := 1) (v := ?vz2) rfl (by kernel_rfl) (by kernel_rfl) (by kernel_rfl) (fun _ _ _ h => h) (Or.inl ⟨by rfl, ?yz2⟩) ?rz2
            case yz2 => (intro w _; go_simp; first | done | with_reducible rfl)
            simp only [Act.put, List.setIfInBounds_toArray, List.set_cons_zero, List.set_cons_succ]; refine wpAnyZ_take' (i := 2) (v := ?vz3) rfl (by kernel_rfl) (by kernel_rfl) (by kernel_rfl) (fun _ _ _ h => h) (Or.inl ⟨by rfl, ?yz3⟩) ?rz3
            case yz3 => (intro w _; go_simp; first | done | with_reducible rfl)
            simp only [Act.put, List.setIfInBounds_toArray, List.set_cons_zero, List.set_cons_succ]; refine wpAnyZ_take' (i := 3) (v := ?vz4) rfl (by kernel_rfl) (by kernel_rfl) (by kernel_rfl) (fun _ _ _ h => h) (Or.inl ⟨by rfl, ?yz4⟩) ?rz4
            case yz4 => (intro w _; go_simp; first | done | with_reducible rfl)
            simp only [Act.put, List.setIfInBounds_toArray, List.set_cons_zero, List.set_cons_succ]; refine wpAnyZ_one' (i := 4) (by kernel_rfl) rfl (fun K hK => ?_); go_simp; refine hK.out _ _ (fun _ h => set_oth 2 _ (by omega) (set_oth 1 _ (by omega) (set_oth 0 _ (by omega) h))) ?_; clear hK K; (try simp only [Act.put, List.setIfInBounds_toArray, List.set_cons_zero, List.set_cons_succ]); refine wpAnyZ_one' (i := 5) (by kernel_rfl) rfl (fun K hK => ?_); go_simp; refine hK.out _ _ (fun _ h => h) ?_; clear hK K; (try simp only [Act.put, List.setIfInBounds_toArray, List.set_cons_zero, List.set_cons_succ]); refine wpAnyZ_one' (i := 6) (by kernel_rfl) rfl (fun K hK => ?_); go_simp; refine hK.out _ _ (fun _ h => h) ?_; clear hK K; (try simp only [Act.put, List.setIfInBounds_toArray, List.set_cons_zero, List.set_cons_succ]); refine wpAnyZ_done (by kernel_rfl) ?_ _; go_wp2; refine bodyPost_ret (v := .tuple #[.agg #[.int .i64 ((fld bs zs k 0 : Nat) : Int), .int .i64 ((fld bs zs k 1 : Nat) : Int), .int .i64 ((fld bs zs k 2 : Nat) : Int)], .slice (some ⟨b, off, none⟩) (len - 8 * k) (cap - 8 * k), .bool true]) (by simp [results, Tryz.results60, go_sem, r0, r1, r2]; omega) rfl ⟨grownBy_setNew (grownBy_setNew (grownBy_setNew (grownBy_drew HR.out.2.1) (Nat.le_succ _)) (Nat.le_succ _)) (Nat.le_succ _), .inl ⟨HW.out, by rw [adr, if_pos hcap]⟩⟩
          · have hcI : ¬ (cap : Int) = 8 * (k : Int) := by omega
            have hS : wr.drew.heap[w.heap.size + 1 + 1]? = some (.cells #[.int .i64 ((fld bs zs k 0 : Nat) : Int), .int .i64 ((fld bs zs k 1 : Nat) : Int), .int .i64 ((fld bs zs k 2 : Nat) : Int)] 123 (0, 0)) := HR.out.2.2.2; have r0 : wr.cell? ⟨w.heap.size + 1, 0, none⟩ = some (.int .i64 0) := (cell_of_row wr _ _ _ _ _ HR.out.2.2.1).trans rfl
            have f0 : wr.frozen? ⟨w.heap.size + 1, 0, none⟩ = false := by simp [World.frozen?, HR.out.2.2.1]
            have r1 : wr.cell? ⟨w.heap.size + 1, 1, none⟩ = some (.int .i64 0) := (cell_of_row wr _ _ _ _ _ HR.out.2.2.1).trans rfl
            have f1 : wr.frozen? ⟨w.heap.size + 1, 1, none⟩ = false := by simp [World.frozen?, HR.out.2.2.1]
            have r2 : wr.cell? ⟨w.heap.size + 1, 2, none⟩ = some (.int .i64 0) := (cell_of_row wr _ _ _ _ _ HR.out.2.2.1).trans rfl
            have f2 : wr.frozen? ⟨w.heap.size + 1, 2, none⟩ = false := by simp [World.frozen?, HR.out.2.2.1]
            go_wp2; refine wp_region_Z (fun W => W.heap[w.heap.size + 1 + 1]? = some (.cells #[.int .i64 ((fld bs zs k 0 : Nat) : Int), .int .i64 ((fld bs zs k 1 : Nat) : Int), .int .i64 ((fld bs zs k 2 : Nat) : Int)] 123 (0, 0))) (fun _ => false) (by kernel_rfl) ?_; refine wpAnyZ_loadS (i := 0) (v := ?vz5) rfl (by kernel_rfl) (by kernel_rfl) (by kernel_rfl) (fun _ _ _ h => h) (fun _ => rfl) (Or.inl ⟨by rfl, ?yz5⟩) hS ?rz5
            case yz5 => (intro W hW; have c0 : W.cell? ⟨w.heap.size + 1 + 1, 0, none⟩ = some (.int .i64 ((fld bs zs k 0 : Nat) : Int)) := (cell_of_row W _ _ _ _ _ hW).trans rfl; have c1 : W.cell? ⟨w.heap.size + 1 + 1, 1, none⟩ = some (.int .i64 ((fld bs zs k 1 : Nat) : Int)) := (cell_of_row W _ _ _ _ _ hW).trans rfl; have c2 : W.cell? ⟨w.heap.size + 1 + 1, 2, none⟩ = some (.int .i64 ((fld bs zs k 2 : Nat) : Int)) := (cell_of_row W _ _ _ _ _ hW).trans rfl; go_simp; first | done | with_reducible rfl)
            simp only [Act.put, List.setIfInBounds_toArray, List.set_cons_zero, List.set_cons_succ]; refine wpAnyZ_take' (i := 1) (v := ?vz6) rfl (by kernel_rfl) (by kernel_rfl) (by kernel_rfl) (fun _ _ _ h => h) (Or.inl ⟨by rfl, ?yz6⟩) ?rz6
            case yz6 => (intro w _; go_simp; first | done | with_reducible rfl)
            simp only [Act.put, List.setIfInBounds_toArray, List.set_cons_zero, List.set_cons_succ]; refine wpAnyZ_take' (i := 2) (v := ?vz7) rfl (by kernel_rfl) (by kernel_rfl) (by kernel_rfl) (fun _ _ _ h => h) (Or.inl ⟨by rfl, ?yz7⟩) ?rz7
            case yz7 => (intro w _; go_simp; first | done | with_reducible rfl)
            simp only [Act.put, List.setIfInBounds_toArray, List.set_cons_zero, List.set_cons_succ]; refine wpAnyZ_take' (i := 3) (v := ?vz8) rfl (by kernel_rfl) (by kernel_rfl) (by kernel_rfl) (fun _ _ _ h => h) (Or.inl ⟨by rfl, ?yz8⟩) ?rz8
            case yz8 => (intro w _; go_simp; first | done | with_reducible rfl)
            simp only [Act.put, List.setIfInBounds_toArray, List.set_cons_zero, List.set_cons_succ]; refine wpAnyZ_one' (i := 4) (by kernel_rfl) rfl (fun K hK => ?_); go_simp; refine hK.out _ _ (fun _ h => set_oth 2 _ (by omega) (set_oth 1 _ (by omega) (set_oth 0 _ (by omega) h))) ?_; clear hK K; (try simp only [Act.put, List.setIfInBounds_toArray, List.set_cons_zero, List.set_cons_succ]); refine wpAnyZ_one' (i := 5) (by kernel_rfl) rfl (fun K hK => ?_); go_simp; refine hK.out _ _ (fun _ h => h) ?_; clear hK K; (try simp only [Act.put, List.setIfInBounds_toArray, List.set_cons_zero, List.set_cons_succ]); refine wpAnyZ_one' (i := 6) (by kernel_rfl) rfl (fun K hK => ?_); go_simp; refine hK.out _ _ (fun _ h => h) ?_; clear hK K; (try simp only [Act.put, List.setIfInBounds_toArray, List.set_cons_zero, List.set_cons_succ]); refine wpAnyZ_done (by kernel_rfl) ?_ _; go_wp2; refine bodyPost_ret (v := .tuple #[.agg #[.int .i64 ((fld bs zs k 0 : Nat) : Int), .int .i64 ((fld bs zs k 1 : Nat) : Int), .int .i64 ((fld bs zs k 2 : Nat) : Int)], .slice (some ⟨b, off + 8 * k, none⟩) (len - 8 * k) (cap - 8 * k), .bool true]) (by simp [results, Tryz.results60, go_sem, r0, r1, r2]) rfl ⟨grownBy_setNew (grownBy_setNew (grownBy_setNew (grownBy_drew HR.out.2.1) (Nat.le_succ _)) (Nat.le_succ _)) (Nat.le_succ _), .inl ⟨HW.out, by rw [adr, if_neg hcap]⟩⟩
/-- the copy's bytes behind k rounds -/
def cop (zs : List Nat) (k : Nat) : List Nat := zs.take k ++ List.replicate (zs.length - k) 0
theorem cop_len (zs : List Nat) (k : Nat) (h : k ≤ zs.length) : (cop zs k).length = zs.length := by simp [cop]; omega
theorem cop_zero (zs : List Nat) : cop zs 0 = List.replicate zs.length 0 := by simp [cop]
theorem cop_all (zs : List Nat) : cop zs zs.length = zs := by simp [cop]
theorem cop_succ (zs : List Nat) (k : Nat) (h : k < zs.length) : (cop zs k).set k (zs.getD k 0) = cop zs (k + 1) := by
  unfold cop
  rw [List.set_append_right _ _ (by simp; omega)]
  have e1 : k - (List.take k zs).length = 0 := by simp; omega
  rw [e1]; obtain ⟨m, hm⟩ : ∃ m, zs.length - k = m + 1 := ⟨zs.length - k - 1, by omega⟩; rw [hm, show zs.length - (k + 1) = m by omega, List.replicate_succ, List.set_cons_zero]; rw [List.take_succ_eq_append_getElem h, List.append_assoc, List.singleton_append]; simp only [List.getD, List.getElem?_eq_getElem h, Option.getD_some]

set_option maxHeartbeats 400000 in
theorem toByteS_any (oa : Option Addr) (len cap : Nat) (zs : List Nat) (w : World) (hsl : SlB w oa len zs) (hm : len ≤ 1073741824) :
    Calls Tryz.prog 35 #[.slice oa len cap] w fun e w' => e = .returned (.slice (some ⟨w.heap.size, 0, none⟩) len len) ∧ Own w' 5 w.heap.size zs ∧ w.grownBy w' none := by
  have HS : Hid (SlB w oa len zs) := hsl; obtain ⟨hl, hb, hc⟩ := hsl; have HB : Hid (∀ z ∈ zs, z < 256) := hb; clear hb; obtain ⟨i0, hi, hz0, hz1, hz2⟩ := info_parts Tryz.infoByte
  go_enter Tryz.func35, Tryz.ntmps35
  go_wp2_with (at_make; refine wpList_make_full _ rfl (.tmp 6) (.tmp 6) 37 rfl w.heap.size 5 i0 (.int .u8 0) 1 Tryz.underlying37 hi hz0 hz1 .i64 .i64 len len len rfl rfl rfl rfl ?cb ?cm (Nat.le_refl _) ?_)
  case cb => rw [hz2]; omega
  case cm => unfold maxLen; omega
  intro w1 hown hgrow
  have hO : Own w1 5 w.heap.size (cop zs 0) := by
    refine own_made (n := len) (cap := len) (base := w.heap.size) ?_ ?_
    · have e : (madeCells #[Value.int .u8 0] len).toList = (cop zs 0).map bv := by
        rw [cop_zero, hl]
        simp [toList_madeCells_one, bv]
      rw [← e]; exact hown
    · intro z hz; rw [cop_zero] at hz; have := List.eq_of_mem_replicate hz; omega
  clear hown; have HO : Hid (Own w1 5 w.heap.size (cop zs 0)) := hO; have HG : Hid (w.grownBy w1 none) := hgrow; clear hO hgrow; go_wp2
  go_loopw [4] (fun i wr => ∃ k : Nat, k ≤ len ∧ i = .int .i64 k ∧ Own wr 5 w.heap.size (cop zs k) ∧ w.grownBy wr none) (fun i _ => len - (intOf i).toNat)
  case atStart => exact ⟨0, Nat.zero_le _, rfl, HO.out, HG.out⟩
  case round =>
    obtain ⟨k, hk, rfl, hO, hG⟩ := hrel
    by_cases hlt : k < len
    · obtain ⟨b, off, rfl, hcc⟩ := hc (by omega)
      have hck : wr.cell? ⟨b, off + k, none⟩ = some (.int .u8 ((zs.getD k 0 : Nat) : Int)) := by
        have h0 := hcc k hlt; exact (World.cell?_of_block (w := w) (a := ⟨b, off + k, none⟩) (hG.block b (cell_block_lt h0) (by simp))).trans h0
      have hfz := hO.free k
      have hz256 : zs.getD k 0 < 256 := by
        have hkz : k < zs.length := by omega
        refine HB.out _ ?_
        simp [List.getD, hkz]
      have hcw := hO.cell k (by rw [cop_len _ _ (by omega)]; omega); have hO2 := hO.set k (zs.getD k 0) hz256; rw [cop_succ zs k (by omega)] at hO2
      have hG2 : w.grownBy (wr.setCell ⟨w.heap.size, k, none⟩ (.int .u8 ((zs.getD k 0 : Nat) : Int))) none :=
        grownBy_new hG (grownBy_setCell (grownBy_refl wr _)) (Nat.le_refl _)
      obtain ⟨c, hce⟩ : ∃ c, c = zs.getD k 0 := ⟨_, rfl⟩; rw [← hce] at hck hO2 hG2 hz256; obtain ⟨c0, hce0⟩ : ∃ c0, c0 = (cop zs k).getD k 0 := ⟨_, rfl⟩; rw [← hce0] at hcw; have R : Hid (_ ∧ _) := ⟨hO2, hG2⟩; clear hcc hc hce hO hG hO2 hG2 hce0; go_wp2; go_roundw
      case rel => exact ⟨k + 1, by omega, by go_num, R.out.1, R.out.2⟩
      case measure => simp [intOf]; omega
    · obtain rfl : k = len := by omega
      have R : Hid (_ ∧ _) := ⟨hO, hG⟩; clear hO hG; go_wp2; go_ret; exact ⟨rfl, by rw [← hl] at R; rw [cop_all] at R; exact R.out.1, R.out.2⟩

set_option maxHeartbeats 800000 in
theorem eqByteS_same (oa ob : Option Addr) (len ca cb : Nat) (zs : List Nat) (w : World) (ha : SlB w oa len zs) (hb : SlB w ob len zs) (hm : len ≤ 1073741824) :
    Calls Tryz.prog 45 #[.slice oa len ca, .slice ob len cb] w fun e w' => e = .returned (.bool true) ∧ w.grownBy w' none := by
  obtain ⟨hl, hz, hc⟩ := ha; obtain ⟨_, _, hd⟩ := hb; clear hz
  go_enter Tryz.func45, Tryz.ntmps45
  go_wp2
  go_loopw [5] (fun i wr => ∃ k : Nat, k ≤ len ∧ i = .int .i64 k ∧ w.grownBy wr none) (fun i _ => len - (intOf i).toNat)
  case atStart => exact ⟨0, Nat.zero_le _, rfl, grownBy_refl _ _⟩
  case round =>
    obtain ⟨k, hk, rfl, hG⟩ := hrel
    by_cases hlt : k < len
    · obtain ⟨b, off, rfl, hcc⟩ := hc (by omega); obtain ⟨b', off', rfl, hdd⟩ := hd (by omega)
      have h1 : wr.cell? ⟨b, off + k, none⟩ = some (.int .u8 ((zs.getD k 0 : Nat) : Int)) := by
        have h0 := hcc k hlt; exact (World.cell?_of_block (w := w) (a := ⟨b, off + k, none⟩) (hG.block b (cell_block_lt h0) (by simp))).trans h0
      have h2 : wr.cell? ⟨b', off' + k, none⟩ = some (.int .u8 ((zs.getD k 0 : Nat) : Int)) := by
        have h0 := hdd k hlt; exact (World.cell?_of_block (w := w) (a := ⟨b', off' + k, none⟩) (hG.block b' (cell_block_lt h0) (by simp))).trans h0
      obtain ⟨c, hce⟩ : ∃ c, c = zs.getD k 0 := ⟨_, rfl⟩; rw [← hce] at h1 h2; have HG : Hid (w.grownBy wr none) := hG; clear hcc hdd hc hd hce hG; go_wp2
      go_region
      all_goals (try go_wp2)
      all_goals go_roundw
      all_goals first | (simp [intOf]; omega) | exact ⟨k + 1, by omega, by go_num, by repeat (first | exact HG.out | apply grownBy_drew)⟩
    · have HG : Hid (w.grownBy wr none) := hG; clear hG; go_wp2; go_ret; exact ⟨rfl, HG.out⟩
/-- the bytes behind k rounds of markByteS -/
def marked (zs : List Nat) (m : Nat) : Nat → List Nat
  | 0 => zs
  | k + 1 => (marked zs m k).set k ((m + k) % 256)
theorem marked_len (zs : List Nat) (m k : Nat) : (marked zs m k).length = zs.length := by
  induction k with
  | zero => rfl
  | succ k ih => simp [marked, ih]
theorem marked_get (zs : List Nat) (m k i : Nat) (hi : i < zs.length) (hk : i < k) : (marked zs m k).getD i 0 = (m + i) % 256 := by
  induction k with
  | zero => omega
  | succ k ih =>
    by_cases e : i = k
    · subst e
      simp [marked, List.getD, marked_len, hi]
    · have := ih (by omega); simp only [marked, List.getD, List.getElem?_set] at this ⊢; rw [if_neg (by omega)]; exact this

set_option maxHeartbeats 400000 in
theorem markByteS_own (g len cap m : Nat) (zs : List Nat) (w : World) (hO : Own w 5 g zs) (hl : zs.length = len) (hm : len ≤ 1073741824) (hm2 : m ≤ 1073741824) :
    Calls Tryz.prog 24 #[.slice (some ⟨g, 0, none⟩) len cap, .int .i64 (m : Int)] w fun e w' => e = .returned (.int .i64 ((m : Int) + len)) ∧ Own w' 5 g (marked zs m len) ∧ w.grownBy w' (some g) := by
  have HO : Hid (Own w 5 g zs) := hO; clear hO
  go_enter Tryz.func24, Tryz.ntmps24
  go_wp2
  go_loopw [1, 5] (fun v i wr => ∃ k : Nat, k ≤ len ∧ i = .int .i64 k ∧ v = .int .i64 ((m : Int) + k) ∧ Own wr 5 g (marked zs m k) ∧ w.grownBy wr (some g)) (fun _ i _ => len - (intOf i).toNat)
  case atStart => exact ⟨0, Nat.zero_le _, rfl, by go_num, HO.out, grownBy_refl _ _⟩
  case round =>
    obtain ⟨k, hk, rfl, rfl, hO, hG⟩ := hrel
    by_cases hlt : k < len
    · have hcw := hO.cell k (by rw [marked_len]; omega); have hfz := hO.free k
      have R : Hid (Own (wr.setCell ⟨g, k, none⟩ (.int .u8 (((m + k) % 256 : Nat) : Int))) 5 g (marked zs m (k + 1)) ∧ w.grownBy (wr.setCell ⟨g, k, none⟩ (.int .u8 (((m + k) % 256 : Nat) : Int))) (some g)) :=
        ⟨hO.set k _ (by omega), grownBy_setCell hG⟩
      obtain ⟨c0, hce0⟩ : ∃ c0, c0 = (marked zs m k).getD k 0 := ⟨_, rfl⟩; rw [← hce0] at hcw
      have e1 : (((m + k) % 256 : Nat) : Int) = ((m : Int) + k) % 256 := by omega
      rw [e1] at R; clear hO hG hce0 e1; go_wp2; go_roundw
      case rel => exact ⟨k + 1, by omega, by go_num, by go_num, R.out.1, R.out.2⟩
      case measure => simp [intOf]; omega
    · obtain rfl : k = len := by omega
      have R : Hid (_ ∧ _) := ⟨hO, hG⟩; clear hO hG; go_wp2; go_ret; exact ⟨rfl, R.out.1, R.out.2⟩

set_option maxHeartbeats 400000 in
theorem heldByteS_own (g len cap m : Nat) (zs : List Nat) (w : World) (hO : Own w 5 g zs) (hl : zs.length = len) (hz : ∀ i, i < len → zs.getD i 0 = (m + i) % 256) (hm : len ≤ 1073741824) (hm2 : m ≤ 1073741824) :
    Calls Tryz.prog 46 #[.slice (some ⟨g, 0, none⟩) len cap, .int .i64 (m : Int)] w fun e w' => e = .returned (.int .i64 ((m : Int) + len)) ∧ w' = w := by
  have HO : Hid (Own w 5 g zs) := hO; have HZ : Hid (∀ i, i < len → zs.getD i 0 = (m + i) % 256) := hz; clear hO hz
  go_enter Tryz.func46, Tryz.ntmps46
  go_wp2
  go_loop [1, 5] (fun v i => ∃ k : Nat, k ≤ len ∧ i = .int .i64 k ∧ v = .int .i64 ((m : Int) + k)) (fun _ i => len - (intOf i).toNat)
  case atStart => exact ⟨0, Nat.zero_le _, rfl, by go_num⟩
  case round =>
    obtain ⟨k, hk, rfl, rfl⟩ := hrel
    by_cases hlt : k < len
    · have hcw := HO.out.cell k (by omega); rw [HZ.out k hlt] at hcw
      have e1 : (((m + k) % 256 : Nat) : Int) = ((m : Int) + k) % 256 := by omega
      rw [e1] at hcw; clear e1; go_wp2
      go_round
      case rel => exact ⟨k + 1, by omega, by go_num, by go_num⟩
      case measure => simp [intOf]; omega
    · obtain rfl : k = len := by omega
      go_wp2; go_ret; exact ⟨rfl, rfl⟩

set_option maxHeartbeats 400000 in
theorem szByteS_ok (oa : Option Addr) (len cap L : Nat) (w : World) (h : len ≤ L) (hL : L ≤ 1073741824) :
    Calls Tryz.prog 29 #[.slice oa len cap, .int .i64 (L : Int)] w fun e w' => e = .returned (.int .i64 ((L : Int) - len)) ∧ w' = w := by
  go_enter Tryz.func29, Tryz.ntmps29
  go_wp2; go_ret; exact ⟨rfl, rfl⟩
set_option maxHeartbeats 400000 in
theorem szByteS_big (oa : Option Addr) (len cap L : Nat) (w : World) (h : L < len) (hL : L ≤ 1073741824) (hx : len ≤ maxLen) :
    Calls Tryz.prog 29 #[.slice oa len cap, .int .i64 (L : Int)] w fun e w' => e = .returned (.int .i64 (-1)) ∧ w' = w := by
  unfold maxLen at hx
  go_enter Tryz.func29, Tryz.ntmps29
  go_wp2; go_ret; exact ⟨rfl, rfl⟩
/-- bytes as a string -/
def strB (zs : List Nat) : ByteArray := ⟨(zs.map UInt8.ofNat).toArray⟩
theorem strB_toList (zs : List Nat) : (strB zs).toList = zs.map UInt8.ofNat := by simp [strB]
theorem strB_size (zs : List Nat) : (strB zs).size = zs.length := by simp [strB, ByteArray.size]
theorem foldl_push (l : List Nat) : ∀ s : ByteArray, (l.map (fun n : Nat => (n : Int))).foldl (fun r n => r.push (UInt8.ofNat n.toNat)) s = ⟨s.data ++ (l.map UInt8.ofNat).toArray⟩ := by
  induction l with
  | nil => intro s; simp
  | cons x l ih =>
    intro s; simp only [List.map_cons, List.foldl_cons]; rw [ih]
    congr 1
    apply Array.ext'
    simp [ByteArray.push]
theorem run_str_b {P : Program} (w : World) {src dst e : TypeId} (hs : P.underlying src = some (.slice e)) (he : P.underlying e = some (.int .u8)) (hd : P.underlying dst = some .string)
    {oa : Option Addr} {n : Nat} {zs : List Nat} (h : SlB w oa n zs) (c : Nat) : (convert src dst (.slice oa n c)).run P w = .ok (.string (strB zs)) w := by
  rw [run_convert_bytes_string w src dst e oa n c hs he hd]
  by_cases hn : n = 0
  · subst hn; obtain rfl : zs = [] := List.eq_nil_of_length_eq_zero h.1
    cases oa with
    | none => rfl
    | some a =>
      rw [run_bytesToString w a 0 c [] (by rfl)]
      rfl
  · obtain ⟨ad, rfl, hc⟩ := h.src (by omega)
    have hl : (loadCells ad n).run P w = .ok ((zs.map (fun n : Nat => (n : Int))).map (Value.int .u8)).toArray w := by
      have h1 := run_loadCells_list (P := P) (w := w) ad (zs.map bv) hc
      have h2 : (zs.map bv).length = n := by simpa using h.1
      rw [h2] at h1; rw [h1]
      simp [bv, Function.comp_def]
    rw [run_bytesToString w ad n c _ hl, foldl_push]
    simp [strB]
/-- two strings of bytes are one where the bytes are -/
theorem strB_eq (xs ys : List Nat) (hx : ∀ z ∈ xs, z < 256) (hy : ∀ z ∈ ys, z < 256) : ((strB xs).toList == (strB ys).toList) = decide (xs = ys) := by
  have hinj : ∀ (a b : List Nat), (∀ z ∈ a, z < 256) → (∀ z ∈ b, z < 256) → a.map UInt8.ofNat = b.map UInt8.ofNat → a = b := by
    intro a
    induction a with
    | nil => intro b _ _ h; cases b with
      | nil => rfl
      | cons => simp at h
    | cons x a ih =>
      intro b ha hb h
      cases b with
      | nil => simp at h
      | cons y b =>
        simp only [List.map_cons, List.cons.injEq] at h
        have e1 : x = y := by
          have := congrArg UInt8.toNat h.1; have h3 := ha x (by simp); have h4 := hb y (by simp)
          simpa [Nat.mod_eq_of_lt h3, Nat.mod_eq_of_lt h4] using this
        rw [e1, ih b (fun z hz => ha z (by simp [hz])) (fun z hz => hb z (by simp [hz])) h.2]
  rw [strB_toList, strB_toList]
  by_cases he : xs = ys
  · subst he; simp
  · rw [decide_eq_false he]
    simpa using fun h => he (hinj xs ys hx hy h)
end Go.Proofs.YtjnegjgpkboocaaGreatDoor
/-
  Words for rows of ints: a slice of ints (SlI), a row of the call's own (OwnI). Nothing here reaches the dump.
-/
namespace Go.Proofs.YtjnegjgpkboocaaGreatDoor
open Go.ChangeShapes Go.WideShapes Go.ChangeAt Go.RowKit

/-- an int as a value -/
def iv (n : Int) : Value := .int .i64 n
/-- a number that an int can be -/
def i64Ok (n : Int) : Prop := -9223372036854775808 ≤ n ∧ n ≤ 9223372036854775807

/-- A slice of ints that reads as zs, in the world w (its address unknown where it is empty). -/
def SlI (w : World) (oa : Option Addr) (len : Nat) (zs : List Int) : Prop :=
  zs.length = len ∧ (∀ z ∈ zs, i64Ok z) ∧ (len ≠ 0 → ∃ b off, oa = some ⟨b, off, none⟩ ∧ ∀ i, i < len → w.cell? ⟨b, off + i, none⟩ = some (.int .i64 (zs.getD i 0)))

/-- Block g is a row of ints, not frozen, whose first cells are zs. -/
def OwnI (w : World) (e : TypeId) (g : Nat) (zs : List Int) : Prop :=
  (∀ z ∈ zs, i64Ok z) ∧ ∃ cur : Array Value, w.heap[g]? = some (.cells cur e (0, 0)) ∧ ∀ i, i < zs.length → cur[i]? = some (.int .i64 (zs.getD i 0))

theorem getI_mem {zs : List Int} {i : Nat} (h : i < zs.length) : zs.getD i 0 ∈ zs := by simp [List.getD, h]
theorem SlI.ok {w : World} {oa : Option Addr} {len : Nat} {zs : List Int} (h : SlI w oa len zs) {i : Nat} (hi : i < len) : i64Ok (zs.getD i 0) := h.2.1 _ (getI_mem (by rw [h.1]; exact hi))
theorem OwnI.lt {w : World} {e : TypeId} {g : Nat} {zs : List Int} (h : OwnI w e g zs) : g < w.heap.size := by
  obtain ⟨_, cur, hg, _⟩ := h; exact (Array.getElem?_eq_some_iff.1 hg).1
theorem OwnI.cell {w : World} {e : TypeId} {g : Nat} {zs : List Int} (h : OwnI w e g zs) (i : Nat) (hi : i < zs.length) : w.cell? ⟨g, i, none⟩ = some (.int .i64 (zs.getD i 0)) := by
  obtain ⟨_, cur, hg, hc⟩ := h; simp only [World.cell?, hg]
  simpa using hc i hi
theorem OwnI.free {w : World} {e : TypeId} {g : Nat} {zs : List Int} (h : OwnI w e g zs) (i : Nat) : w.frozen? ⟨g, i, none⟩ = false := by
  obtain ⟨_, cur, hg, hc⟩ := h
  simp [World.frozen?, hg]
theorem OwnI.of_block {w w' : World} {e : TypeId} {g : Nat} {zs : List Int} (h : OwnI w e g zs) (hb : w'.heap[g]? = w.heap[g]?) : OwnI w' e g zs := by
  obtain ⟨hz, cur, hg, hc⟩ := h; exact ⟨hz, cur, hb.trans hg, hc⟩
theorem OwnI.grown {w w' : World} {row : Option Nat} {e : TypeId} {g : Nat} {zs : List Int} (h : OwnI w e g zs) (hg : w.grownBy w' row) (hne : some g ≠ row) : OwnI w' e g zs :=
  h.of_block (hg.block g h.lt hne)
theorem OwnI.sl {w : World} {e : TypeId} {g : Nat} {zs : List Int} (h : OwnI w e g zs) (len : Nat) (hl : zs.length = len) : SlI w (some ⟨g, 0, none⟩) len zs :=
  ⟨hl, h.1, fun _ => ⟨g, 0, rfl, fun i hi => by rw [Nat.zero_add]; exact h.cell i (by omega)⟩⟩
theorem OwnI.set {w : World} {e : TypeId} {g : Nat} {zs : List Int} (h : OwnI w e g zs) (i : Nat) (v : Int) (hv : i64Ok v) : OwnI (w.setCell ⟨g, i, none⟩ (.int .i64 v)) e g (zs.set i v) := by
  obtain ⟨hz, cur, hg, hc⟩ := h; refine ⟨fun z hz' => ?_, cur.setIfInBounds i (.int .i64 v), heap_setCell_same w g i cur e _ hg, fun j hj => ?_⟩
  · rcases List.mem_or_eq_of_mem_set hz' with h1 | h1
    · exact hz z h1
    · rw [h1]; exact hv
  · rw [List.length_set] at hj; have := hc j hj; rw [Array.getElem?_setIfInBounds]
    by_cases e1 : i = j
    · subst e1; have hs : i < cur.size := (Array.getElem?_eq_some_iff.1 this).1
      simp [hs, List.getD, hj]
    · simp [e1, this, List.getD]
theorem SlI.grown {w w' : World} {row : Option Nat} {oa : Option Addr} {len : Nat} {zs : List Int} (h : SlI w oa len zs) (hg : w.grownBy w' row) (hne : ∀ b off, oa = some ⟨b, off, none⟩ → some b ≠ row) : SlI w' oa len zs := by
  obtain ⟨h1, h2, h3⟩ := h; refine ⟨h1, h2, fun hn => ?_⟩; obtain ⟨b, off, rfl, hc⟩ := h3 hn; exact ⟨b, off, rfl, fun i hi => (World.cell?_of_block (w := w) (a := ⟨b, off + i, none⟩) (hg.block b (cell_block_lt (hc i hi)) (hne b off rfl))).trans (hc i hi)⟩
theorem SlI.grown0 {w w' : World} {oa : Option Addr} {len : Nat} {zs : List Int} (h : SlI w oa len zs) (hg : w.grownBy w' none) : SlI w' oa len zs := h.grown hg (by simp)
theorem SlI.heap {w w' : World} {oa : Option Addr} {len : Nat} {zs : List Int} (h : SlI w oa len zs) (hh : w'.heap = w.heap) : SlI w' oa len zs := by
  obtain ⟨h1, h2, h3⟩ := h; refine ⟨h1, h2, fun hn => ?_⟩; obtain ⟨b, off, rfl, hc⟩ := h3 hn; exact ⟨b, off, rfl, fun i hi => (World.cell?_of_block (w := w) (a := ⟨b, off + i, none⟩) (by rw [hh])).trans (hc i hi)⟩
/-- a row that a make has laid -/
theorem ownI_made {w' : World} {base e : Nat} {g n cap : Nat} {zs : List Int} (h : w'.ownsRow base e 1 (.slice (some ⟨g, 0, none⟩) n cap) n (zs.map iv)) (hz : ∀ z ∈ zs, i64Ok z) : OwnI w' e g zs := by
  rcases h.2 with ⟨h', _⟩ | ⟨g', cap', cur, h', _, hg, _, _, _, htake⟩
  · simp at h'
  · simp only [Value.slice.injEq, Option.some.injEq, Addr.mk.injEq, and_true, true_and] at h'; obtain ⟨rfl, rfl⟩ := h'; refine ⟨hz, cur, hg, fun i hi => ?_⟩
    have hl : zs.length = n := by simpa using h.1
    have h2 : (cur.toList.take (n * 1))[i]? = (zs.map iv)[i]? := by rw [htake]
    rw [List.getElem?_take, if_pos (by omega)] at h2; rw [← Array.getElem?_toList, h2]
    simp [List.getD, hi, iv]

/-- a slice of ints that came in, opened once -/
theorem sli_open {H : Type} {enc : TypeId × Value → H} {P : Program} {W : World} {t e : TypeId} {a : Option Addr} {len cap : Nat} {d : DataW H} {p : List MemPlace}
    (hu : P.underlying t = some (.slice e)) (he : P.underlying e = some (.int .i64)) (hc : P.cellsOf e = 1)
    (h : DataW.Trod enc P W 0 (fun _ => true) true t (.slice a len cap) d p) : ∃ zs, SlI W a len zs ∧ len ≤ maxLen := by
  obtain ⟨fuel, hf⟩ := h
  rcases open_ints hu he hc hf with ⟨hcs, _⟩ | ⟨x, l, c, zs, hcs, _, hl, hm, hz, _, hcell, hwz⟩
  · simp [Value.cells] at hcs
    obtain ⟨rfl, rfl, rfl⟩ := hcs; exact ⟨[], ⟨rfl, by simp, fun h => absurd rfl h⟩, Nat.zero_le _⟩
  · simp [Value.cells] at hcs
    obtain ⟨rfl, rfl, rfl⟩ := hcs
    have hz' : zs.length = cap := by simpa using hz
    refine ⟨zs.take len, ⟨by simp; omega, fun z hz1 => bounds_i64 (hwz z (List.mem_of_mem_take hz1)), fun hn => ?_⟩, by omega⟩; obtain ⟨b, off, spot⟩ := x; have h0 := hcell 0 (by omega)
    have hspot : spot = none := by simpa [Addr.add] using World.cell?_spot h0
    subst hspot; refine ⟨b, off, rfl, fun i hi => ?_⟩; have hi' := hcell i (by omega)
    have e1 : (zs.take len).getD i 0 = zs.getD i 0 := by simp [List.getD, hi]
    rw [e1]
    have e2 : (⟨b, off, none⟩ : Addr).add i = ⟨b, off + i, none⟩ := by
      by_cases h0' : i = 0 <;> simp [Addr.add, h0']
    rw [← e2]; exact hi'
end Go.Proofs.YtjnegjgpkboocaaGreatDoor
/-
  markByteS and heldByteS over bytes that lie somewhere in a row, walked; markText; whole numbers marked and held.
-/
namespace Go.Proofs.YtjnegjgpkboocaaGreatDoor
open Go.RowKit

/-- the row behind k rounds of markByteS from its place off on -/
def mkAt (D : List Nat) (off m : Nat) : Nat → List Nat
  | 0 => D
  | k + 1 => (mkAt D off m k).set (off + k) ((m + k) % 256)
theorem mkAt_len (D : List Nat) (off m k : Nat) : (mkAt D off m k).length = D.length := by
  induction k with
  | zero => rfl
  | succ k ih => simp [mkAt, ih]
theorem mkAt_get (D : List Nat) (off m k i : Nat) (hi : off + i < D.length) (hk : i < k) : (mkAt D off m k).getD (off + i) 0 = (m + i) % 256 := by
  induction k with
  | zero => omega
  | succ k ih =>
    by_cases e : i = k
    · subst e
      simp [mkAt, List.getD, mkAt_len, hi]
    · have := ih (by omega); simp only [mkAt, List.getD, List.getElem?_set] at this ⊢; rw [if_neg (by omega)]; exact this
set_option maxHeartbeats 400000 in
theorem markByteS_at (g off len cap m : Nat) (D : List Nat) (w : World) (hO : Own w 5 g D) (hl : off + len ≤ D.length) (hm : len ≤ 1073741824) (hm2 : m ≤ 1073741824) :
    Calls Tryz.prog 24 #[.slice (some ⟨g, off, none⟩) len cap, .int .i64 (m : Int)] w fun e w' => e = .returned (.int .i64 ((m : Int) + len)) ∧ Own w' 5 g (mkAt D off m len) ∧ w.grownBy w' (some g) := by
  have HO : Hid (Own w 5 g D) := hO; clear hO
  go_enter Tryz.func24, Tryz.ntmps24
  go_wp2
  go_loopw [1, 5] (fun v i wr => ∃ k : Nat, k ≤ len ∧ i = .int .i64 k ∧ v = .int .i64 ((m : Int) + k) ∧ Own wr 5 g (mkAt D off m k) ∧ w.grownBy wr (some g)) (fun _ i _ => len - (intOf i).toNat)
  case atStart => exact ⟨0, Nat.zero_le _, rfl, by go_num, HO.out, grownBy_refl _ _⟩
  case round =>
    obtain ⟨k, hk, rfl, rfl, hO, hG⟩ := hrel
    by_cases hlt : k < len
    · have hcw := hO.cell (off + k) (by rw [mkAt_len]; omega); have hfz := hO.free (off + k)
      have R : Hid (Own (wr.setCell ⟨g, off + k, none⟩ (.int .u8 (((m + k) % 256 : Nat) : Int))) 5 g (mkAt D off m (k + 1)) ∧ w.grownBy (wr.setCell ⟨g, off + k, none⟩ (.int .u8 (((m + k) % 256 : Nat) : Int))) (some g)) :=
        ⟨hO.set (off + k) _ (by omega), grownBy_setCell hG⟩
      obtain ⟨c0, hce0⟩ : ∃ c0, c0 = (mkAt D off m k).getD (off + k) 0 := ⟨_, rfl⟩; rw [← hce0] at hcw
      have e1 : (((m + k) % 256 : Nat) : Int) = ((m : Int) + k) % 256 := by omega
      rw [e1] at R; clear hO hG hce0 e1; go_wp2; go_roundw
      case rel => exact ⟨k + 1, by omega, by go_num, by go_num, R.out.1, R.out.2⟩
      case measure => simp [intOf]; omega
    · obtain rfl : k = len := by omega
      have R : Hid (_ ∧ _) := ⟨hO, hG⟩; clear hO hG; go_wp2; go_ret; exact ⟨rfl, R.out.1, R.out.2⟩
set_option maxHeartbeats 400000 in
theorem heldByteS_at (g off len cap m : Nat) (D : List Nat) (w : World) (hO : Own w 5 g D) (hl : off + len ≤ D.length) (hz : ∀ i, i < len → D.getD (off + i) 0 = (m + i) % 256) (hm : len ≤ 1073741824) (hm2 : m ≤ 1073741824) :
    Calls Tryz.prog 46 #[.slice (some ⟨g, off, none⟩) len cap, .int .i64 (m : Int)] w fun e w' => e = .returned (.int .i64 ((m : Int) + len)) ∧ w' = w := by
  have HO : Hid (Own w 5 g D) := hO; have HZ : Hid (∀ i, i < len → D.getD (off + i) 0 = (m + i) % 256) := hz; clear hO hz
  go_enter Tryz.func46, Tryz.ntmps46
  go_wp2
  go_loop [1, 5] (fun v i => ∃ k : Nat, k ≤ len ∧ i = .int .i64 k ∧ v = .int .i64 ((m : Int) + k)) (fun _ i => len - (intOf i).toNat)
  case atStart => exact ⟨0, Nat.zero_le _, rfl, by go_num⟩
  case round =>
    obtain ⟨k, hk, rfl, rfl⟩ := hrel
    by_cases hlt : k < len
    · have hcw := HO.out.cell (off + k) (by omega); rw [HZ.out k hlt] at hcw
      have e1 : (((m + k) % 256 : Nat) : Int) = ((m : Int) + k) % 256 := by omega
      rw [e1] at hcw; clear e1; go_wp2
      go_round
      case rel => exact ⟨k + 1, by omega, by go_num, by go_num⟩
      case measure => simp [intOf]; omega
    · obtain rfl : k = len := by omega
      go_wp2; go_ret; exact ⟨rfl, rfl⟩
/-- whole numbers behind k rounds of markIntS -/
def mkI (zs : List Int) (m : Nat) : Nat → List Int
  | 0 => zs
  | k + 1 => (mkI zs m k).set k ((m + k : Nat) : Int)
theorem mkI_len (zs : List Int) (m k : Nat) : (mkI zs m k).length = zs.length := by
  induction k with
  | zero => rfl
  | succ k ih => simp [mkI, ih]
theorem mkI_get (zs : List Int) (m k i : Nat) (hi : i < zs.length) (hk : i < k) : (mkI zs m k).getD i 0 = ((m + i : Nat) : Int) := by
  induction k with
  | zero => omega
  | succ k ih =>
    by_cases e : i = k
    · subst e
      simp [mkI, List.getD, mkI_len, hi]
    · have := ih (by omega); simp only [mkI, List.getD, List.getElem?_set] at this ⊢; rw [if_neg (by omega)]; exact this
set_option maxHeartbeats 400000 in
theorem markIntS_own (g len cap m : Nat) (zs : List Int) (w : World) (hO : OwnI w 3 g zs) (hl : zs.length = len) (hm : len ≤ 1073741824) (hm2 : m ≤ 1073741824) :
    Calls Tryz.prog 26 #[.slice (some ⟨g, 0, none⟩) len cap, .int .i64 (m : Int)] w fun e w' => e = .returned (.int .i64 ((m : Int) + len)) ∧ OwnI w' 3 g (mkI zs m len) ∧ w.grownBy w' (some g) := by
  have HO : Hid (OwnI w 3 g zs) := hO; clear hO
  go_enter Tryz.func26, Tryz.ntmps26
  go_wp2
  go_loopw [1, 5] (fun v i wr => ∃ k : Nat, k ≤ len ∧ i = .int .i64 k ∧ v = .int .i64 ((m : Int) + k) ∧ OwnI wr 3 g (mkI zs m k) ∧ w.grownBy wr (some g)) (fun _ i _ => len - (intOf i).toNat)
  case atStart => exact ⟨0, Nat.zero_le _, rfl, by go_num, HO.out, grownBy_refl _ _⟩
  case round =>
    obtain ⟨k, hk, rfl, rfl, hO, hG⟩ := hrel
    by_cases hlt : k < len
    · have hcw := hO.cell k (by rw [mkI_len]; omega); have hfz := hO.free k
      have R : Hid (OwnI (wr.setCell ⟨g, k, none⟩ (.int .i64 ((m + k : Nat) : Int))) 3 g (mkI zs m (k + 1)) ∧ w.grownBy (wr.setCell ⟨g, k, none⟩ (.int .i64 ((m + k : Nat) : Int))) (some g)) :=
        ⟨hO.set k _ ⟨by omega, by omega⟩, grownBy_setCell hG⟩
      obtain ⟨c0, hce0⟩ : ∃ c0, c0 = (mkI zs m k).getD k 0 := ⟨_, rfl⟩; rw [← hce0] at hcw
      have e1 : ((m + k : Nat) : Int) = (m : Int) + k := by omega
      rw [e1] at R; clear hO hG hce0 e1; go_wp2; go_roundw
      case rel => exact ⟨k + 1, by omega, by go_num, by go_num, R.out.1, R.out.2⟩
      case measure => simp [intOf]; omega
    · obtain rfl : k = len := by omega
      have R : Hid (_ ∧ _) := ⟨hO, hG⟩; clear hO hG; go_wp2; go_ret; exact ⟨rfl, R.out.1, R.out.2⟩
set_option maxHeartbeats 400000 in
theorem heldIntS_own (g len cap m : Nat) (zs : List Int) (w : World) (hO : OwnI w 3 g zs) (hl : zs.length = len) (hz : ∀ i, i < len → zs.getD i 0 = ((m + i : Nat) : Int)) (hm : len ≤ 1073741824) (hm2 : m ≤ 1073741824) :
    Calls Tryz.prog 28 #[.slice (some ⟨g, 0, none⟩) len cap, .int .i64 (m : Int)] w fun e w' => e = .returned (.int .i64 ((m : Int) + len)) ∧ w' = w := by
  have HO : Hid (OwnI w 3 g zs) := hO; have HZ : Hid (∀ i, i < len → zs.getD i 0 = ((m + i : Nat) : Int)) := hz; clear hO hz
  go_enter Tryz.func28, Tryz.ntmps28
  go_wp2
  go_loop [1, 5] (fun v i => ∃ k : Nat, k ≤ len ∧ i = .int .i64 k ∧ v = .int .i64 ((m : Int) + k)) (fun _ i => len - (intOf i).toNat)
  case atStart => exact ⟨0, Nat.zero_le _, rfl, by go_num⟩
  case round =>
    obtain ⟨k, hk, rfl, rfl⟩ := hrel
    by_cases hlt : k < len
    · have hcw := HO.out.cell k (by omega); rw [HZ.out k hlt] at hcw
      have e1 : ((m + k : Nat) : Int) = (m : Int) + k := by omega
      rw [e1] at hcw; clear e1; go_wp2
      go_round
      case rel => exact ⟨k + 1, by omega, by go_num, by go_num⟩
      case measure => simp [intOf]; omega
    · obtain rfl : k = len := by omega
      go_wp2; go_ret; exact ⟨rfl, rfl⟩
theorem markIntS_nil (m : Nat) (cap : Nat) (w : World) :
    Calls Tryz.prog 26 #[.slice none 0 cap, .int .i64 (m : Int)] w fun e w' => e = .returned (.int .i64 (m : Int)) ∧ w' = w := by
  go_enter Tryz.func26, Tryz.ntmps26
  go_wp2
  go_loop [1, 5] (fun v i => i = .int .i64 0 ∧ v = .int .i64 (m : Int)) (fun _ _ => 0)
  case atStart => exact ⟨rfl, rfl⟩
  case round =>
    obtain ⟨rfl, rfl⟩ := hrel; go_wp2; go_ret; exact ⟨rfl, rfl⟩
theorem heldIntS_nil (m : Nat) (cap : Nat) (w : World) :
    Calls Tryz.prog 28 #[.slice none 0 cap, .int .i64 (m : Int)] w fun e w' => e = .returned (.int .i64 (m : Int)) ∧ w' = w := by
  go_enter Tryz.func28, Tryz.ntmps28
  go_wp2
  go_loop [1, 5] (fun v i => i = .int .i64 0 ∧ v = .int .i64 (m : Int)) (fun _ _ => 0)
  case atStart => exact ⟨rfl, rfl⟩
  case round =>
    obtain ⟨rfl, rfl⟩ := hrel; go_wp2; go_ret; exact ⟨rfl, rfl⟩
/-- an entry as it lies: its bytes from a place of a row of their own on -/
structure En where
  t : Nat
  D : List Nat
  off : Nat
  n : Nat
  g : Nat
  cp : Nat
def En.data (e : En) : List Nat := (e.D.drop e.off).take e.n
/-- nothing old turned but in T -/
structure OnlyW (T : Nat → Prop) (w w' : World) : Prop where
  os : w'.os = w.os
  tape : w'.tape = w.tape
  output : w'.output = w.output
  size : w.heap.size ≤ w'.heap.size
  block : ∀ k, k < w.heap.size → ¬ T k → w'.heap[k]? = w.heap[k]?
theorem OnlyW.refl (T : Nat → Prop) (w : World) : OnlyW T w w := ⟨rfl, rfl, rfl, Nat.le_refl _, fun _ _ _ => rfl⟩
theorem OnlyW.trans {T : Nat → Prop} {a b c : World} (h : OnlyW T a b) (k : OnlyW T b c) : OnlyW T a c :=
  ⟨k.os.trans h.os, k.tape.trans h.tape, k.output.trans h.output, Nat.le_trans h.size k.size, fun i hi hT => (k.block i (Nat.lt_of_lt_of_le hi h.size) hT).trans (h.block i hi hT)⟩
theorem OnlyW.of_grown {T : Nat → Prop} {w w' : World} {row : Option Nat} (h : w.grownBy w' row) (hr : ∀ g, row = some g → T g) : OnlyW T w w' :=
  ⟨h.os, h.tape, h.output, h.size, fun k hk hT => h.block k hk (fun e => hT (hr k e.symm))⟩
theorem OnlyW.own {T : Nat → Prop} {w w' : World} (h : OnlyW T w w') {e : TypeId} {g : Nat} {zs : List Nat} (ho : Own w e g zs) (hT : ¬ T g) : Own w' e g zs := ho.of_block (h.block g ho.lt hT)
theorem OnlyW.blk {T : Nat → Prop} {w w' : World} (h : OnlyW T w w') {k : Nat} {o : Obj} (ho : w.heap[k]? = some o) (hT : ¬ T k) : w'.heap[k]? = some o := (h.block k (Array.getElem?_eq_some_iff.1 ho).1 hT).trans ho
theorem OnlyW.grown {T : Nat → Prop} {w0 w w' : World} (h : OnlyW T w w') (hg : w0.grownBy w none) (hT : ∀ k, k < w0.heap.size → ¬ T k) : w0.grownBy w' none :=
  ⟨h.os.trans hg.os, h.tape.trans hg.tape, h.output.trans hg.output, Nat.le_trans hg.size h.size, fun k hk _ => (h.block k (Nat.lt_of_lt_of_le hk hg.size) (hT k hk)).trans (hg.block k hk (by simp))⟩
/-- a row of entries -/
structure EnR (w : World) (G : Nat) (E : List En) : Prop where
  row : ∃ cur : Array Value, w.heap[G]? = some (.cells cur 47 (0, 0)) ∧ ∀ (i : Nat) (e : En), E[i]? = some e → cur[i * 2]? = some (Value.int .i64 (e.t : Int)) ∧ cur[i * 2 + 1]? = some (Value.slice (some ⟨e.g, e.off, none⟩) e.n e.cp)
  own : ∀ e ∈ E, Own w 5 e.g e.D ∧ e.off + e.n ≤ e.D.length
  apart : (E.map En.g).Nodup
theorem EnR.cells {w : World} {G : Nat} {E : List En} (h : EnR w G E) {i : Nat} {e : En} (hi : E[i]? = some e) : w.cell? ⟨G, i * 2, none⟩ = some (.int .i64 (e.t : Int)) ∧ w.cell? ⟨G, i * 2 + 1, none⟩ = some (.slice (some ⟨e.g, e.off, none⟩) e.n e.cp) ∧ ∀ o, w.frozen? ⟨G, o, none⟩ = false := by
  obtain ⟨cur, h1, h2⟩ := h.row; exact ⟨by rw [cell_of_row w G _ _ _ _ h1]; exact (h2 i e hi).1, by rw [cell_of_row w G _ _ _ _ h1]; exact (h2 i e hi).2, fun o => by simp [World.frozen?, h1]⟩
theorem own_type {w : World} {e e' : TypeId} {g : Nat} {zs : List Nat} {cur : Array Value} {f : Nat × Nat} (h : Own w e g zs) (h' : w.heap[g]? = some (.cells cur e' f)) : e = e' := by
  obtain ⟨-, c, h1, -⟩ := h; rw [h'] at h1; have h2 := Option.some.inj h1
  injection h2 with h3 h4 h5
  exact h4.symm
theorem EnR.ne {w : World} {G : Nat} {E : List En} (h : EnR w G E) {e : En} (he : e ∈ E) : e.g ≠ G := by
  obtain ⟨cur, h1, -⟩ := h.row; intro hg; have h2 := (h.own e he).1; rw [hg] at h2; exact absurd (own_type h2 h1) (by decide)
theorem EnR.lt {w : World} {G : Nat} {E : List En} (h : EnR w G E) : G < w.heap.size := by
  obtain ⟨cur, h1, -⟩ := h.row; exact (Array.getElem?_eq_some_iff.1 h1).1
theorem EnR.kept {w w' : World} {G : Nat} {E : List En} (h : EnR w G E) (hk : ∀ k, (k = G ∨ k ∈ E.map En.g) → w'.heap[k]? = w.heap[k]?) : EnR w' G E := by
  obtain ⟨⟨cur, h1, h2⟩, h3, h4⟩ := h; exact ⟨⟨cur, (hk G (.inl rfl)).trans h1, h2⟩, fun e he => ⟨(h3 e he).1.of_block (hk e.g (.inr (List.mem_map_of_mem he))), (h3 e he).2⟩, h4⟩
theorem EnR.grown0 {w w' : World} {G : Nat} {E : List En} (h : EnR w G E) (hg : w.grownBy w' none) : EnR w' G E :=
  h.kept (fun k hk => hg.block k (by
    rcases hk with rfl | hk
    · exact h.lt
    · obtain ⟨e, he, rfl⟩ := List.mem_map.1 hk
      exact (h.own e he).1.lt) (by simp))
/-- the term of one is laid over -/
theorem EnR.setT {w : World} {G : Nat} {E : List En} (h : EnR w G E) {k : Nat} {e : En} (hk : E[k]? = some e) (t : Nat) : EnR (w.setCell ⟨G, k * 2, none⟩ (.int .i64 (t : Int))) G (E.set k { e with t := t }) := by
  have hne := fun (x : En) hx => h.ne (e := x) hx
  obtain ⟨⟨cur, h1, h2⟩, h3, h4⟩ := h; have hkl : k < E.length := (List.getElem?_eq_some_iff.1 hk).1; refine ⟨⟨_, heap_setCell_same w G (k * 2) cur _ _ h1, fun i x hi => ?_⟩, fun x hx => ?_, ?_⟩
  · by_cases e1 : i = k
    · subst e1; rw [List.getElem?_set_self hkl] at hi; obtain rfl := Option.some.inj hi; have h5 := h2 i e hk; have h6 := (Array.getElem?_eq_some_iff.1 h5.1).1; refine ⟨by simp [h6], ?_⟩; rw [Array.getElem?_setIfInBounds_ne (by omega)]; exact h5.2
    · rw [List.getElem?_set_ne (by omega)] at hi; rw [Array.getElem?_setIfInBounds_ne (by omega), Array.getElem?_setIfInBounds_ne (by omega)]; exact h2 i x hi
  · have hb : ∀ y ∈ E, Own (w.setCell ⟨G, k * 2, none⟩ (.int .i64 (t : Int))) 5 y.g y.D ∧ y.off + y.n ≤ y.D.length := fun y hy =>
      ⟨(h3 y hy).1.of_block (heap_setCell_other w ⟨G, k * 2, none⟩ y.g _ (hne y hy)), (h3 y hy).2⟩
    rcases List.mem_or_eq_of_mem_set hx with hx | rfl
    · exact hb x hx
    · exact hb e (List.mem_of_getElem? hk)
  · rw [List.map_set]
    have : (E.map En.g).set k e.g = E.map En.g := by
      have h9 : (E.map En.g)[k]? = some e.g := by rw [List.getElem?_map, hk]; rfl
      obtain ⟨h10, h11⟩ := List.getElem?_eq_some_iff.1 h9; rw [← h11]; exact List.set_getElem_self h10
    rw [this]; exact h4
/-- the bytes of one are laid over -/
theorem EnR.setD {w w' : World} {G : Nat} {E : List En} (h : EnR w G E) {k : Nat} {e : En} (hk : E[k]? = some e) (D : List Nat) (hl : D.length = e.D.length) (ho : Own w' 5 e.g D) (hg : w.grownBy w' (some e.g)) : EnR w' G (E.set k { e with D := D }) := by
  have hme := List.mem_of_getElem? hk; have hneG := h.ne hme; have hG := h.lt; obtain ⟨⟨cur, h1, h2⟩, h3, h4⟩ := h; have hkl : k < E.length := (List.getElem?_eq_some_iff.1 hk).1
  have hmap : (E.set k { e with D := D }).map En.g = E.map En.g := by
    rw [List.map_set]
    have h9 : (E.map En.g)[k]? = some e.g := by rw [List.getElem?_map, hk]; rfl
    obtain ⟨h10, h11⟩ := List.getElem?_eq_some_iff.1 h9
    show (E.map En.g).set k e.g = _
    rw [← h11]; exact List.set_getElem_self h10
  refine ⟨⟨cur, (hg.block G hG (by simp; exact fun e1 => hneG e1.symm)).trans h1, fun i x hi => ?_⟩, fun x hx => ?_, by rw [hmap]; exact h4⟩
  · by_cases e1 : i = k
    · subst e1; rw [List.getElem?_set_self hkl] at hi; obtain rfl := Option.some.inj hi; exact h2 i e hk
    · rw [List.getElem?_set_ne (by omega)] at hi; exact h2 i x hi
  · obtain ⟨i, hi⟩ := List.mem_iff_getElem?.1 hx
    by_cases e1 : i = k
    · subst e1; rw [List.getElem?_set_self hkl] at hi; obtain rfl := Option.some.inj hi; exact ⟨ho, by show e.off + e.n ≤ D.length; rw [hl]; exact (h3 e hme).2⟩
    · rw [List.getElem?_set_ne (by omega)] at hi; have hxm := List.mem_of_getElem? hi
      have hgne : x.g ≠ e.g := by
        intro hc
        have ha : (E.map En.g)[i]? = some x.g := by rw [List.getElem?_map, hi]; rfl
        have hb : (E.map En.g)[k]? = some x.g := by rw [List.getElem?_map, hk, hc]; rfl
        have hil := (List.getElem?_eq_some_iff.1 ha).1; exact e1 ((List.getElem?_inj hil h4).1 (ha.trans hb.symm))
      exact ⟨(h3 x hxm).1.of_block (hg.block x.g (h3 x hxm).1.lt (by simp; exact hgne)), (h3 x hxm).2⟩
/-- how far the count has come behind k entries -/
def finE (E : List En) (m : Nat) : Nat → Nat
  | 0 => m
  | k + 1 => finE E m k + 1 + (E[k]?.map En.n).getD 0
def mkE (E : List En) (m : Nat) : Nat → List En
  | 0 => E
  | k + 1 => match E[k]? with
    | some e => (mkE E m k).set k { e with t := finE E m k, D := mkAt e.D e.off (finE E m k + 1) e.n }
    | none => mkE E m k
theorem finE_succ {E : List En} {m k : Nat} {e : En} (h : E[k]? = some e) : finE E m (k + 1) = finE E m k + 1 + e.n := by rw [finE, h]; rfl
theorem mkE_succ {E : List En} {m k : Nat} {e : En} (h : E[k]? = some e) : mkE E m (k + 1) = (mkE E m k).set k { e with t := finE E m k, D := mkAt e.D e.off (finE E m k + 1) e.n } := by rw [mkE, h]
theorem mkE_len (E : List En) (m k : Nat) : (mkE E m k).length = E.length := by
  induction k with
  | zero => rfl
  | succ k ih =>
    rw [mkE]
    split
    · rw [List.length_set]; exact ih
    · exact ih
theorem mkE_late (E : List En) (m k i : Nat) (h : k ≤ i) : (mkE E m k)[i]? = E[i]? := by
  induction k with
  | zero => rfl
  | succ k ih =>
    rw [mkE]
    split
    · rw [List.getElem?_set_ne (by omega)]; exact ih (by omega)
    · exact ih (by omega)
theorem mkE_get {E : List En} {m k i : Nat} {e : En} (h : E[i]? = some e) (hk : i < k) : (mkE E m k)[i]? = some { e with t := finE E m i, D := mkAt e.D e.off (finE E m i + 1) e.n } := by
  induction k with
  | zero => omega
  | succ k ih =>
    by_cases e1 : i = k
    · subst e1; rw [mkE_succ h, List.getElem?_set_self (by rw [mkE_len]; exact (List.getElem?_eq_some_iff.1 h).1)]
    · rw [mkE]
      split
      · rw [List.getElem?_set_ne (by omega)]; exact ih (by omega)
      · exact ih (by omega)
theorem finE_mkE (E : List En) (m : Nat) (k : Nat) (hk : k ≤ E.length) (q : Nat) : finE (mkE E m q) m k = finE E m k := by
  induction k with
  | zero => rfl
  | succ k ih =>
    have h1 : E[k]? = some E[k] := List.getElem?_eq_getElem (by omega); rw [finE_succ h1]
    rcases Nat.lt_or_ge k q with hlt | hge
    · rw [finE_succ (mkE_get h1 hlt), ih (by omega)]
    · rw [finE_succ (e := E[k]) (by rw [mkE_late _ _ _ _ hge]; exact h1), ih (by omega)]
theorem finE_mono (E : List En) (m : Nat) {i k : Nat} (h : i ≤ k) : finE E m i ≤ finE E m k := by
  induction k with
  | zero => obtain rfl : i = 0 := by omega
            exact Nat.le_refl _
  | succ k ih =>
    rcases Nat.lt_or_ge i (k + 1) with hlt | hge
    · have := ih (by omega); rw [finE]; omega
    · obtain rfl : i = k + 1 := by omega
      exact Nat.le_refl _
end Go.Proofs.YtjnegjgpkboocaaGreatDoor
