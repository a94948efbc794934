/-
  impl.FrameEncode, walked.
-/
import Derived.Test.YteacgefklafofaaDoorEnc2
import Derived.Test.YteacgefklafofaaDoorLe4
import Derived.Test.YteacgefklafofaaDoorTabLaid
namespace Go.Proofs.YteacgefklafofaaDoor
open Go.RowKit

set_option maxRecDepth 4000 in
set_option maxHeartbeats 400000 in
theorem implEncode_bad (ty : Int) (oa : Option Addr) (len cap : Nat) (w : World) (hb : ty < 1 ∨ 255 < ty ∨ 8192 < len) (hx : len ≤ maxLen) :
    Calls Tryd.prog 15 #[.agg #[.int .i64 ty, .slice oa len cap]] w fun e w' => e = .returned (.tuple #[.slice none 0 0, .int .i64 5]) ∧ w.grownBy w' none := by
  unfold maxLen at hx
  by_cases h1 : ty < 1
  · have e1 : decide (ty < 1) = true := by simpa using h1
    go_enter Tryd.func15, Tryd.ntmps15
    go_wp2
    go_ret2
    exact ⟨rfl, World.grownBy_alloc _ _ _⟩
  by_cases h2 : 255 < ty
  · go_enter Tryd.func15, Tryd.ntmps15
    go_wp2
    go_ret2
    exact ⟨rfl, World.grownBy_alloc _ _ _⟩
  · have h3 : 8192 < len := by omega
    go_enter Tryd.func15, Tryd.ntmps15
    go_wp2
    go_ret2
    exact ⟨rfl, World.grownBy_alloc _ _ _⟩


set_option maxRecDepth 4000 in
set_option maxHeartbeats 1000000 in
theorem implEncode_ok (ty : Nat) (oa : Option Addr) (len cap : Nat) (zs : List Nat) (w : World) (h1 : 1 ≤ ty) (h2 : ty ≤ 255) (h3 : len ≤ 8192) (hsl : SlB w oa len zs) (ht : Tab w) :
    Calls Tryd.prog 15 #[.agg #[.int .i64 (ty : Int), .slice oa len cap]] w fun e w' => ∃ g n, e = .returned (.tuple #[.slice (some ⟨g, 0, none⟩) n n, .int .i64 0]) ∧ n = (enc ty zs).length ∧ w.heap.size ≤ g ∧ Own w' 5 g (enc ty zs) ∧ w.grownBy w' none := by
  have HS : Hid (SlB w oa len zs ∧ Tab w) := ⟨hsl, ht⟩
  have hl : zs.length = len := hsl.1
  have hp := pad_lt len
  clear hsl ht
  obtain ⟨i0, hi, hz0, hz1, hz2⟩ := info_parts Tryd.infoByte
  obtain ⟨p, hpe⟩ : ∃ p, p = pad len := ⟨_, rfl⟩
  have HP : Hid (p = pad len) := hpe
  rw [← hpe] at hp
  clear hpe
  go_enter Tryd.func15, Tryd.ntmps15
  go_wp2_with fail
  refine (padding_any len _ (by omega)).mono ?_
  rintro e w1 ⟨rfl, hw1⟩
  subst hw1
  rw [← HP.out]
  obtain ⟨n, hne⟩ : ∃ n, n = 12 + len + p := ⟨_, rfl⟩
  have HN : Hid (n = 12 + len + p) := hne
  have hn1 : 12 + len ≤ n := by omega
  have hn2 : n ≤ 8207 := by omega
  clear hne
  go_wp2_with (at_make; refine wpList_make_full _ rfl (.tmp 27) (.tmp 27) 22 rfl (w.heap.size + 1) 5 i0 (.int .u8 0) 1 Tryd.underlying22 hi hz0 hz1 .i64 .i64 (12 + len + p) (12 + len + p) n rfl rfl (by have := HN.out; omega) (by have := HN.out; omega) ?cb ?cm ?cz ?_)
  case cb => rw [hz2]; omega
  case cm => unfold maxLen; omega
  case cz => simp
  intro w1 hown hgrow
  have hO : Own w1 5 (w.heap.size + 1) (st0 zs) := by
    refine own_made (n := n) (cap := n) (base := w.heap.size + 1) ?_ ?_
    · have e : (madeCells #[Value.int .u8 0] n).toList = (st0 zs).map bv := by
        unfold st0
        rw [hl, ← HP.out, ← HN.out]
        simp [toList_madeCells_one, bv]
      rw [← e]; simpa using hown
    · intro z hz; unfold st0 at hz; have := List.eq_of_mem_replicate hz; omega
  obtain ⟨hc, hf⟩ := bcell hgrow
  have hsz : w.heap.size + 1 + 1 ≤ w1.heap.size := by
    have := hO.lt; omega
  have H1 : Hid (Own w1 5 (w.heap.size + 1) (st0 zs) ∧ w.grownBy w1 none) := ⟨hO, grownBy_trans (World.grownBy_alloc w _ none) hgrow⟩
  have cT : w1.cell? ⟨w.heap.size, 0, none⟩ = some (.int .i64 (ty : Int)) := by rw [hc _ _ (by simp)]; simp
  have cD : w1.cell? ⟨w.heap.size, 1, none⟩ = some (.slice oa len cap) := by rw [hc _ _ (by simp)]; simp
  clear hown hgrow hO hc hf
  have e1 : ((len : Int) % 4294967296) = len := by omega
  go_wp2_with fail
  refine (putNumber_own (w.heap.size + 1) 0 n n len (st0 zs) _ H1.out.1 (by omega) (by omega) (by unfold st0; simp; omega) (by omega)).mono ?_
  rintro e w2 ⟨rfl, hO2, hG2⟩
  have e2 : putN (st0 zs) 0 len 4 = st1 zs := by unfold st1; rw [hl]
  rw [e2] at hO2
  have cT2 : w2.cell? ⟨w.heap.size, 0, none⟩ = some (.int .i64 (ty : Int)) := by rw [← cT]; exact World.cell?_of_block (w := w1) (hG2.block w.heap.size (by omega) (by simp))
  have cD2 : w2.cell? ⟨w.heap.size, 1, none⟩ = some (.slice oa len cap) := by rw [← cD]; exact World.cell?_of_block (w := w1) (hG2.block w.heap.size (by omega) (by simp))
  have c4 := hO2.cell 4 (by simp [st1, putN_len, st0]; omega)
  have f4 := hO2.free 4
  obtain ⟨b4, hb4⟩ : ∃ b4, b4 = (st1 zs).getD 4 0 := ⟨_, rfl⟩
  rw [← hb4] at c4
  have H2 : Hid (Own (w2.setCell ⟨w.heap.size + 1, 4, none⟩ (.int .u8 (ty : Int))) 5 (w.heap.size + 1) (st2 ty zs) ∧ w.grownBy (w2.setCell ⟨w.heap.size + 1, 4, none⟩ (.int .u8 (ty : Int))) none) :=
    ⟨hO2.set 4 ty (by omega), grownBy_setNew (grownBy_new H1.out.2 hG2 (by omega)) (by simp)⟩
  have hs2 : w1.heap.size ≤ w2.heap.size := hG2.size
  clear hO2 hG2 hb4 cT cD e2
  have e3 : ((ty : Int) % 256) = ty := by omega
  have i8 : (8 : Int) ≤ (n : Int) := by omega
  have i12 : (12 : Int) ≤ (n : Int) := by omega
  have cD3 : (w2.setCell ⟨w.heap.size + 1, 4, none⟩ (.int .u8 (ty : Int))).cell? ⟨w.heap.size, 1, none⟩ = some (.slice oa len cap) := by
    rw [World.cell?_setCell_other _ _ _ _ (by simp), cD2]
  go_wp2_with fail
  have hs3 : w.heap.size + 1 + 1 ≤ (w2.setCell ⟨w.heap.size + 1, 4, none⟩ (.int .u8 (ty : Int))).heap.size := by simp [World.setCell]; omega
  generalize w2.setCell ⟨w.heap.size + 1, 4, none⟩ (.int .u8 (ty : Int)) = W3 at *
  clear cT2 cD2 c4 f4 hs2 hsz H1
  obtain ⟨x, hxe⟩ : ∃ x, x = Crc.crc ((st2 ty zs).take 8 ++ zs) := ⟨_, rfl⟩
  have hx32 : x < 4294967296 := by rw [hxe]; exact crc_lt _
  have hst2 : (st2 ty zs).length = n := by rw [st2_len, HN.out, HP.out, hl]
  have HR : Hid (∀ X : World, Same W3 X → Calls Tryd.prog 39 #[.slice (some ⟨w.heap.size + 1, 0, none⟩) n n, .slice oa len cap] X fun e w' => e = .returned (.int .u32 (x : Int)) ∧ w' = X) := fun X hX => by
    rw [hxe]
    exact recordSum_any _ n n (st2 ty zs) oa len cap zs X ((H2.out.1.heap hX.1).sl n hst2) (by omega) (Nat.le_refl _) (by unfold maxLen; omega) ((HS.out.1.grown0 H2.out.2).heap hX.1) ((Tab_grown HS.out.2 H2.out.2).heap hX.1) (by omega)
  have HQ : Hid (∀ X : World, Same W3 X → Calls Tryd.prog 38 #[.slice (some ⟨w.heap.size + 1, 8, none⟩) (n - 8) (n - 8), .int .u32 (x : Int)] X fun e w' => e = .returned (.tuple #[]) ∧ Hid (Own w' 5 (w.heap.size + 1) (st3 ty zs)) ∧ Hid (w.grownBy w' none) ∧ w'.cell? ⟨w.heap.size, 1, none⟩ = some (.slice oa len cap)) := fun X hX => by
    unfold st3
    rw [← hxe]
    refine (putNumber_own _ 8 (n - 8) (n - 8) x (st2 ty zs) X (H2.out.1.heap hX.1) (by omega) (by omega) (by omega) hx32).mono ?_
    rintro e w' ⟨he, hO, hG⟩
    refine ⟨he, hO, grownBy_new (grownBy_same H2.out.2 hX) hG (by omega), ?_⟩
    rw [← cD3, ← World.cell?_of_block (w := W3) (w' := X) (a := ⟨w.heap.size, 1, none⟩) (by rw [hX.1])]
    exact World.cell?_of_block (w := X) (hG.block w.heap.size (by rw [hX.1]; omega) (by simp))
  clear hxe
  go_region_held3 (fun w' => w'.cell? ⟨w.heap.size, 1, none⟩ = some (.slice oa len cap)) (go_keep)
    (first
      | (go_at_call 39; refine (HR.out _ (by exact ⟨rfl, rfl, rfl, rfl⟩)).mono ?_; rintro e w' ⟨rfl, rfl⟩)
      | (go_at_call 38; refine (HQ.out _ (by exact ⟨rfl, rfl, rfl, rfl⟩)).mono ?_; rintro e w4 ⟨rfl, hO4, hG4, hD4⟩))
  obtain ⟨hz4, cur, hg4, hc4⟩ := hO4.out
  have HZ4 : Hid ((∀ z ∈ st3 ty zs, z < 256) ∧ (∀ i, i < (st3 ty zs).length → cur[i]? = some (.int .u8 (((st3 ty zs).getD i 0 : Nat) : Int)))) := ⟨hz4, hc4⟩
  have hst3 : (st3 ty zs).length = n := by rw [st3_len, HN.out, HP.out, hl]
  have hcn : n ≤ cur.toList.length := by
    have := (Array.getElem?_eq_some_iff.1 (hc4 (n - 1) (by omega))).1
    simp; omega
  have HS4 : Hid (SlB w4 oa len zs) := HS.out.1.grown0 hG4.out
  obtain ⟨cl, hcl⟩ : ∃ cl, cl = cur.toList := ⟨_, rfl⟩
  have HG4 : Hid (w4.heap[w.heap.size + 1]? = some (.cells cl.toArray 5 (0, 0))) := by show _ = _; rw [hcl]; simpa using hg4
  have HCL : Hid (cl = cur.toList) := hcl
  rw [← hcl] at hcn
  clear hz4 hg4 hc4 hcl H2 HR HQ cD3 hs3
  obtain ⟨cs, hcs⟩ : ∃ cs, cs = zs.map bv := ⟨_, rfl⟩
  have HCS : Hid (cs = zs.map bv) := hcs
  have hcsl : cs.length = len := by rw [hcs]; simp [hl]
  have hone : ∀ v ∈ cs, v.oneCell' = true := by rw [hcs]; intro v hv; obtain ⟨z, _, rfl⟩ := List.mem_map.1 hv; rfl
  have HONE : Hid (∀ v ∈ cs, v.oneCell' = true) := hone
  have hszB : (Tryd.prog.info? 5).map (·.size) = some 1 := by rw [hi]; simp [hz1]
  have HSRC : Hid (∀ X : World, X.heap = w4.heap → 0 < cs.length → ∃ ad, oa = some ad ∧ ∀ j v, cs[j]? = some v → X.cell? (ad.add j) = some v) := by
    intro X hX hpos
    obtain ⟨b, off, rfl, hc⟩ := (HS4.out.heap hX).2.2 (by omega)
    refine ⟨_, rfl, fun j v hj => ?_⟩
    rw [hcs] at hj
    have hjl : j < zs.length := by
      have := (List.getElem?_eq_some_iff.1 hj).1
      simpa using this
    have e1 : (⟨b, off, none⟩ : Addr).add j = ⟨b, off + j, none⟩ := by
      by_cases h0' : j = 0 <;> simp [Addr.add, h0']
    rw [e1, hc j (by omega), ← hj]
    simp [List.getD, hjl, bv]
  clear hcs hone
  go_wp2_with fail
  go_region_held3 (fun w' => w'.cell? ⟨w.heap.size, 1, none⟩ = some (.slice oa len cap)) (first | go_keep | (rw [hB5.cell (by simp)]; assumption))
    ((refine step_copy_splice (by rfl) (.tmp 46) (.tmp 48) 22 22 (by rfl) 5 Tryd.underlying22 hszB _ _ _ _ _ _ (by rfl) (by rfl) (w.heap.size + 1) 12 cl 5 (by exact HG4.out) cs (by rw [hcsl]; exact (Nat.min_eq_left (by omega)).symm) (by intro hp0; exact ⟨if_neg (by omega), HSRC.out _ rfl hp0⟩) (by omega) HONE.out (w.heap.size + 1) w4 (by repeat (first | exact Below.refl _ _ | apply Below.drew)) (Nat.le_refl _) ?_; intro w5 HG5 hB5))
  have R : Hid (Own w5 5 (w.heap.size + 1) (enc ty zs) ∧ w.grownBy w5 none) := by
    refine ⟨?_, grownBy_below hG4.out hB5 (by omega)⟩
    rw [← st4_eq]
    refine Own.splice HZ4.out.1 HS.out.1.2.1 HZ4.out.2 (by omega) ?_
    rw [← HCL.out, ← HCS.out]
    exact HG5.out
  have HE : Hid (n = (enc ty zs).length) := by show _ = _; rw [enc_len, hl, HN.out, HP.out]
  clear HG5 hB5 HZ4 HG4 HS4 HSRC HONE
  go_wp2
  all_goals go_ret2
  all_goals first
    | exact ⟨w.heap.size + 1, n, rfl, HE.out, by omega, R.out.1, R.out.2⟩
    | (have h12 : n = 12 := by assumption
       subst h12
       exact ⟨w.heap.size + 1, 12, rfl, HE.out, by omega, R.out.1, R.out.2⟩)
end Go.Proofs.YteacgefklafofaaDoor
