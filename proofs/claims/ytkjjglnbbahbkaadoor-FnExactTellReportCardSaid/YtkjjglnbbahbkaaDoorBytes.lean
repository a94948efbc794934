/-
  The laws' helpers over bytes, walked: toByteS (a copy in new memory), eqByteS.
-/
import Derived.Test.YtkjjglnbbahbkaaDoorSmall
import Derived.Test.YtkjjglnbbahbkaaDoorBase
namespace Go.Proofs.YtkjjglnbbahbkaaDoor
open Go.RowKit

/-- the copy's bytes behind k rounds -/
def cop (zs : List Nat) (k : Nat) : List Nat := zs.take k ++ List.replicate (zs.length - k) 0
theorem cop_len (zs : List Nat) (k : Nat) (h : k ≤ zs.length) : (cop zs k).length = zs.length := by simp [cop]; omega
theorem cop_zero (zs : List Nat) : cop zs 0 = List.replicate zs.length 0 := by simp [cop]
theorem cop_all (zs : List Nat) : cop zs zs.length = zs := by simp [cop]
theorem cop_succ (zs : List Nat) (k : Nat) (h : k < zs.length) : (cop zs k).set k (zs.getD k 0) = cop zs (k + 1) := by
  unfold cop
  rw [List.set_append_right _ _ (by simp; omega)]
  have e1 : k - (List.take k zs).length = 0 := by simp; omega
  rw [e1]
  obtain ⟨m, hm⟩ : ∃ m, zs.length - k = m + 1 := ⟨zs.length - k - 1, by omega⟩
  rw [hm, show zs.length - (k + 1) = m by omega, List.replicate_succ, List.set_cons_zero]
  rw [List.take_succ_eq_append_getElem h, List.append_assoc, List.singleton_append]
  simp only [List.getD, List.getElem?_eq_getElem h, Option.getD_some]

set_option maxHeartbeats 400000 in
theorem toByteS_any (oa : Option Addr) (len cap : Nat) (zs : List Nat) (w : World) (hsl : SlB w oa len zs) (hm : len ≤ 1073741824) :
    Calls Tryd.prog 53 #[.slice oa len cap] w fun e w' => e = .returned (.slice (some ⟨w.heap.size, 0, none⟩) len len) ∧ Own w' 5 w.heap.size zs ∧ w.grownBy w' none := by
  have HS : Hid (SlB w oa len zs) := hsl
  obtain ⟨hl, hb, hc⟩ := hsl
  have HB : Hid (∀ z ∈ zs, z < 256) := hb
  clear hb
  obtain ⟨i0, hi, hz0, hz1, hz2⟩ := info_parts Tryd.infoByte
  go_enter Tryd.func53, Tryd.ntmps53
  go_wp2_with (at_make; refine wpList_make_full _ rfl (.tmp 6) (.tmp 6) 26 rfl w.heap.size 5 i0 (.int .u8 0) 1 Tryd.underlying26 hi hz0 hz1 .i64 .i64 len len len rfl rfl rfl rfl ?cb ?cm (Nat.le_refl _) ?_)
  case cb => rw [hz2]; omega
  case cm => unfold maxLen; omega
  intro w1 hown hgrow
  have hO : Own w1 5 w.heap.size (cop zs 0) := by
    refine own_made (n := len) (cap := len) (base := w.heap.size) ?_ ?_
    · have e : (madeCells #[Value.int .u8 0] len).toList = (cop zs 0).map bv := by
        rw [cop_zero, hl]
        simp [toList_madeCells_one, bv]
      rw [← e]; exact hown
    · intro z hz; rw [cop_zero] at hz; have := List.eq_of_mem_replicate hz; omega
  clear hown
  have HO : Hid (Own w1 5 w.heap.size (cop zs 0)) := hO
  have HG : Hid (w.grownBy w1 none) := hgrow
  clear hO hgrow
  go_wp2
  go_loopw [4] (fun i wr => ∃ k : Nat, k ≤ len ∧ i = .int .i64 k ∧ Own wr 5 w.heap.size (cop zs k) ∧ w.grownBy wr none) (fun i _ => len - (intOf i).toNat)
  case atStart => exact ⟨0, Nat.zero_le _, rfl, HO.out, HG.out⟩
  case round =>
    obtain ⟨k, hk, rfl, hO, hG⟩ := hrel
    by_cases hlt : k < len
    · obtain ⟨b, off, rfl, hcc⟩ := hc (by omega)
      have hck : wr.cell? ⟨b, off + k, none⟩ = some (.int .u8 ((zs.getD k 0 : Nat) : Int)) := by
        have h0 := hcc k hlt
        exact (World.cell?_of_block (w := w) (a := ⟨b, off + k, none⟩) (hG.block b (cell_block_lt h0) (by simp))).trans h0
      have hfz := hO.free k
      have hz256 : zs.getD k 0 < 256 := by
        have hkz : k < zs.length := by omega
        refine HB.out _ ?_
        simp [List.getD, hkz]
      have hcw := hO.cell k (by rw [cop_len _ _ (by omega)]; omega)
      have hO2 := hO.set k (zs.getD k 0) hz256
      rw [cop_succ zs k (by omega)] at hO2
      have hG2 : w.grownBy (wr.setCell ⟨w.heap.size, k, none⟩ (.int .u8 ((zs.getD k 0 : Nat) : Int))) none :=
        grownBy_new hG (grownBy_setCell (grownBy_refl wr _)) (Nat.le_refl _)
      obtain ⟨c, hce⟩ : ∃ c, c = zs.getD k 0 := ⟨_, rfl⟩
      rw [← hce] at hck hO2 hG2 hz256
      obtain ⟨c0, hce0⟩ : ∃ c0, c0 = (cop zs k).getD k 0 := ⟨_, rfl⟩
      rw [← hce0] at hcw
      have R : Hid (_ ∧ _) := ⟨hO2, hG2⟩
      clear hcc hc hce hO hG hO2 hG2 hce0
      go_wp2
      go_roundw
      case rel => exact ⟨k + 1, by omega, by go_num, R.out.1, R.out.2⟩
      case measure => simp [intOf]; omega
    · obtain rfl : k = len := by omega
      have R : Hid (_ ∧ _) := ⟨hO, hG⟩
      clear hO hG
      go_wp2
      go_ret
      exact ⟨rfl, by rw [← hl] at R; rw [cop_all] at R; exact R.out.1, R.out.2⟩

set_option maxHeartbeats 800000 in
theorem eqByteS_same (oa ob : Option Addr) (len ca cb : Nat) (zs : List Nat) (w : World) (ha : SlB w oa len zs) (hb : SlB w ob len zs) (hm : len ≤ 1073741824) :
    Calls Tryd.prog 8 #[.slice oa len ca, .slice ob len cb] w fun e w' => e = .returned (.bool true) ∧ w.grownBy w' none := by
  obtain ⟨hl, hz, hc⟩ := ha
  obtain ⟨_, _, hd⟩ := hb
  clear hz
  go_enter Tryd.func8, Tryd.ntmps8
  go_wp2
  go_loopw [5] (fun i wr => ∃ k : Nat, k ≤ len ∧ i = .int .i64 k ∧ w.grownBy wr none) (fun i _ => len - (intOf i).toNat)
  case atStart => exact ⟨0, Nat.zero_le _, rfl, grownBy_refl _ _⟩
  case round =>
    obtain ⟨k, hk, rfl, hG⟩ := hrel
    by_cases hlt : k < len
    · obtain ⟨b, off, rfl, hcc⟩ := hc (by omega)
      obtain ⟨b', off', rfl, hdd⟩ := hd (by omega)
      have h1 : wr.cell? ⟨b, off + k, none⟩ = some (.int .u8 ((zs.getD k 0 : Nat) : Int)) := by
        have h0 := hcc k hlt
        exact (World.cell?_of_block (w := w) (a := ⟨b, off + k, none⟩) (hG.block b (cell_block_lt h0) (by simp))).trans h0
      have h2 : wr.cell? ⟨b', off' + k, none⟩ = some (.int .u8 ((zs.getD k 0 : Nat) : Int)) := by
        have h0 := hdd k hlt
        exact (World.cell?_of_block (w := w) (a := ⟨b', off' + k, none⟩) (hG.block b' (cell_block_lt h0) (by simp))).trans h0
      obtain ⟨c, hce⟩ : ∃ c, c = zs.getD k 0 := ⟨_, rfl⟩
      rw [← hce] at h1 h2
      have HG : Hid (w.grownBy wr none) := hG
      clear hcc hdd hc hd hce hG
      go_wp2
      go_region
      all_goals (try go_wp2)
      all_goals go_roundw
      all_goals first | (simp [intOf]; omega) | exact ⟨k + 1, by omega, by go_num, by repeat (first | exact HG.out | apply grownBy_drew)⟩
    · have HG : Hid (w.grownBy wr none) := hG
      clear hG
      go_wp2
      go_ret
      exact ⟨rfl, HG.out⟩
end Go.Proofs.YtkjjglnbbahbkaaDoor
