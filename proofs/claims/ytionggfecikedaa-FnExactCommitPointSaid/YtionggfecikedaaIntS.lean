/-
  The laws' helpers over ints, walked: toIntS (a copy in new memory), eqIntS.
-/
import Derived.Test.YtionggfecikedaaChecked
import Derived.Test.YtionggfecikedaaBaseI
import Derived.Test.YtionggfecikedaaEqI
namespace Go.Proofs.Ytionggfecikedaa
open Go.RowKit

theorem Try.infoInt : (Try.prog.info? 3).map (fun i => (i.zero, i.size, i.bytes)) = some (some (.int .i64 0), 1, 8) := by kernel_rfl

/-- the copy's ints behind k rounds -/
def copI (zs : List Int) (k : Nat) : List Int := zs.take k ++ List.replicate (zs.length - k) 0
theorem copI_len (zs : List Int) (k : Nat) (h : k ≤ zs.length) : (copI zs k).length = zs.length := by simp [copI]; omega
theorem copI_zero (zs : List Int) : copI zs 0 = List.replicate zs.length 0 := by simp [copI]
theorem copI_all (zs : List Int) : copI zs zs.length = zs := by simp [copI]
theorem copI_succ (zs : List Int) (k : Nat) (h : k < zs.length) : (copI zs k).set k (zs.getD k 0) = copI zs (k + 1) := by
  unfold copI
  rw [List.set_append_right _ _ (by simp; omega)]
  have e1 : k - (List.take k zs).length = 0 := by simp; omega
  rw [e1]
  obtain ⟨m, hm⟩ : ∃ m, zs.length - k = m + 1 := ⟨zs.length - k - 1, by omega⟩
  rw [hm, show zs.length - (k + 1) = m by omega, List.replicate_succ, List.set_cons_zero]
  rw [List.take_succ_eq_append_getElem h, List.append_assoc, List.singleton_append]
  simp only [List.getD, List.getElem?_eq_getElem h, Option.getD_some]

set_option maxHeartbeats 400000 in
theorem toIntS_any (oa : Option Addr) (len cap : Nat) (zs : List Int) (w : World) (hsl : SlI w oa len zs) (hm : len ≤ 1073741824) :
    Calls Try.prog 14 #[.slice oa len cap] w fun e w' => e = .returned (.slice (some ⟨w.heap.size, 0, none⟩) len len) ∧ OwnI w' 3 w.heap.size zs ∧ w.grownBy w' none := by
  have HS : Hid (SlI w oa len zs) := hsl
  obtain ⟨hl, hb, hc⟩ := hsl
  have HB : Hid (∀ z ∈ zs, i64Ok z) := hb
  clear hb
  obtain ⟨i0, hi, hz0, hz1, hz2⟩ := info_parts Try.infoInt
  go_enter Try.func14, Try.ntmps14
  go_wp2_with (at_make; refine wpList_make_full _ rfl (.tmp 6) (.tmp 6) 23 rfl w.heap.size 3 i0 (.int .i64 0) 1 Try.underlying23 hi hz0 hz1 .i64 .i64 len len len rfl rfl rfl rfl ?cb ?cm (Nat.le_refl _) ?_)
  case cb => rw [hz2]; omega
  case cm => unfold maxLen; omega
  intro w1 hown hgrow
  have hO : OwnI w1 3 w.heap.size (copI zs 0) := by
    refine ownI_made (n := len) (cap := len) (base := w.heap.size) ?_ ?_
    · have e : (madeCells #[Value.int .i64 0] len).toList = (copI zs 0).map iv := by
        rw [copI_zero, hl]
        simp [toList_madeCells_one, iv]
      rw [← e]; exact hown
    · intro z hz; rw [copI_zero] at hz; have := List.eq_of_mem_replicate hz; subst this; exact ⟨by omega, by omega⟩
  clear hown
  have HO : Hid (OwnI w1 3 w.heap.size (copI zs 0)) := hO
  have HG : Hid (w.grownBy w1 none) := hgrow
  clear hO hgrow
  go_wp2
  go_loopw [4] (fun i wr => ∃ k : Nat, k ≤ len ∧ i = .int .i64 k ∧ OwnI wr 3 w.heap.size (copI zs k) ∧ w.grownBy wr none) (fun i _ => len - (intOf i).toNat)
  case atStart => exact ⟨0, Nat.zero_le _, rfl, HO.out, HG.out⟩
  case round =>
    obtain ⟨k, hk, rfl, hO, hG⟩ := hrel
    by_cases hlt : k < len
    · obtain ⟨b, off, rfl, hcc⟩ := hc (by omega)
      have hck : wr.cell? ⟨b, off + k, none⟩ = some (.int .i64 (zs.getD k 0)) := by
        have h0 := hcc k hlt
        exact (World.cell?_of_block (w := w) (a := ⟨b, off + k, none⟩) (hG.block b (cell_block_lt h0) (by simp))).trans h0
      have hfz := hO.free k
      have hzok : i64Ok (zs.getD k 0) := HB.out _ (getI_mem (by omega))
      have hcw := hO.cell k (by rw [copI_len _ _ (by omega)]; omega)
      have hO2 := hO.set k (zs.getD k 0) hzok
      rw [copI_succ zs k (by omega)] at hO2
      have hG2 : w.grownBy (wr.setCell ⟨w.heap.size, k, none⟩ (.int .i64 (zs.getD k 0))) none :=
        grownBy_new hG (grownBy_setCell (grownBy_refl wr _)) (Nat.le_refl _)
      obtain ⟨c, hce⟩ : ∃ c, c = zs.getD k 0 := ⟨_, rfl⟩
      rw [← hce] at hck hO2 hG2
      obtain ⟨c0, hce0⟩ : ∃ c0, c0 = (copI zs k).getD k 0 := ⟨_, rfl⟩
      rw [← hce0] at hcw
      have R : Hid (_ ∧ _) := ⟨hO2, hG2⟩
      clear hcc hc hce hO hG hO2 hG2 hce0 hzok
      go_wp2
      go_roundw
      case rel => exact ⟨k + 1, by omega, by go_num, R.out.1, R.out.2⟩
      case measure => simp [intOf]; omega
    · obtain rfl : k = len := by omega
      have R : Hid (_ ∧ _) := ⟨hO, hG⟩
      clear hO hG
      go_wp2
      go_ret
      exact ⟨rfl, by rw [← hl] at R; rw [copI_all] at R; exact R.out.1, R.out.2⟩

end Go.Proofs.Ytionggfecikedaa
