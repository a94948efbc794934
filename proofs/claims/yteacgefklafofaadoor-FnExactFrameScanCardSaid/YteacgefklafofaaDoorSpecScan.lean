/-
  The model's FrameScan, walked.
-/
import Derived.Test.YteacgefklafofaaDoorL2One2
import Derived.RangeFuncBox
namespace Go.Proofs.YteacgefklafofaaDoor
open Go.RowKit

theorem Tryd.infoRec2 : (Tryd.prog.info? 33).map (fun i => (i.zero, i.size, i.bytes)) = some (some (.agg #[.int .i64 0, .slice none 0 0]), 2, 32) := by kernel_rfl

theorem l2One_any (oa : Option Addr) (len cap : Nat) (zs : List Nat) (w : World) (hsl : SlB w oa len zs) (hlc : len ≤ cap) (hm : cap ≤ maxLen) (hm2 : len ≤ 1073741824) :
    Calls Tryd.prog 40 #[.slice oa len cap] w fun e w' => w.grownBy w' none ∧
      (((fault zs ≠ 0 ∨ zs.length = 0) ∧ e = .returned (.tuple #[.agg #[.int .i64 0, .slice none 0 0], .int .i64 0, .int .i64 ((fault zs : Nat) : Int)])) ∨
       (¬ (fault zs ≠ 0 ∨ zs.length = 0) ∧ ∃ g cp, (w.heap.size ≤ g ∧ recN zs ≤ cp ∧ cp ≤ maxLen) ∧ Own w' 5 g (recData zs) ∧ e = .returned (.tuple #[.agg #[.int .i64 ((zs.getD 4 0 : Nat) : Int), .slice (some ⟨g, 0, none⟩) (recN zs) cp], .int .i64 ((recSize zs : Nat) : Int), .int .i64 0]))) := by
  have hl := hsl.1
  by_cases h12 : len < 12
  · refine (l2One_short oa len cap w h12).mono ?_
    rintro e w' ⟨rfl, hG⟩
    refine ⟨hG, .inl ?_⟩
    by_cases h0 : len = 0
    · have hf : fault zs = 0 := by unfold fault; rw [if_pos (by omega)]
      exact ⟨.inr (by omega), by rw [if_pos h0, hf]; rfl⟩
    · have hf : fault zs = 1 := by unfold fault; rw [if_neg (by omega), if_pos (by omega)]
      exact ⟨.inl (by omega), by rw [if_neg h0, hf]; rfl⟩
  · obtain ⟨b, off, rfl, -⟩ := hsl.2.2 (by omega)
    by_cases hb : headBad zs
    · refine (l2One_head b off len cap zs w hsl (by omega) hlc hm2 hb).mono ?_
      rintro e w' ⟨rfl, hG⟩
      have hf : fault zs = 2 := by unfold fault; rw [if_neg (by omega), if_neg (by omega), if_pos hb]
      exact ⟨hG, .inl ⟨.inl (by omega), by rw [hf]; rfl⟩⟩
    · refine (l2One_long b off len cap zs w hsl (by omega) hlc hm hm2 hb).mono ?_
      rintro e w' ⟨hG, h⟩
      refine ⟨hG, ?_⟩
      have hf : fault zs = if zs.length < recSize zs then 1 else if sumBad zs then 3 else if padBad zs then 4 else 0 := by
        unfold fault
        rw [if_neg (by omega), if_neg (by omega), if_neg hb]
      rw [hl] at hf
      rcases h with ⟨h1, rfl⟩ | ⟨h1, h2, rfl⟩ | ⟨h1, h2, h3, rfl⟩ | ⟨h1, h2, h3, g, cp, h4, h5, rfl⟩
      · rw [if_pos h1] at hf
        exact .inl ⟨.inl (by omega), by rw [hf]; rfl⟩
      · rw [if_neg (by omega), if_pos h2] at hf
        exact .inl ⟨.inl (by omega), by rw [hf]; rfl⟩
      · rw [if_neg (by omega), if_neg h2, if_pos h3] at hf
        exact .inl ⟨.inl (by omega), by rw [hf]; rfl⟩
      · rw [if_neg (by omega), if_neg h2, if_neg h3] at hf
        exact .inr ⟨by omega, g, cp, h4, h5, rfl⟩

set_option maxRecDepth 100000 in
set_option maxHeartbeats 4000000 in
theorem specScan_any (b off len cap : Nat) (zs : List Nat) (w : World) (hsl : SlB w (some ⟨b, off, none⟩) len zs) (hlc : len ≤ cap) (hm : cap ≤ maxLen) (hm2 : len ≤ 1048576) :
    Calls Tryd.prog 20 #[.slice (some ⟨b, off, none⟩) len cap] w fun e w' => ∃ v R, e = .returned (.tuple #[v, .int .i64 (((scan zs).2.1 : Nat) : Int), .int .i64 (((scan zs).2.2 : Nat) : Int)]) ∧ RecRow w' w.heap.size v R ∧ (R.map Rc.tell = (scan zs).1 ∧ ∀ r ∈ R, r.data.length ≤ r.cp ∧ r.cp ≤ maxLen) ∧ w.grownBy w' none := by
  have hl := hsl.1
  have HSL : Hid (SlB w (some ⟨b, off, none⟩) len zs) := hsl
  clear hsl
  obtain ⟨i0, hi, hz0, hz1, hz2⟩ := info_parts Tryd.infoRec2
  unfold maxLen at hm
  go_enter Tryd.func20, Tryd.ntmps20
  go_wp2
  go_loopw [5, 6] (fun o i wr => ∃ (at_ : Nat) (pre : List (Nat × List Nat)) (R : List Rc) (g k c : Nat), At zs pre at_ ∧ i = .int .i64 (at_ : Int) ∧ o = .slice (some ⟨g, 0, none⟩) k c ∧ k = R.length ∧ RecRow wr w.heap.size o R ∧ (R.map Rc.tell = pre ∧ ∀ r ∈ R, r.data.length ≤ r.cp ∧ r.cp ≤ maxLen) ∧ w.grownBy wr none) (fun _ i _ => len - (intOf i).toNat)
  case atStart =>
    refine ⟨0, [], [], w.heap.size, 0, 0, At.zero zs, rfl, rfl, rfl, ⟨World.ownsRow_made w #[] 0 (Nat.le_refl _) (Nat.zero_le _) rfl, by simp, by simp⟩, ⟨rfl, by simp⟩, World.grownBy_alloc _ _ _⟩
  case round =>
    obtain ⟨at_, pre, R, gr, k, c, hAt, rfl, rfl, hk, hRR, htell, hG⟩ := hrel
    subst hk
    have hat := hAt.1
    rw [hl] at hat
    obtain ⟨ad, had⟩ : ∃ ad : Option Addr, (if cap = at_ then some (⟨b, off, none⟩ : Addr) else some ⟨b, off + at_, none⟩) = ad := ⟨_, rfl⟩
    have hrest : SlB wr ad (len - at_) (zs.drop at_) := by
      have h1 := (HSL.out.grown0 hG).cut at_ (len - at_) cap (by omega) hlc
      rw [had, List.take_of_length_le (by simp; omega)] at h1
      exact h1
    have HC : Hid (Calls _ _ _ _ _) := l2One_any ad (len - at_) (cap - at_) (zs.drop at_) wr hrest (by omega) (by unfold maxLen; omega) (by omega)
    have HW : Hid (At zs pre at_ ∧ RecRow wr w.heap.size (.slice (some ⟨gr, 0, none⟩) R.length c) R ∧ (R.map Rc.tell = pre ∧ ∀ r ∈ R, r.data.length ≤ r.cp ∧ r.cp ≤ maxLen) ∧ w.grownBy wr none) := ⟨hAt, hRR, htell, hG⟩
    have hatI : (at_ : Int) ≤ (len : Int) := by omega
    have hsz := hG.size
    clear hAt hRR htell hG hrest
    go_wp2_with fail
    refine HC.out.mono ?_
    clear HC
    rintro e w1 ⟨hG1, (⟨hend, rfl⟩ | ⟨hne, g, cp, ⟨hg, hcp1, hcp2⟩, hO, rfl⟩)⟩
    · have HE : Hid (wr.grownBy w1 none ∧ scan zs = (pre, at_, fault (zs.drop at_))) := ⟨hG1, HW.out.1.done hend⟩
      obtain ⟨f, hf⟩ : ∃ f, fault (zs.drop at_) = f := ⟨_, rfl⟩
      rw [hf] at HE ⊢
      clear hend hG1 hf
      go_wp2
      go_ret3
      refine ⟨_, R, by rw [HE.out.2]; rfl, ?_, by rw [HE.out.2]; exact HW.out.2.2.1, grownBy_alloc (grownBy_trans HW.out.2.2.2 HE.out.1) _⟩
      exact (HW.out.2.1.grown HE.out.1 (by simp)).grown (World.grownBy_alloc w1 _ none) (by simp)
    · have hok := fault_ok _ hne
      have hrs : 12 ≤ recSize (zs.drop at_) := by unfold recSize; omega
      have hrl := hok.2.2.1
      simp only [List.length_drop, hl] at hrl
      have hz4 : (zs.drop at_).getD 4 0 < 256 := HSL.out.2.1 _ (List.mem_of_mem_drop (Crc.getD_mem (zs.drop at_) 4 (by have := hok.1; omega)))
      have hdl : (recData (zs.drop at_)).length = recN (zs.drop at_) := recData_len _ (by have := hok.2.2.1; unfold recSize at this; omega)
      have hcnt : R.length < 87382 := by
        have h1 := HW.out.1.more hne
        have h2 := scan_len zs
        rw [← HW.out.2.2.1.1] at h1
        simp only [List.length_map] at h1
        omega
      have HNX : Hid (At zs (pre ++ [((zs.drop at_).getD 4 0, recData (zs.drop at_))]) (at_ + recSize (zs.drop at_))) := HW.out.1.next hne
      have HCP : Hid ((recData (zs.drop at_)).length ≤ cp ∧ cp ≤ maxLen) := ⟨by rw [hdl]; exact hcp1, hcp2⟩
      have HE : Hid (wr.grownBy w1 none ∧ wr.heap.size ≤ g ∧ Own w1 5 g (recData (zs.drop at_))) := ⟨hG1, hg, hO⟩
      obtain ⟨ty, hty⟩ : ∃ z, (zs.drop at_).getD 4 0 = z := ⟨_, rfl⟩
      obtain ⟨D, hD⟩ : ∃ z, recData (zs.drop at_) = z := ⟨_, rfl⟩
      obtain ⟨rs, hrse⟩ : ∃ z, recSize (zs.drop at_) = z := ⟨_, rfl⟩
      rw [hty] at hz4 HNX ⊢
      rw [hD] at hdl HNX HE HCP
      rw [hrse] at hrs hrl HNX ⊢
      rw [← hdl]
      clear hok hne hG1 hg hO hty hD hrse hdl had hcp1 hcp2
      have hrz : ((rs : Int) == 0) = false := by rw [beq_eq_false_iff_ne]; omega
      go_wp2_with (at_builtin; refine wpList_append_own _ rfl _ _ 39 rfl w.heap.size 33 i0 (.agg #[.int .i64 0, .slice none 0 0]) 2 32 Tryd.underlying39 hi hz0 hz1 hz2 rfl (by decide) (.slice (some ⟨gr, 0, none⟩) R.length c) R.length (R.flatMap Rc.cells) rfl (by exact (((HW.out.2.1.grown HE.out.1 (by simp)).1.alloc _).alloc _)) ⟨w1.heap.size + 1, 0, none⟩ 1 1 [.int .i64 (ty : Int), .slice (some ⟨g, 0, none⟩) D.length cp] rfl rfl ?c1 ?c2 ?c3 ?c4 ?c5 ?_)
      case c1 =>
        intro j u hj
        have hX := heap_two w1 (.cells #[.int .i64 (ty : Int), .slice (some ⟨g, 0, none⟩) D.length cp] 33) (.cells #[.int .i64 (ty : Int), .slice (some ⟨g, 0, none⟩) D.length cp] 33)
        match j, hj with
        | 0, hj => simp at hj; subst hj; exact cell_of_row _ _ 0 _ _ _ hX
        | 1, hj => simp at hj; subst hj; exact cell_of_row _ _ 1 _ _ _ hX
      case c2 => intro u hu; simp at hu; rcases hu with rfl | rfl <;> rfl
      case c3 => unfold maxLen; omega
      case c4 => omega
      case c5 => have := HE.out.1.size; simp; omega
      intro v' w2 hown' hgrow _
      obtain ⟨g', cap', rfl⟩ := ownsRow_succ hown'
      have hX1 : w1.grownBy ((w1.alloc (.cells #[.int .i64 (ty : Int), .slice (some ⟨g, 0, none⟩) D.length cp] 33)).alloc (.cells #[.int .i64 (ty : Int), .slice (some ⟨g, 0, none⟩) D.length cp] 33)) none := grownBy_alloc (World.grownBy_alloc w1 _ none) _
      have hXR := (HW.out.2.1.grown HE.out.1 (by simp)).grown hX1 (by simp)
      have hfresh : g ∉ R.map Rc.g := by
        intro hm'
        obtain ⟨r, hr, rfl⟩ := List.mem_map.1 hm'
        have := HW.out.2.1.lt r hr
        have := HE.out.2.1
        omega
      have hRR2 : RecRow w2 w.heap.size (.slice (some ⟨g', 0, none⟩) (R.length + 1) cap') (R ++ [⟨ty, D, g, cp⟩]) :=
        hXR.append (r := ⟨ty, D, g, cp⟩) (HE.out.2.2.grown hX1 (by simp)) (Nat.le_trans hsz HE.out.2.1) hfresh hown' hgrow
      have hG2 : w.grownBy w2 none := grownBy_row (grownBy_trans (grownBy_trans HW.out.2.2.2 HE.out.1) hX1) hgrow (fun k hk => (hXR.1.lt k hk).1)
      have HF : Hid (RecRow w2 w.heap.size (.slice (some ⟨g', 0, none⟩) (R.length + 1) cap') (R ++ [⟨ty, D, g, cp⟩]) ∧ w.grownBy w2 none) := ⟨hRR2, hG2⟩
      clear hRR2 hG2 hX1 hXR hfresh hown' hgrow
      go_wp2
      go_roundw
      case rel => exact ⟨at_ + rs, _, R ++ [⟨ty, D, g, cp⟩], g', R.length + 1, cap', HNX.out, by go_num, rfl, by simp, HF.out.1, ⟨by rw [List.map_append, HW.out.2.2.1.1]; rfl, fun r hr => by
        rcases List.mem_append.1 hr with h9 | h9
        · exact HW.out.2.2.1.2 r h9
        · simp only [List.mem_cons, List.not_mem_nil, or_false] at h9
          subst h9
          exact HCP.out⟩, HF.out.2⟩
      case measure => simp [intOf]; omega
end Go.Proofs.YteacgefklafofaaDoor
