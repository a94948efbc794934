/-
  The model's FrameEncode, walked.
-/
import Derived.Test.YteacgefklafofaaDoorSpecEnc
import Derived.Test.YteacgefklafofaaDoorApp
namespace Go.Proofs.YteacgefklafofaaDoor
open Go.RowKit

set_option maxHeartbeats 400000 in
theorem specEncode_bad (ty : Int) (oa : Option Addr) (len cap : Nat) (w : World) (hb : ty < 1 ∨ 255 < ty ∨ 8192 < len) (hx : len ≤ maxLen) :
    Calls Tryd.prog 13 #[.agg #[.int .i64 ty, .slice oa len cap]] w fun e w' => e = .returned (.tuple #[.slice none 0 0, .int .i64 5]) ∧ w.grownBy w' none := by
  unfold maxLen at hx
  by_cases h1 : ty < 1
  · have e1 : decide (ty < 1) = true := by simpa using h1
    go_enter Tryd.func13, Tryd.ntmps13
    go_wp2
    go_ret2
    exact ⟨rfl, World.grownBy_alloc _ _ _⟩
  by_cases h2 : 255 < ty
  · go_enter Tryd.func13, Tryd.ntmps13
    go_wp2
    go_ret2
    exact ⟨rfl, World.grownBy_alloc _ _ _⟩
  · have h3 : 8192 < len := by omega
    go_enter Tryd.func13, Tryd.ntmps13
    go_wp2
    go_ret2
    exact ⟨rfl, World.grownBy_alloc _ _ _⟩

set_option maxRecDepth 100000 in
set_option maxHeartbeats 2000000 in
theorem specEncode_ok (ty : Nat) (oa : Option Addr) (len cap : Nat) (zs : List Nat) (w : World) (h1 : 1 ≤ ty) (h2 : ty ≤ 255) (h3 : len ≤ 8192) (hsl : SlB w oa len zs) :
    Calls Tryd.prog 13 #[.agg #[.int .i64 (ty : Int), .slice oa len cap]] w fun e w' => ∃ g n cp, e = .returned (.tuple #[.slice (some ⟨g, 0, none⟩) n cp, .int .i64 0]) ∧ n = (enc ty zs).length ∧ w.heap.size ≤ g ∧ Own w' 5 g (enc ty zs) ∧ w.grownBy w' none ∧ n ≤ cp := by
  have HS : Hid (SlB w oa len zs) := hsl
  have hl : zs.length = len := hsl.1
  clear hsl
  obtain ⟨i0, TB⟩ := byteT
  have HEZ : Hid ((∀ z ∈ encHead ty zs, z < 256) ∧ (∀ z ∈ encHead ty zs ++ zs, z < 256)) := by
    have h0 : ∀ z ∈ encHead ty zs, z < 256 := by
      intro z hz
      unfold encHead at hz
      rcases List.mem_append.1 hz with h | h
      · exact le4_lt _ z h
      · simp at h; omega
    refine ⟨h0, fun z hz => ?_⟩
    rcases List.mem_append.1 hz with h | h
    · exact h0 z h
    · exact HS.out.2.1 z h
  have e3 : ((ty : Int) % 256) = ty := by omega
  have e4 : IntKind.u8.wrap (ty : Int) = ty := by rw [IntKind.wrap_u8']; omega
  have HL : Hid (∀ X : World, w.heap.size < X.heap.size → X.cell? ⟨w.heap.size, 0, none⟩ = some (.int .i64 (ty : Int)) → X.cell? ⟨w.heap.size, 1, none⟩ = some (.slice oa len cap) →
      Calls Tryd.prog 36 #[.int .i64 (len : Int), .int .i64 4] X fun e w' => ∃ g cap', e = .returned (.slice (some ⟨g, 0, none⟩) 4 cap') ∧ Hid (w'.ownsRow (w.heap.size + 1) 5 1 (.slice (some ⟨g, 0, none⟩) 4 cap') 4 ((le4 len).map bv)) ∧ Hid (X.grownBy w' none) ∧ w.heap.size < g ∧ w.heap.size < w'.heap.size ∧ w'.cell? ⟨w.heap.size, 0, none⟩ = some (.int .i64 (ty : Int)) ∧ w'.cell? ⟨w.heap.size, 1, none⟩ = some (.slice oa len cap)) := by
    intro X hX c0 c1
    refine (l2Put4 len X (by omega)).mono ?_
    rintro e w' ⟨g, cap', rfl, hown, hG⟩
    have hg := hown.lt g rfl
    have hs := hG.size
    exact ⟨g, cap', rfl, ownsRow_base hown (by omega), hG, by omega, by omega, ((bcell hG).1 _ _ hX).trans c0, ((bcell hG).1 _ _ hX).trans c1⟩
  go_enter Tryd.func13, Tryd.ntmps13
  go_wp2_with fail
  go_region_held3 (fun w' => w'.cell? ⟨w.heap.size, 0, none⟩ = some (.int .i64 (ty : Int)) ∧ w'.cell? ⟨w.heap.size, 1, none⟩ = some (.slice oa len cap)) (first | go_keep | (exact ⟨keep_far hgr2.out (by first | omega | (simp; done) | (simp; omega)) (Nat.ne_of_lt hgp) (by simp [*]), keep_far hgr2.out (by first | omega | (simp; done) | (simp; omega)) (Nat.ne_of_lt hgp) (by simp [*])⟩) | fail)
    (first
      | (go_at_call 36; refine (HL.out _ (by first | omega | (simp; done) | (simp; omega)) (by simp) (by simp)).mono ?_; rintro e w1 ⟨gp, cp, rfl, hown1, hG1, hgp, hw1, hS0, hS1⟩)
      | (refine step_append_b (by rfl) (.tmp 23) (.tmp 27) TB (by rfl) (base := w.heap.size + 1) (g := gp) (n := 4) (cap := cp) (xs := le4 len) (by rfl) (by exact ownsRow_heap (hown1.out.alloc _) rfl) (oa := some ⟨w1.heap.size, 0, none⟩) (m := 4) (c := 4) (zs := [ty, 0, 0, 0]) (by rfl) (by exact lit_sl (zs := [ty, 0, 0, 0]) (heap_alloc_new w1 _) (by simp; omega)) (by omega) (by first | omega | (simp; done) | (simp; omega)) ?_; intro g2 cp2 w2 hown2 hgr2 hat2 hsz2)
      | (refine step_append_b (by rfl) (.tmp 23) (.tmp 27) TB (by rfl) (base := w.heap.size + 1) (g := gp) (n := 4) (cap := cp) (xs := le4 len) (by rfl) (by exact ownsRow_heap hown1.out rfl) (oa := some ⟨w.heap.size + 1, 0, none⟩) (m := 4) (c := 4) (zs := [ty, 0, 0, 0]) (by rfl) (by exact lit_sl (zs := [ty, 0, 0, 0]) ((hG1.out.block (w.heap.size + 1) (by first | omega | (simp; done) | (simp; omega)) (by simp)).trans (heap_two w _ _)) (by simp; omega)) (by omega) (by first | omega | (simp; done) | (simp; omega)) ?_; intro g2 cp2 w2 hown2 hgr2 hat2 hsz2)
      | fail)
  all_goals
    have C2 : Hid (w.grownBy w2 none) := by
      first
        | exact grown_next hgr2.out (grownBy_alloc (grownBy_trans (World.grownBy_alloc w _ none) hG1.out) _) ⟨rfl, rfl, rfl, rfl⟩ (by omega)
        | exact grown_next hgr2.out (grownBy_trans (grownBy_alloc (World.grownBy_alloc w _ none) _) hG1.out) ⟨rfl, rfl, rfl, rfl⟩ (by omega)
        | exact grown_next hgr2.out (grownBy_trans (grownBy_drew (grownBy_alloc (World.grownBy_alloc w _ none) _)) hG1.out) ⟨rfl, rfl, rfl, rfl⟩ (by omega)
        | exact grown_next hgr2.out (grownBy_alloc (grownBy_trans (grownBy_drew (World.grownBy_alloc w _ none)) hG1.out) _) ⟨rfl, rfl, rfl, rfl⟩ (by omega)
    have hg2 := (hown2.out.lt g2 rfl).1
    have hs2 : w.heap.size < w2.heap.size := by have := hown2.out.lt g2 rfl; omega
    have R2 : Hid (w2.ownsRow (w.heap.size + 1) 5 1 (.slice (some ⟨g2, 0, none⟩) 8 cp2) 8 ((encHead ty zs).map bv)) := by
      have := hown2.out
      unfold encHead
      rw [hl]
      exact this
    clear hown1 hG1 hgp hw1 hS0 hS1 hgr2 hat2 hown2 hsz2
    go_wp2_with fail
    go_region_held3 (fun w' => w'.cell? ⟨w.heap.size, 0, none⟩ = some (.int .i64 (ty : Int)) ∧ w'.cell? ⟨w.heap.size, 1, none⟩ = some (.slice oa len cap)) (first | go_keep | (exact ⟨keep_far hgr4.out (by first | omega | (simp; done) | (simp; omega)) (by omega) (by simp [*]), keep_far hgr4.out (by first | omega | (simp; done) | (simp; omega)) (by omega) (by simp [*])⟩) | (exact ⟨keep_far hgr3.out (by first | omega | (simp; done) | (simp; omega)) (by omega) (by simp [*]), keep_far hgr3.out (by first | omega | (simp; done) | (simp; omega)) (by omega) (by simp [*])⟩) | fail)
      (first
        | (go_at_call 8; refine (specCrc_any (some ⟨g4, 0, none⟩) (8 + len) cp4 (encHead ty zs ++ zs) _ (by exact (ownsRow_sl hown4.out HEZ.out.2).heap rfl) (by omega)).mono ?_; rintro e w5 ⟨rfl, rfl⟩)
        | (refine step_append_b (by rfl) (.tmp 31) (.tmp 33) TB (by rfl) (base := w.heap.size + 1) (g := g3) (n := 8) (cap := cp3) (xs := encHead ty zs) (by rfl) (by exact ownsRow_heap hown3.out rfl) (oa := oa) (m := len) (c := cap) (zs := zs) (by rfl) (by exact (HS.out.grown0 C3.out).heap rfl) (by omega) (by first | omega | (simp; done) | (simp; omega)) ?_; intro g4 cp4 w4 hown4 hgr4 hat4 hsz4; have hg4 := hown4.out.lt g4 rfl; have C4 : Hid (w.grownBy w4 none) := (by exact grown_next hgr4.out C3.out ⟨rfl, rfl, rfl, rfl⟩ (by omega)))
        | (refine step_append_b (by rfl) (.tmp 29) (.tmp 30) TB (by rfl) (base := w.heap.size + 1) (g := w2.heap.size) (n := 0) (cap := 0) (xs := []) (by rfl) (by exact ownsRow_heap (World.ownsRow_made w2 #[] 0 (by omega) (Nat.zero_le _) rfl) rfl) (oa := some ⟨g2, 0, none⟩) (m := 8) (c := cp2) (zs := encHead ty zs) (by rfl) (by exact (ownsRow_sl (R2.out.alloc _) HEZ.out.1).heap rfl) (by omega) (by first | omega | (simp; done) | (simp; omega)) ?_; intro g3 cp3 w3 hown3 hgr3 hat3 hsz3; have hg3 := hown3.out.lt g3 rfl; have C3 : Hid (w.grownBy w3 none) := (by exact grown_next hgr3.out (grownBy_alloc C2.out (.cells #[] 5)) ⟨rfl, rfl, rfl, rfl⟩ (by omega)))
        | fail)
    have hl2 := R2.out.lt g2 rfl
    have R3 : w3.ownsRow (w.heap.size + 1) 5 1 (.slice (some ⟨g2, 0, none⟩) 8 cp2) 8 ((encHead ty zs).map bv) := by
      have R3' : ((w2.alloc (.cells #[] 5)).drew).ownsRow (w.heap.size + 1) 5 1 (.slice (some ⟨g2, 0, none⟩) 8 cp2) 8 ((encHead ty zs).map bv) := ownsRow_heap (R2.out.alloc (.cells #[] 5)) rfl
      refine World.ownsRow.kept R3' hgr3.out (.inr ?_)
      simp [Value.ownBlock]; omega
    have hne3 : g2 ≠ g3 := by
      rcases hat3.out with h | h
      · omega
      · simp at h; omega
    have R5 : Hid (w5.ownsRow (w.heap.size + 1) 5 1 (.slice (some ⟨g2, 0, none⟩) 8 cp2) 8 ((encHead ty zs).map bv)) :=
      R3.kept hgr4.out (.inr (by simp [Value.ownBlock]; omega))
    have c5 : w5.cell? ⟨w.heap.size, 1, none⟩ = some (.slice oa len cap) := by
      rename_i hh
      exact hh.2
    have HX : Hid (∃ x, x = Crc.crc (encHead ty zs ++ zs)) := ⟨_, rfl⟩
    obtain ⟨x, hxe⟩ := HX.out
    have hx32 : x < 4294967296 := by rw [hxe]; exact crc_lt _
    rw [← hxe]
    have HXE : Hid (x = Crc.crc (encHead ty zs ++ zs)) := hxe
    have hs5 : w.heap.size < w5.heap.size := by omega
    clear hxe HX R3 hne3 hgr3 hgr4 hat3 hat4 hown3 hown4 hg3 hg4 hsz3 hsz4 C2 C3 R2 hl2 HL
    go_wp2_with fail
    refine (l2Put4 x w5 (by omega)).mono ?_
    rintro e w6 ⟨g6, cp6, rfl, hown6, hG6⟩
    have hb6 := hown6.lt g6 rfl
    have c6 : w6.cell? ⟨w.heap.size, 1, none⟩ = some (.slice oa len cap) := ((bcell hG6).1 _ _ hs5).trans c5
    have R6 : Hid (w6.ownsRow (w.heap.size + 1) 5 1 (.slice (some ⟨g2, 0, none⟩) 8 cp2) 8 ((encHead ty zs).map bv)) := R5.out.kept hG6 (.inr (by simp [Value.ownBlock]))
    have C6 : Hid (w.grownBy w6 none) := grownBy_trans C4.out hG6
    have O6 : Hid (w6.ownsRow w5.heap.size 5 1 (.slice (some ⟨g6, 0, none⟩) 4 cp6) 4 ((le4 x).map bv)) := hown6
    clear hown6 hG6 R5 C4 c5
    go_wp2_with (first
      | (at_builtin; refine wpList_append_b (by rfl) (.tmp 36) (.tmp 39) TB (by rfl) (base := w.heap.size + 1) (g := g2) (n := 8) (cap := cp2) (xs := encHead ty zs) (by rfl) (by exact R6.out) (oa := some ⟨g6, 0, none⟩) (m := 4) (c := cp6) (zs := le4 x) (by rfl) (by exact ownsRow_sl O6.out (le4_lt x)) (by omega) (by omega) ?_; intro g7 cp7 w7 hown7 hgr7 hat7 hsz7; have hg7 := hown7.out.lt g7 rfl; have C7 : Hid (w.grownBy w7 none) := (by exact grown_next hgr7.out C6.out ⟨rfl, rfl, rfl, rfl⟩ (by omega)); have c7 : w7.cell? ⟨w.heap.size, 1, none⟩ = some (.slice oa len cap) := (by exact keep_far hgr7.out (by omega) (by omega) c6))
      | (at_builtin; refine wpList_append_b (by rfl) (.tmp 41) (.tmp 43) TB (by rfl) (base := w.heap.size + 1) (g := g7) (n := 12) (cap := cp7) (xs := encHead ty zs ++ le4 x) (by rfl) (by exact hown7.out) (oa := oa) (m := len) (c := cap) (zs := zs) (by rfl) (by exact HS.out.grown0 C7.out) (by omega) (by omega) ?_; intro g8 cp8 w8 hown8 hgr8 hat8 hsz8; have hg8 := hown8.out.lt g8 rfl; have C8 : Hid (w.grownBy w8 none) := (by exact grown_next hgr8.out C7.out ⟨rfl, rfl, rfl, rfl⟩ (by omega))))
    obtain ⟨p, hpe⟩ : ∃ p, p = pad len := ⟨_, rfl⟩
    have hp4 : p < 4 := by rw [hpe]; exact pad_lt len
    have hpm : (len + p) % 4 = 0 := by rw [hpe]; unfold pad; omega
    have HPE : Hid (p = pad len) := hpe
    have O8 : Hid (w8.ownsRow (w.heap.size + 1) 5 1 (.slice (some ⟨g8, 0, none⟩) (12 + len) cp8) (12 + len) ((encHead ty zs ++ le4 x ++ zs).map bv)) := hown8
    clear hpe hown7 hgr7 hat7 hsz7 hg7 C7 c7 hgr8 hat8 hsz8 R6 O6 C6 c6 hb6 hown8 hg8
    obtain ⟨L, hL⟩ : ∃ L, L = encHead ty zs ++ le4 x ++ zs := ⟨_, rfl⟩
    rw [← hL] at O8
    have HL8 : Hid (L = encHead ty zs ++ le4 x ++ zs) := hL
    clear hL
    go_loopw [4] (fun o wr => ∃ k g cp, k ≤ p ∧ o = .slice (some ⟨g, 0, none⟩) (12 + len + k) cp ∧ wr.ownsRow (w.heap.size + 1) 5 1 o (12 + len + k) ((L ++ List.replicate k 0).map bv) ∧ w.grownBy wr none) (fun o _ => 16 + len - sliceLen o)
    case atStart => exact ⟨0, g8, cp8, Nat.zero_le _, rfl, by simpa using O8.out, C8.out⟩
    case round =>
      obtain ⟨k, g, cp, hk, rfl, hown, hG⟩ := hrel
      have hgl := hown.lt g rfl
      have HO : Hid (wr.ownsRow (w.heap.size + 1) 5 1 (.slice (some ⟨g, 0, none⟩) (12 + len + k) cp) (12 + len + k) ((L ++ List.replicate k 0).map bv) ∧ w.grownBy wr none) := ⟨hown, hG⟩
      clear hown hG
      by_cases hlt : k < p
      · have e5 : ((12 + (len : Int) + k) % 4 != 0) = true := by rw [bne_iff_ne]; omega
        have e6 : ¬ (12 + (len : Int) + k) % 4 = 0 := by omega
        go_wp2_with (at_builtin; refine wpList_append_b (by rfl) (.tmp 49) (.tmp 50) TB (by rfl) (base := w.heap.size + 1) (g := g) (n := 12 + len + k) (cap := cp) (xs := L ++ List.replicate k 0) (by rfl) (by exact HO.out.1.alloc _) (oa := some ⟨wr.heap.size, 0, none⟩) (m := 1) (c := 1) (zs := [0]) (by rfl) (by exact lit_sl (zs := [0]) (heap_alloc_new wr _) (by simp)) (by omega) (by simp; omega) ?_; intro g9 cp9 w9 hown9 hgr9 hat9 hsz9; have C9 : Hid (w.grownBy w9 none) := (by exact grown_next hgr9.out (grownBy_alloc HO.out.2 _) ⟨rfl, rfl, rfl, rfl⟩ (by omega)))
        go_roundw
        case rel =>
          refine ⟨k + 1, g9, cp9, by omega, rfl, ?_, C9.out⟩
          have := hown9.out
          rw [show L ++ List.replicate (k + 1) 0 = L ++ List.replicate k 0 ++ [0] by rw [List.replicate_succ', List.append_assoc]]
          exact this
        case measure => simp [sliceLen]; omega
      · obtain rfl : k = p := by omega
        have e5 : ((12 + (len : Int) + k) % 4 != 0) = false := by simp; omega
        have e6 : (12 + (len : Int) + k) % 4 = 0 := by omega
        have hE : L ++ List.replicate k 0 = enc ty zs := by
          rw [HL8.out, HXE.out, HPE.out, ← hl]; rfl
        have R : Hid (12 + len + k = (enc ty zs).length ∧ Own wr 5 g (enc ty zs) ∧ w.grownBy wr none ∧ 12 + len + k ≤ cp) := by
          refine ⟨?_, ?_, HO.out.2, ownsRow_le HO.out.1⟩
          · rw [enc_len, hl, ← HPE.out]
          · rw [← hE]
            refine own_made HO.out.1 ?_
            rw [hE]
            intro z hz
            unfold enc at hz
            rcases List.mem_append.1 hz with h | h
            · rcases List.mem_append.1 h with h | h
              · rcases List.mem_append.1 h with h | h
                · exact HEZ.out.1 z h
                · exact le4_lt _ z h
              · exact HS.out.2.1 z h
            · have := List.eq_of_mem_replicate h; omega
        clear hE
        go_wp2
        go_ret2
        exact ⟨g, _, cp, rfl, R.out.1, by omega, R.out.2.1, R.out.2.2.1, R.out.2.2.2⟩
end Go.Proofs.YteacgefklafofaaDoor
