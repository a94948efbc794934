/-
  FnFrames, walked.
-/
import Derived.Test.YteacgefklafofaaDoorFramesEnd
import Derived.Test.YteacgefklafofaaDoorSmBytes
import Derived.Deep.CutRange
import Derived.Deep.DeepCutAuto
import Derived.Deep.QuietTactic
namespace Go.Proofs.YteacgefklafofaaDoor
open Go.RowKit

theorem Lay.count {w : World} {base s ga na ca : Nat} {zs : List Nat} {b ends : Value} {R1 R2 R3 : List Rc} (h : Lay w base s zs (.slice (some ⟨ga, 0, none⟩) na ca) b ends R1 R2 R3) : na = R1.length := by
  rcases h.recs.1.2 with ⟨h', _⟩ | ⟨g', cap', cur, h', _⟩
  · simp at h'
  · simp only [Value.slice.injEq, Option.some.injEq, Addr.mk.injEq, and_true] at h'
    omega
theorem Lay.size {w : World} {base s : Nat} {zs : List Nat} {all b ends : Value} {R1 R2 R3 : List Rc} (h : Lay w base s zs all b ends R1 R2 R3) : base ≤ w.heap.size := by
  obtain ⟨gb, nb, cb, rfl, _, _, hb4⟩ := h.row
  have := hb4.lt gb rfl
  omega
theorem Lay.bytesRow {w : World} {base s gb nb cb : Nat} {zs : List Nat} {all ends : Value} {R1 R2 R3 : List Rc} (h : Lay w base s zs all (.slice (some ⟨gb, 0, none⟩) nb cb) ends R1 R2 R3) : w.ownsRow base 5 1 (.slice (some ⟨gb, 0, none⟩) nb cb) nb ((encAll (R2.map Rc.tell)).map bv) ∧ nb = (encAll (R2.map Rc.tell)).length := by
  obtain ⟨gb', nb', cb', hb1, hb2, hb3, hb4⟩ := h.row
  simp only [Value.slice.injEq, Option.some.injEq, Addr.mk.injEq, and_true] at hb1
  obtain ⟨rfl, rfl, rfl⟩ := hb1
  exact ⟨hb4, hb2⟩
theorem Lay.endsRow {w : World} {base s : Nat} {zs : List Nat} {all b ends : Value} {R1 R2 R3 : List Rc} (h : Lay w base s zs all b ends R1 R2 R3) : w.ownsRow base 3 1 ends (R3.length + 1) (endsV (R3.map Rc.tell)) := by
  obtain ⟨ge, ce, _, he2⟩ := h.stops
  exact he2
theorem enc_le (p : Nat × List Nat) (h : Good p) : (enc p.1 p.2).length ≤ 8207 := by
  have := pad_lt p.2.length
  have : p.2.length ≤ 8192 := by unfold Good at h; omega
  rw [enc_len]
  omega
theorem encAll_le (l : List (Nat × List Nat)) (h : ∀ p ∈ l, Good p) : (encAll l).length ≤ 8207 * l.length := by
  induction l with
  | nil => simp [encAll]
  | cons p l ih =>
    have h1 := ih (fun q hq => h q (by simp [hq]))
    have h2 := enc_le p (h p (by simp))
    have : encAll (p :: l) = enc p.1 p.2 ++ encAll l := by simp [encAll]
    rw [this, List.length_append, List.length_cons]
    omega
theorem Tryd.infoInt : (Tryd.prog.info? 3).map (fun i => (i.zero, i.size, i.bytes)) = some (some (.int .i64 0), 1, 8) := by kernel_rfl
theorem ownsRow_is {w : World} {base e size n : Nat} {v : Value} {xs : List Value} (h : w.ownsRow base e size v (n + 1) xs) : ∃ g c, v = .slice (some ⟨g, 0, none⟩) (n + 1) c := by
  rcases h.2 with ⟨_, h'⟩ | ⟨g', cap', cur, h', _⟩
  · omega
  · exact ⟨g', cap', h'⟩

set_option maxHeartbeats 4000000 in
set_option maxRecDepth 100000 in
theorem frames_true (oa : Option Addr) (len cap : Nat) (zs : List Nat) (w : World) (hsl : SlB w oa len zs) (ht : Tab w) (hx : len ≤ maxLen) :
    Calls Tryd.prog 7 #[.slice oa len cap] w fun e w' => e = .returned (.bool true) ∧ w.grownBy w' none := by
  unfold maxLen at hx
  by_cases hbig : 1048576 < len
  · go_enter Tryd.func7, Tryd.ntmps7
    go_wp2
    go_ret
    exact ⟨rfl, grownBy_refl _ _⟩
  have HD : Hid (True → _) := fun _ => l1Draw_any oa len cap zs w hsl (by omega)
  have HT : Hid (Tab w) := ht
  have HT0 : Hid (Tab w) := ht
  clear hsl ht
  go_enter Tryd.func7, Tryd.ntmps7
  go_wp2_with fail
  refine (HD.out trivial).mono ?_
  rintro e w1 ⟨s, rfl, hs0, hsrc1, hg1⟩
  have HS1 : Hid (w.heap.size ≤ s ∧ Src w1 s zs ∧ w.grownBy w1 none ∧ Tab w1) := ⟨hs0, hsrc1, hg1, Tab_grown HT.out hg1⟩
  clear hs0 hsrc1 hg1 HD HT
  go_wp2_with fail
  refine (l1Size_any oa len cap 11 _ (by omega) (by decide)).mono ?_
  rintro e w2 ⟨k1, rfl, hk1, rfl⟩
  have hgl : 0 < s := by
    have := cell_block_lt (HT0.out 0 (by decide))
    have := HS1.out.1
    simp only at *
    omega
  have L0 := Lay.start HS1.out.2.1 HS1.out.2.2.2 hgl
  have G0 : w.grownBy (((w1.alloc (.cells #[] 33)).alloc (.cells #[] 5)).alloc (.cells #[.int .i64 0] 3)) none := grownBy_alloc (grownBy_alloc (grownBy_alloc HS1.out.2.2.1 _) _) _
  have hB : s < w1.heap.size := HS1.out.2.1.lt
  have hS : w.heap.size ≤ s := HS1.out.1
  go_wp2_with fail
  generalize ((w1.alloc (.cells #[] 33)).alloc (.cells #[] 5)).alloc (.cells #[.int .i64 0] 3) = W at *
  refine (drawN_any s (k1 : Int) zs W L0.src (by omega) (by omega)).mono ?_
  rintro e w3 ⟨k2, rfl, hk2, hk3, hsrc3, hg3⟩
  generalize w1.heap.size = B at *
  have hk4 : k2 ≤ 10 := by
    by_cases h : (k1 : Int) ≤ 1
    · have := hk2 h; omega
    · have := hk3 (by omega); omega
  have H3 : Hid (Lay w3 B s zs (.slice (some ⟨B, 0, none⟩) 0 0) (.slice (some ⟨B + 1, 0, none⟩) 0 0) (.slice (some ⟨B + 1 + 1, 0, none⟩) 1 1) [] [] [] ∧ w.grownBy w3 none) :=
    ⟨L0.grown hg3 (by rintro r ⟨⟩; rfl) hsrc3, grownBy_new G0 hg3 hS⟩
  clear L0 G0 hsrc3 hg3 hk2 hk3 HS1 HT0
  go_wp2
  go_loopw [4, 5, 6, 7] (fun all b ends i wr => ∃ (R : List Rc) (k : Nat), i = .int .i64 k ∧ R.length + k = k2 + 1 ∧ Lay wr B s zs all b ends R R R ∧ w.grownBy wr none) (fun _ _ _ i _ => (intOf i).toNat)
  case atStart => exact ⟨[], 1 + k2, by go_num, by simp; omega, H3.out⟩
  case round =>
    clear H3
    obtain ⟨R, k, rfl, hRk, hL, hG⟩ := hrel
    have HL : Hid (Lay wr B s zs _ _ _ R R R ∧ w.grownBy wr none) := ⟨hL, hG⟩
    obtain ⟨ga, na, ca, rfl⟩ := hL.there
    obtain rfl := hL.count
    obtain ⟨gb, nb, cb, rfl, hnb, -⟩ := hL.row
    subst hnb
    obtain ⟨ge, ce, rfl, -⟩ := hL.stops
    clear hL hG
    by_cases hk0 : k = 0
    · as_aux_lemma =>
        obtain ⟨m, hm⟩ : ∃ m, R.length = m := ⟨_, rfl⟩
        obtain ⟨L, hL⟩ : ∃ L, R.map Rc.tell = L := ⟨_, rfl⟩
        obtain ⟨E, hE⟩ : ∃ E, encAll L = E := ⟨_, rfl⟩
        obtain ⟨nE, hnE⟩ : ∃ nE, E.length = nE := ⟨_, rfl⟩
        have hm1 : 1 ≤ m := by omega
        have hm2 : m ≤ 11 := by omega
        have HF : Hid (Fin w wr B s zs ga ca gb nE cb ge ce m R L E) := ⟨by have h := HL.out.1; rw [hL, hE, hnE, hm] at h; exact h, HL.out.2, hL, by rw [← hL]; simpa using hm, hE, hnE⟩
        rw [hL, hE, hnE, hm]
        subst hk0
        have hn1 := HF.out.small hm2
        have hn2 := HF.out.pos hm1
        clear HL hL hE hnE hm hRk
        go_wp2_with fail
        refine (cp_any (some ⟨gb, 0, none⟩) nE cb E wr HF.out.sl (by omega)).mono ?_
        rintro e w1 ⟨g1, c1, rfl, hO1, hG1⟩
        have H1 : Hid (Fin w w1 B s zs ga ca gb nE cb ge ce m R L E ∧ Own w1 5 g1 E ∧ nE ≤ c1 ∧ c1 ≤ maxLen ∧ g1 < w1.heap.size) := ⟨HF.out.more hG1, own_made hO1 HF.out.byte, (row_caps hO1).1, (row_caps hO1).2.1, (row_caps hO1).2.2.2⟩
        clear hO1 hG1 HF
        go_wp2_with fail
        refine (implScan_any g1 0 nE c1 E w1 (H1.out.2.1.sl _ H1.out.1.size) H1.out.1.lay.tab H1.out.2.2.1 H1.out.2.2.2.1 (by omega) H1.out.2.2.2.2).mono ?_
        rw [H1.out.1.scans]
        rintro e w2 ⟨v2, S, rfl, hrow, htell, hG2⟩
        have hSl : S.length = m := by have h := congrArg List.length htell; simpa [H1.out.1.len] using h
        obtain ⟨g2, c2, rfl⟩ := hrow.is hSl hm1
        obtain ⟨D1, hD1⟩ : ∃ D1, w1.heap.size = D1 := ⟨_, rfl⟩
        rw [hD1] at hrow
        have H2 : Hid (Fin w w2 B s zs ga ca gb nE cb ge ce m R L E ∧ RecRow w2 D1 (.slice (some ⟨g2, 0, none⟩) m c2) S ∧ S.map Rc.tell = L ∧ s < D1) := ⟨H1.out.1.more hG2, hrow, htell, by rw [← hD1]; exact H1.out.1.lay.src.lt⟩
        clear hrow htell hG2 H1 hSl hD1
        go_wp2_with fail
        refine (cp_any (some ⟨gb, 0, none⟩) nE cb E w2 H2.out.1.sl (by omega)).mono ?_
        rintro e w3 ⟨g3, c3, rfl, hO3, hG3⟩
        have hs2 : s < w2.heap.size := H2.out.1.lay.src.lt
        have H3 : Hid (w2.grownBy w3 (some s) ∧ Src w3 s zs ∧ w3.ownsRow w2.heap.size 5 1 (.slice (some ⟨g3, 0, none⟩) nE c3) nE (E.map bv) ∧ w2.heap.size ≤ g3) := ⟨grownBy_some hG3, H2.out.1.lay.src.grown0 hG3, hO3, (row_caps hO3).2.2.1⟩
        clear hO3 hG3
        go_wp2_with fail
        refine (drawN_any s 30 zs w3 H3.out.2.1 (by decide) (by decide)).mono ?_
        rintro e w4 ⟨n4, rfl, -, hn4, hs4, hg4⟩
        have hn4' : n4 < 30 := by have := hn4 (by decide); omega
        have H4 : Hid (w2.grownBy w4 (some s) ∧ Src w4 s zs ∧ w4.ownsRow w2.heap.size 5 1 (.slice (some ⟨g3, 0, none⟩) nE c3) nE (E.map bv) ∧ w2.heap.size ≤ g3) := ⟨grownBy_trans H3.out.1 hg4, hs4, World.ownsRow.kept H3.out.2.2.1 hg4 (.inr (by have := H3.out.2.2.2; simp only [Value.ownBlock, ne_eq, Option.some.injEq]; omega)), H3.out.2.2.2⟩
        clear hn4 hs4 hg4 H3
        go_wp2_with fail
        refine (drawBytes_any s n4 zs w4 H4.out.2.1 (by omega)).mono ?_
        rintro e w5 ⟨g5, c5, xs, rfl, hxs, hO5, hs5, hg5⟩
        have H5 : Hid (w2.grownBy w5 (some s) ∧ Src w5 s zs ∧ w5.ownsRow w2.heap.size 5 1 (.slice (some ⟨g3, 0, none⟩) nE c3) nE (E.map bv) ∧ w2.heap.size ≤ g3 ∧ SlB w5 (some ⟨g5, 0, none⟩) n4 xs) := ⟨grownBy_trans H4.out.1 hg5, hs5, World.ownsRow.kept H4.out.2.2.1 hg5 (.inr (by have := H4.out.2.2.2; simp only [Value.ownBlock, ne_eq, Option.some.injEq]; omega)), H4.out.2.2.2, (own_made hO5 hxs).sl _ (by simpa using hO5.1)⟩
        have HX : Hid (∀ z ∈ xs, z < 256) := hxs
        have hz5 := H5.out.1.size
        clear hxs hO5 hs5 hg5 H4
        obtain ⟨ib, TB⟩ := byteT
        go_wp2_with (at_builtin; refine wpList_append_b (by rfl) (.tmp 98) (.tmp 102) TB (by rfl) (base := w2.heap.size) (g := g3) (n := nE) (cap := c3) (xs := E) (by rfl) (by exact H5.out.2.2.1) (oa := some ⟨g5, 0, none⟩) (m := n4) (c := c5) (zs := xs) (by rfl) (by exact H5.out.2.2.2.2) (by omega) (by omega) ?_)
        intro g6 c6 w6 hO6 hG6 hat6 hsz6
        have hO6' := hO6.out
        rw [← List.map_append] at hO6'
        have hs6 : Src w6 s zs := H5.out.2.1.grown hG6.out (fun r' e => by have := H5.out.2.2.2.1; simp only [Option.some.injEq] at e; omega)
        have hG26 : w2.grownBy w6 (some s) := grownBy_past H5.out.1 hG6.out H5.out.2.2.2.1
        have H6 : Hid (Fin w w6 B s zs ga ca gb nE cb ge ce m R L E ∧ RecRow w6 D1 (.slice (some ⟨g2, 0, none⟩) m c2) S ∧ S.map Rc.tell = L ∧ Own w6 5 g6 (E ++ xs) ∧ nE + n4 ≤ c6 ∧ c6 ≤ maxLen ∧ g6 < w6.heap.size ∧ (E ++ xs).length = nE + n4) :=
          ⟨H2.out.1.draw hS hG26 hs6, H2.out.2.1.grown hG26 (fun k' e => by have := H2.out.2.2.2; simp only [Option.some.injEq] at e; omega), H2.out.2.2.1, own_made hO6' (by
            intro z hz
            rcases List.mem_append.1 hz with h | h
            · exact H2.out.1.byte z h
            · exact HX.out z h), (row_caps hO6.out).1, (row_caps hO6.out).2.1, (row_caps hO6.out).2.2.2, by simpa using hO6.out.1⟩
        clear hO6 hO6' hG6 hat6 hs6 hG26 H5 H2
        go_wp2_with fail
        refine (implScan_any g6 0 (nE + n4) c6 (E ++ xs) w6 (H6.out.2.2.2.1.sl _ H6.out.2.2.2.2.2.2.2) H6.out.1.lay.tab H6.out.2.2.2.2.1 H6.out.2.2.2.2.2.1 (by omega) H6.out.2.2.2.2.2.2.1).mono ?_
        rintro e w7 ⟨v7, S7, rfl, hrow7, htell7, hG7⟩
        obtain ⟨M, hM⟩ := H6.out.1.scansMore xs HX.out
        rw [hM] at htell7
        generalize (scan (E ++ xs)).2.1 = x1
        generalize (scan (E ++ xs)).2.2 = x2
        obtain ⟨m7, hm7⟩ : ∃ m7, S7.length = m7 := ⟨_, rfl⟩
        have hmm : m ≤ m7 := by have h := congrArg List.length htell7; simp [H6.out.1.len, hm7] at h; omega
        obtain ⟨g7, c7, rfl⟩ := hrow7.is hm7 (by omega)
        have H7 : Hid (Fin w w7 B s zs ga ca gb nE cb ge ce m R L E ∧ RecRow w7 D1 (.slice (some ⟨g2, 0, none⟩) m c2) S ∧ S.map Rc.tell = L ∧ RecRow w7 w6.heap.size (.slice (some ⟨g7, 0, none⟩) m7 c7) S7 ∧ S7.map Rc.tell = L ++ M) := ⟨H6.out.1.more hG7, H6.out.2.1.grown hG7 (by simp), H6.out.2.2.1, hrow7, htell7⟩
        have hd7 : decide (m7 < m) = false := by simp; omega
        clear hrow7 htell7 hG7 hM hm7 H6 HX
        go_wp2
        go_loopw [115] (fun i wr => ∃ j : Nat, j ≤ m ∧ i = .int .i64 (j : Int) ∧ w7.grownBy wr none) (fun i _ => m - (intOf i).toNat)
        case atStart => exact ⟨0, Nat.zero_le _, rfl, grownBy_refl _ _⟩
        case round =>
          obtain ⟨j, hj, rfl, hGl⟩ := hrel
          have HGl : Hid (w7.grownBy wr none) := hGl
          clear hGl
          by_cases hlt : j < m
          · have hjL : j < L.length := by rw [H7.out.1.len]; exact hlt
            obtain ⟨d1, e1, p1, p2, p3⟩ := pair_at ((H7.out.1.lay.recs).grown HGl.out (by simp)) [] (by rw [List.append_nil]; exact H7.out.1.tells) hjL
            obtain ⟨d2, e2, q1, q2, q3⟩ := pair_at (H7.out.2.1.grown HGl.out (by simp)) [] (by rw [List.append_nil]; exact H7.out.2.2.1) hjL
            obtain ⟨d3, e3, r1, r2, r3⟩ := pair_at (H7.out.2.2.2.1.grown HGl.out (by simp)) M H7.out.2.2.2.2 hjL
            generalize (L[j]).1 = ty at *
            generalize (L[j]).2 = dt at *
            have HSM : Hid (∀ w', w'.heap = wr.heap → Calls Tryd.prog 32 #[.slice (some ⟨d2, 0, none⟩) dt.length e2, .slice (some ⟨d1, 0, none⟩) dt.length e1] w' fun e w'' => e = .returned (.bool true) ∧ w'' = w') := by
              intro w' hw'
              refine (smBytes_any _ _ _ _ e2 e1 dt dt w' (q3.heap hw') (p3.heap hw')).mono ?_
              rintro e w'' ⟨rfl, rfl⟩
              exact ⟨by simp, rfl⟩
            have i1 : (j : Int) < (m : Int) := by omega
            have i2 : (j : Int) < (m7 : Int) := by omega
            have i3 : j < m7 := by omega
            clear p3 q3 r3 r2
            go_wp2
            go_quiet (first | (go_at_call 32; refine Calls.quiet_of_same (HSM.out _ rfl)) | fail)
            go_wp2
            go_roundw
            case rel => exact ⟨j + 1, by omega, by go_num, grownBy_same HGl.out ⟨rfl, rfl, rfl, rfl⟩⟩
            case measure => simp [intOf]; omega
          · obtain rfl : j = m := by omega
            have HF : Hid (Fin w wr B s zs ga ca gb nE cb ge ce j R L E) := H7.out.1.more HGl.out
            clear H7 HGl hd7
            go_wp2
            go_loopw [18] (fun t wt => ∃ q : Nat, q ≤ 6 ∧ t = .int .i64 (q : Int) ∧ Fin w wt B s zs ga ca gb nE cb ge ce j R L E) (fun t _ => 6 - (intOf t).toNat)
            case atStart => exact ⟨0, Nat.zero_le _, rfl, HF.out⟩
            case round =>
              clear HF
              obtain ⟨q, hq, rfl, hF⟩ := hrel
              have HF : Hid (Fin w wr B s zs ga ca gb nE cb ge ce j R L E) := hF
              clear hF
              by_cases hq6 : q < 6
              · go_wp2_with fail
                refine (drawN_any s (nE : Int) zs wr HF.out.lay.src (by omega) (by omega)).mono ?_
                rintro e y1 ⟨a, rfl, -, ha, hs1, hg1⟩
                have ha' : a < nE := by have := ha (by omega); omega
                have HF1 : Hid (Fin w y1 B s zs ga ca gb nE cb ge ce j R L E) := HF.out.draw hS hg1 hs1
                clear HF ha hs1 hg1
                go_wp2
                go_loop [20] (fun kk => ∃ k : Nat, kk = .int .i64 (k : Int) ∧ k < j ∧ endAt L k ≤ a) (fun kk => j - (intOf kk).toNat)
                case atStart => exact ⟨0, rfl, by omega, by rw [endAt_zero]; omega⟩
                case round =>
                  obtain ⟨k, rfl, hk, hka⟩ := hrel
                  have cn := HF1.out.ends (k + 1) (by omega)
                  have c0 := HF1.out.ends k (by omega)
                  obtain ⟨z1, hz1⟩ : ∃ z1, endAt L (k + 1) = z1 := ⟨_, rfl⟩
                  obtain ⟨z0, hz0⟩ : ∃ z0, endAt L k = z0 := ⟨_, rfl⟩
                  rw [hz1] at cn
                  rw [hz0] at c0 hka
                  have HZ : Hid (endAt L (k + 1) = z1 ∧ endAt L k = z0) := ⟨hz1, hz0⟩
                  clear hz1 hz0
                  by_cases hle : z1 ≤ a
                  · go_wp2
                    go_round
                    case rel =>
                      refine ⟨k + 1, by go_num, ?_, by rw [HZ.out.1]; exact hle⟩
                      have h9 := endAt_all L
                      rw [HF1.out.bytes, HF1.out.size, HF1.out.len] at h9
                      by_cases h8 : k + 1 = j
                      · rw [h8] at HZ
                        have := HZ.out.1
                        omega
                      · omega
                    case measure => simp [intOf]; omega
                  · by_cases h4 : a < z0 + 4
                    · have h4' : (a : Int) < (z0 : Int) + 4 := by omega
                      go_wp2
                      go_roundw
                      case rel => exact ⟨q + 1, by omega, by go_num, HF1.out⟩
                      case measure => simp [intOf]; omega
                    · as_aux_lemma =>
                      go_wp2_with fail
                      refine (cp_any (some ⟨gb, 0, none⟩) nE cb E y1 HF1.out.sl (by omega)).mono ?_
                      rintro e y2 ⟨g8, c8, rfl, hO8, hG8⟩
                      have H8 : Hid (Fin w y2 B s zs ga ca gb nE cb ge ce j R L E ∧ Own y2 5 g8 E ∧ nE ≤ c8 ∧ c8 ≤ maxLen ∧ g8 < y2.heap.size ∧ s < g8) := ⟨HF1.out.more hG8, own_made hO8 HF1.out.byte, (row_caps hO8).1, (row_caps hO8).2.1, (row_caps hO8).2.2.2, Nat.lt_of_lt_of_le HF1.out.lay.src.lt (row_caps hO8).2.2.1⟩
                      have H81 : Hid (Fin w y1 B s zs ga ca gb nE cb ge ce j R L E ∧ y1.grownBy y2 none ∧ y1.heap.size ≤ g8) := ⟨HF1.out, hG8, (row_caps hO8).2.2.1⟩
                      obtain ⟨x, hx⟩ : ∃ x, E.getD a 0 = x := ⟨_, rfl⟩
                      have c8a : y2.cell? ⟨g8, a, none⟩ = some (.int .u8 (x : Int)) := by have h := H8.out.2.1.cell a (by rw [H8.out.1.size]; exact ha'); rw [hx] at h; exact h
                      have HX : Hid (E.getD a 0 = x ∧ x < 256) := ⟨hx, by rw [← hx]; exact H8.out.1.byte _ (Crc.getD_mem _ _ (by rw [H8.out.1.size]; exact ha'))⟩
                      have HN : Hid (∀ w', Same y2 w' → Calls Tryd.prog 28 #[.pointer (some ⟨s, 0, none⟩), .int .i64 255] w' fun e w3 => ∃ r : Nat, e = .returned (.int .i64 (r : Int)) ∧ Hid (bits .xor .u8 (x : Int) (IntKind.u8.wrap (IntKind.i64.wrap (1 + (r : Int)))) = ((x ^^^ (r + 1) : Nat) : Int)) ∧ w3.frozen? ⟨g8, a, none⟩ = false ∧ w3.cell? ⟨g8, a, none⟩ = some (.int .u8 (x : Int)) ∧ Hid (r < 255 ∧ Src w3 s zs ∧ y2.grownBy w3 (some s))) := by
                        intro w' hw'
                        have G0 := grownBy_same (grownBy_refl y2 none) hw'
                        refine (drawN_any s 255 zs w' (H8.out.1.lay.src.grown0 G0) (by decide) (by decide)).mono ?_
                        rintro e w3 ⟨r, rfl, -, hr, hs3, hg3⟩
                        have hr' : r < 255 := by have := hr (by decide); omega
                        have G3 : y2.grownBy w3 (some s) := grownBy_trans (grownBy_some G0) hg3
                        refine ⟨r, rfl, ?_, (H8.out.2.1.grown G3 (by have := H8.out.2.2.2.2.2; simp only [ne_eq, Option.some.injEq]; omega)).free a, ?_, hr', hs3, G3⟩
                        · show _ = _
                          have h9 : IntKind.u8.wrap (IntKind.i64.wrap (1 + (r : Int))) = ((r + 1 : Nat) : Int) := by
                            rw [IntWalk.i64_in _ (by omega), IntKind.wrap_u8']
                            omega
                          rw [h9]
                          exact u8_xor_nat x (r + 1) HX.out.2 (by omega)
                        · have h8 := H8.out.2.2.2.2.2
                          have h7 := G3.block g8 H8.out.2.2.2.2.1 (by simp only [ne_eq, Option.some.injEq]; omega)
                          have h6 := c8a
                          unfold World.cell? at h6 ⊢
                          rw [h7]
                          exact h6
                      have i1 : (a : Int) < (nE : Int) := by omega
                      clear hO8 hG8 HF1 hx
                      go_upto_region 38 with fail
                      go_cut [21] from 157 to 214 (fun v wx => v = .slice (some ⟨g8, 0, none⟩) nE c8 ∧ ∃ (r : Nat) (y3 : World), r < 255 ∧ Src y3 s zs ∧ y2.grownBy y3 (some s) ∧ Same (y3.setCell ⟨g8, a, none⟩ (.int .u8 ((x ^^^ (r + 1) : Nat) : Int))) wx)
                      case first =>
                        go_region_with (first | (go_at_call 28; refine (HN.out y2.drew ⟨rfl, rfl, rfl, rfl⟩).mono ?_; rintro e y3 ⟨r, rfl, hxo, hfz, c3, H3⟩) | fail)
                        all_goals
                          go_wp2_with fail
                          go_meet
                          case rel => refine ⟨rfl, r, y3, H3.out.1, H3.out.2.1, H3.out.2.2, ?_⟩; rw [hxo.out]; exact ⟨rfl, rfl, rfl, rfl⟩
                      case rest =>
                        as_aux_lemma =>
                          obtain ⟨rfl, r, y3, hr, hs3, hG3, hsame⟩ := hcut
                          have hxr : x ^^^ (r + 1) < 256 := Nat.xor_lt_two_pow (n := 8) HX.out.2 (by omega)
                          have hne : x ^^^ (r + 1) ≠ x := by
                            intro h
                            have h5 := congrArg (fun y => x ^^^ y) h
                            simp only [← Nat.xor_assoc, Nat.xor_self, Nat.zero_xor] at h5
                            omega
                          obtain ⟨v, hv⟩ : ∃ v, x ^^^ (r + 1) = v := ⟨_, rfl⟩
                          rw [hv] at hxr hne hsame
                          have h13 : y1.grownBy y3 (some s) := grownBy_trans (grownBy_some H81.out.2.1) hG3
                          have hset : y3.grownBy (y3.setCell ⟨g8, a, none⟩ (.int .u8 (v : Int))) (some g8) := grownBy_setCell (grownBy_refl y3 (some g8))
                          have hw1 : y1.grownBy wc (some s) := grownBy_same (grownBy_past h13 hset H81.out.2.2) hsame
                          have hsg := H8.out.2.2.2.2.2
                          have hs4 : Src wc s zs := (hs3.grown hset (fun r' e => by simp only [Option.some.injEq] at e; omega)).grown0 (grownBy_same (grownBy_refl _ none) hsame)
                          have hOw : Own wc 5 g8 (E.set a v) := ((H8.out.2.1.grown hG3 (by simp only [ne_eq, Option.some.injEq]; omega)).set a v hxr).heap hsame.1
                          have hsc := scan_set L H81.out.1.good k a v (by rw [H81.out.1.len]; exact hk) (by rw [HZ.out.2]; omega) (by rw [HZ.out.1]; omega) hxr (by rw [H81.out.1.bytes, HX.out.1]; exact hne)
                          rw [H81.out.1.bytes, HZ.out.2] at hsc
                          have H9 : Hid (Fin w wc B s zs ga ca gb nE cb ge ce j R L E ∧ Own wc 5 g8 (E.set a v) ∧ nE ≤ c8 ∧ c8 ≤ maxLen ∧ g8 < wc.heap.size ∧ (E.set a v).length = nE) := ⟨H81.out.1.draw hS hw1 hs4, hOw, H8.out.2.2.1, H8.out.2.2.2.1, hOw.lt, by simpa using H81.out.1.size⟩
                          have HSC : Hid _ := hsc
                          clear hsc hOw hs4 hw1 hset h13 hsame hs3 hG3 H8 H81 HN HX hv hxr hne c8a
                          go_wp2_with fail
                          refine (implScan_any g8 0 nE c8 (E.set a v) wc (H9.out.2.1.sl _ H9.out.2.2.2.2.2) H9.out.1.lay.tab H9.out.2.2.1 H9.out.2.2.2.1 (by omega) H9.out.2.2.2.2.1).mono ?_
                          rintro e y5 ⟨v9, S9, rfl, hrow9, htell9, hG9⟩
                          obtain ⟨o9, cp9, rfl, -⟩ := hrow9.sl
                          have hl9 : S9.length = k := by have h := congrArg List.length htell9; rw [List.length_map, HSC.out.1] at h; exact h
                          have hrs := HSC.out.2.2
                          rw [hl9, HSC.out.2.1]
                          generalize (scan (E.set a v)).2.2 = rs at hrs ⊢
                          have hrs' : ((rs : Int) == 0) = false := by simpa using hrs
                          have HF5 : Hid (Fin w y5 B s zs ga ca gb nE cb ge ce j R L E) := H9.out.1.more hG9
                          have c5 := HF5.out.ends k (by omega)
                          rw [HZ.out.2] at c5
                          clear hrow9 htell9 hG9 H9 HSC hl9
                          go_wp2
                          go_roundw
                          case rel => exact ⟨q + 1, by omega, by go_num, HF5.out⟩
                          case measure => simp [intOf]; omega
              · obtain rfl : q = 6 := by omega
                go_wp2
                go_ret
                exact ⟨rfl, HF.out.grown⟩
    · as_aux_lemma =>
        go_wp2_with fail
        refine (drawN_any s 255 zs wr HL.out.1.src (by decide) (by decide)).mono ?_
        rintro e w4 ⟨t, rfl, -, ht, hs4, hg4⟩
        have ht' : t < 255 := by have := ht (by decide); omega
        have HL4 := Hid.mk' (Lay.draw HL.out hS hg4 hs4)
        clear HL hs4 hg4 ht
        go_wp2_with fail
        refine (drawN_any s 40 zs w4 HL4.out.1.src (by decide) (by decide)).mono ?_
        rintro e w5 ⟨n, rfl, -, hn, hs5, hg5⟩
        have hn' : n < 40 := by have := hn (by decide); omega
        have HL5 := Hid.mk' (Lay.draw HL4.out hS hg5 hs5)
        clear HL4 hs5 hg5 hn
        go_wp2_with fail
        refine (drawBytes_any s n zs w5 HL5.out.1.src (by omega)).mono ?_
        rintro e w6 ⟨gd, cd, xs, rfl, hxs, hod, hs6, hg6⟩
        have HL6 := Hid.mk' (Lay.draw HL5.out hS hg6 hs6)
        have HD : Hid (w5.heap.size ≤ gd ∧ (∀ z ∈ xs, z < 256) ∧ Own w6 5 gd xs ∧ xs.length = n) := ⟨(hod.lt gd rfl).1, hxs, own_made hod hxs, by simpa using hod.1⟩
        have HF : Hid (gd ∉ R.map Rc.g ∧ gb ≠ gd ∧ B ≤ gd) := by
          have h5 := HD.out.1
          obtain ⟨gb', nb', cb', hb1, hb2, hb3, hb4⟩ := HL5.out.1.row
          simp only [Value.slice.injEq, Option.some.injEq, Addr.mk.injEq, and_true] at hb1
          obtain ⟨rfl, rfl, rfl⟩ := hb1
          have h6 := hb4.lt gb rfl
          refine ⟨fun hm' => ?_, by omega, by omega⟩
          obtain ⟨r', hr', e⟩ := List.mem_map.1 hm'
          have := HL5.out.1.recs.lt r' hr'
          omega
        clear hs6 hg6 hxs hod HL5
        go_wp2_with fail
        have e1 : (1 : Int) + (t : Int) = ((t + 1 : Nat) : Int) := by omega
        rw [e1]
        obtain ⟨W7, hW7, hb7, hg7⟩ := rec_laid w6 (.int .i64 ((t + 1 : Nat) : Int)) (.slice (some ⟨gd, 0, none⟩) n cd)
        rw [hW7]
        have HL7 := Hid.mk' (Lay.more HL6.out hg7)
        have hr8 : w6.heap.size < W7.heap.size := (Array.getElem?_eq_some_iff.1 hb7).1
        have HCP := Hid.mk' (cpEnc W7 w6.heap.size gd n cd (t + 1) xs (by omega) (by omega) (by omega) HD.out.2.2.2 hr8 hb7 (HD.out.2.2.1.grown hg7 (by simp)) HL7.out.1.tab)
        have c0 : W7.cell? ⟨w6.heap.size, 0, none⟩ = some (.int .i64 ((t + 1 : Nat) : Int)) := by simp [World.cell?, hb7]
        have c1 : W7.cell? ⟨w6.heap.size, 1, none⟩ = some (.slice (some ⟨gd, 0, none⟩) n cd) := by simp [World.cell?, hb7]
        have HB7 : Hid (W7.heap[w6.heap.size]? = _ ∧ w6.grownBy W7 none) := ⟨hb7, hg7⟩
        clear hW7 hb7 hg7 HL6
        generalize hty : ((t + 1 : Nat) : Int) = ty at *
        have HTY : Hid (((t + 1 : Nat) : Int) = ty) := hty
        clear hty
        generalize w6.heap.size = r8 at *
        go_cut [9, 10] from 38 to 73 (fun x e wx => ∃ g9 m, x = .slice (some ⟨g9, 0, none⟩) m m ∧ e = .int .i64 0 ∧ m = (enc (t + 1) xs).length ∧ W7.heap.size ≤ g9 ∧ Own wx 5 g9 (enc (t + 1) xs) ∧ W7.grownBy wx none)
        case first =>
          go_region_with (first | (go_at_call 31; refine (HCP.out W7.drew ⟨rfl, rfl, rfl, rfl⟩).mono ?_; rintro e w8 ⟨g8, c8, rfl, c8c, HE8⟩) | (go_at_call 15; refine (HE8.out w8 ⟨rfl, rfl, rfl, rfl⟩).mono ?_; rintro e w9 ⟨g9, m, rfl, HE9⟩) | fail)
          all_goals
            go_wp2_with fail
            go_meet
            case rel => exact ⟨g9, m, rfl, rfl, HE9.out⟩
        case rest =>
          obtain ⟨g9, m, rfl, rfl, hm9, hg9, hO9, hG9⟩ := hcut
          have hb9 := (hG9.block r8 hr8 (by simp)).trans HB7.out.1
          have d0 : wc.cell? ⟨r8, 0, none⟩ = some (.int .i64 ty) := by simp [World.cell?, hb9]
          have d1 : wc.cell? ⟨r8, 1, none⟩ = some (.slice (some ⟨gd, 0, none⟩) n cd) := by simp [World.cell?, hb9]
          have HL9 := Hid.mk' (Lay.more HL7.out hG9)
          have HO9 : Hid (Own wc 5 g9 (enc (t + 1) xs) ∧ Own wc 5 gd xs ∧ m = (enc (t + 1) xs).length) := ⟨hO9, (HD.out.2.2.1.grown HB7.out.2 (by simp)).grown hG9 (by simp), hm9⟩
          obtain ⟨ir, hri, hr0, hr1, hr2⟩ := info_parts Tryd.infoRec
          obtain ⟨ib, TB⟩ := byteT
          clear hb9 hG9 hO9 hm9 HB7 HL7 HCP c0 c1
          go_wp2_with (at_builtin; refine wpList_append_own _ rfl _ _ 39 rfl B 33 ir (.agg #[.int .i64 0, .slice none 0 0]) 2 32 Tryd.underlying39 hri hr0 hr1 hr2 rfl (by decide) _ R.length (R.flatMap Rc.cells) rfl (by exact World.ownsRow.alloc HL9.out.1.recs.1 _) ⟨wc.heap.size, 0, none⟩ 1 1 [.int .i64 ty, .slice (some ⟨gd, 0, none⟩) n cd] rfl rfl ?c1 ?c2 ?c3 ?c4 ?c5 ?_)
          case c1 =>
            intro j u hj
            match j, hj with
            | 0, hj => simp at hj; subst hj; simp [Addr.add]
            | 1, hj => simp at hj; subst hj; simp [Addr.add]
          case c2 => intro u hu; simp at hu; rcases hu with rfl | rfl <;> rfl
          case c3 => unfold maxLen; omega
          case c4 => omega
          case c5 => have := HL9.out.1.size; simp; omega
          intro v' wa hown' hgrow _
          obtain ⟨g', cap', rfl⟩ := ownsRow_is hown'
          obtain ⟨r, hr⟩ : ∃ r : Rc, r = ⟨t + 1, xs, gd, cd⟩ := ⟨_, rfl⟩
          have HA : Hid (Lay wa B s zs (.slice (some ⟨g', 0, none⟩) (R.length + 1) cap') (.slice (some ⟨gb, 0, none⟩) (encAll (R.map Rc.tell)).length cb) (.slice (some ⟨ge, 0, none⟩) (R.length + 1) ce) (R ++ [r]) R R ∧ Own wa 5 g9 (enc r.ty r.data) ∧ w.grownBy wa none ∧ m = (enc r.ty r.data).length ∧ m ≤ 8207 ∧ (encAll (R.map Rc.tell)).length ≤ 8207 * R.length) := by
            have gr : Good r.tell := by
              have h1 := HD.out.2.1
              have h2 := HD.out.2.2.2
              subst hr
              unfold Good Rc.tell
              refine ⟨?_, ?_, ?_, ?_⟩ <;> first | assumption | (simp only; omega)
            have L1 := Lay.more HL9.out (World.grownBy_alloc wc (.cells #[.int .i64 ty, .slice (some ⟨gd, 0, none⟩) n cd] 33) none)
            have hc : r.cells = [.int .i64 ty, .slice (some ⟨gd, 0, none⟩) n cd] := by
              have h2 := HD.out.2.2.2
              subst hr
              simp [Rc.cells, HTY.out, h2]
            rw [← hc] at hown'
            have A := L1.1.stepA (r := r) gr (by rw [hr]; exact HO9.out.2.1.grown (World.grownBy_alloc _ _ none) (by simp)) (by rw [hr]; exact HF.out.2.2) (by rw [hr]; exact HF.out.1) (by rw [hr]; simpa [Value.ownBlock] using HF.out.2.1) hown' hgrow
            have e1 : (enc (t + 1) xs) = enc r.ty r.data := by rw [hr]
            have hm9 := HO9.out.2.2
            rw [e1] at hm9
            refine ⟨A.1, by rw [← e1]; exact A.2 _ _ (HO9.out.1.grown (World.grownBy_alloc _ _ none) (by simp)), grownBy_row L1.2 hgrow (fun k hk => ?_), hm9, by have := enc_le _ gr; rw [hm9]; exact this, ?_⟩
            · have := (L1.1.base_le).1 k hk
              omega
            · have := encAll_le (R.map Rc.tell) (fun p hp => by obtain ⟨q, hq, rfl⟩ := List.mem_map.1 hp; exact HL9.out.1.good q hq)
              simpa using this
          clear hown' hgrow HL9 HO9 HF HD HTY
          have hb1 := HA.out.2.2.2.2.1
          have hb2 := HA.out.2.2.2.2.2
          have hb3 := HA.out.1.size
          have HBR := Hid.mk' HA.out.1.bytesRow.1
          go_wp2_with (at_builtin; refine wpList_append_b (by rfl) (.tmp 66) (.tmp 67) TB (by rfl) (base := B) (g := gb) (n := (encAll (R.map Rc.tell)).length) (cap := cb) (xs := encAll (R.map Rc.tell)) (by rfl) (by exact HBR.out) (oa := some ⟨g9, 0, none⟩) (m := m) (c := m) (zs := enc r.ty r.data) (by rfl) ?d1 (by omega) (by omega) ?_)
          case d1 => exact HA.out.2.1.sl m HA.out.2.2.2.1.symm
          intro g2 c2 wb hown2 hgr2 hat2 hsz2
          have HB : Hid (Lay wb B s zs (.slice (some ⟨g', 0, none⟩) (R.length + 1) cap') (.slice (some ⟨g2, 0, none⟩) ((encAll (R.map Rc.tell)).length + m) c2) (.slice (some ⟨ge, 0, none⟩) (R.length + 1) ce) (R ++ [r]) (R ++ [r]) R ∧ w.grownBy wb none) := by
            have h2 := HA.out.1.base_le.2.1 gb rfl
            exact ⟨HA.out.1.stepB r HA.out.2.2.2.1 (by have h := hown2.out; rw [← List.map_append] at h; rw [hr]; exact h) hgr2.out hat2.out, grownBy_new HA.out.2.2.1 hgr2.out (show w.heap.size ≤ gb by omega)⟩
          have HM : Hid ((encAll (R.map Rc.tell)).length + m = (encAll ((R ++ [r]).map Rc.tell)).length) := HB.out.1.bytesRow.2
          clear hown2 hgr2 hat2 HBR HA
          obtain ⟨ii, hii, hi0, hi1, hi2⟩ := info_parts Tryd.infoInt
          have HER := Hid.mk' HB.out.1.endsRow
          have hb4 := HB.out.1.size
          generalize hq : (encAll (R.map Rc.tell)).length + m = q at *
          clear hq
          go_wp2_with (at_builtin; refine wpList_append_own _ rfl _ _ 49 rfl B 3 ii (.int .i64 0) 1 8 Tryd.underlying49 hii hi0 hi1 hi2 rfl (by decide) _ (R.length + 1) (endsV (R.map Rc.tell)) rfl (by exact World.ownsRow.alloc HER.out _) ⟨wb.heap.size, 0, none⟩ 1 1 [.int .i64 (q : Int)] rfl rfl ?c1 ?c2 ?c3 ?c4 ?c5 ?_)
          case c1 =>
            intro j u hj
            match j, hj with
            | 0, hj => simp at hj; subst hj; simp [Addr.add]
          case c2 => intro u hu; simp at hu; subst hu; rfl
          case c3 => unfold maxLen; omega
          case c4 => omega
          case c5 => simp; omega
          intro v3 we hown3 hgr3 _
          have HC : Hid (Lay we B s zs (.slice (some ⟨g', 0, none⟩) (R.length + 1) cap') (.slice (some ⟨g2, 0, none⟩) q c2) v3 (R ++ [r]) (R ++ [r]) (R ++ [r]) ∧ w.grownBy we none) := by
            have L1 := Lay.more HB.out (World.grownBy_alloc wb (.cells #[.int .i64 (q : Int)] 3) none)
            have h2 := L1.1.base_le.2.2.1 ge rfl
            exact ⟨L1.1.stepC r (by rw [← HM.out]; exact hown3) hgr3, grownBy_new L1.2 hgr3 (show w.heap.size ≤ ge by omega)⟩
          clear hown3 hgr3 HB HER HM
          go_wp2
          go_roundw
          case rel => exact ⟨R ++ [r], k - 1, by go_num, by simp; omega, HC.out⟩
          case measure => simp [intOf]; omega
end Go.Proofs.YteacgefklafofaaDoor
