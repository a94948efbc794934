/-
  ReadW, FilesW, BigW, LogR
-/
import Derived.Test.YtjnegjgpkboocaaGreatDoorWal9
import Derived.RangeFuncBox
import Derived.Deep.RegionHeld3
import Derived.Deep.MidRow
/-
  readSegment, walked.
-/
namespace Go.Proofs.YtjnegjgpkboocaaGreatDoor
open Go.RowKit
attribute [local go_sem] Oper.semAt_some

/-- what readSegment leaves -/
def SegOut (w : World) (S R B : Nat) (dr : Int) (L : Lg) (num : Nat) (ad : Addr) (zs : List Nat) (e : Ending) (w' : World) : Prop :=
  RowsW w R B w' ∧ ((∃ (L' : Lg) (f' : Nat), rsteps num (decide (L.S = [])) L.pl true (scan zs).1 = some L'.pl ∧ (scan zs).1 ≠ [] ∧ e = .returned (.tuple #[.int .i64 (((scan zs).2.2 : Nat) : Int), .nilIface]) ∧ LogIn w' R B (formCs S ++ [.int .i64 (((scan zs).2.1 : Nat) : Int), .int .i64 dr]) L' ∧ L'.S = L.S ++ [(num, f')])
    ∨ ((rsteps num (decide (L.S = [])) L.pl true (scan zs).1 = none ∨ (scan zs).1 = []) ∧ e = .returned (.tuple #[.int .i64 0, .iface 177 (.pointer (some ad))])))
set_option maxRecDepth 100000 in
set_option maxHeartbeats 4000000 in
theorem readSegment_any (S R B : Nat) (kp dr : Int) (L : Lg) (nm : ByteArray) (num b len cap : Nat) (zs : List Nat) (ad : Addr) (w : World) (h : LogIn w R B (formCs S ++ [.int .i64 kp, .int .i64 dr]) L) (hF : Forms w S) (hSR : S + 7 ≤ R) (hn : nameR0 nm walB = (num : Int)) (hnm : nm.size ≤ 1048576) (hE : w.cell? ⟨0, 0, none⟩ = some (.iface 177 (.pointer (some ad))))
    (hsl : SlB w (some ⟨b, 0, none⟩) len zs) (ht : Tab w) (hlc : len ≤ cap) (hm : cap ≤ maxLen) (hm2 : len ≤ 1048576) (hbl : b < R) (hgR : 14 ≤ R) (hBw : B ≤ w.heap.size) (hSl : L.S.length + 1 ≤ 1000) :
    Calls Tryz.prog 41 #[.pointer (some ⟨R, 0, none⟩), .agg #[.string nm, .slice (some ⟨b, 0, none⟩) len cap]] w (SegOut w S R B dr L num ad zs) := by
  have hRB := h.low; have HH : Hid (SlB w (some ⟨b, 0, none⟩) len zs ∧ Tab w ∧ LogIn w R B (formCs S ++ [.int .i64 kp, .int .i64 dr]) L ∧ Forms w S ∧ nameR0 nm walB = (num : Int) ∧ w.cell? ⟨0, 0, none⟩ = some (.iface 177 (.pointer (some ad)))) := ⟨hsl, ht, h, hF, hn, hE⟩; clear hsl ht h hF hn hE; refine (callsIn_wide (n := 0)).1 (callsIn_of_wp_marks Tryz.func41 rfl trivial ?_ rfl); refine wpIn_wide.2 ?_; simp only [Tryz.ntmps41, List.size_toArray, List.length_cons, List.length_nil, Nat.reduceAdd, Nat.reduceSub, Array.replicate_succ, Array.replicate_zero, List.push_toArray, List.append_toArray, List.nil_append, List.cons_append]; go_wp2; have hG0 : w.grownBy ((((w.alloc (.cells #[.pointer (some ⟨R, 0, none⟩)] 118)).alloc (.cells #[.string nm, .slice (some ⟨b, 0, none⟩) len cap] 48)).alloc (.cells #[.int .i64 0] 3)).alloc (.cells #[.nilIface] 62)) none := grownBy_alloc (grownBy_alloc (grownBy_alloc (World.grownBy_alloc w _ _) _) _) _
  have hX0 : ((((w.alloc (.cells #[.pointer (some ⟨R, 0, none⟩)] 118)).alloc (.cells #[.string nm, .slice (some ⟨b, 0, none⟩) len cap] 48)).alloc (.cells #[.int .i64 0] 3)).alloc (.cells #[.nilIface] 62)).heap[w.heap.size]? = some (.cells #[.pointer (some ⟨R, 0, none⟩)] 118 (0, 0)) ∧ ((((w.alloc (.cells #[.pointer (some ⟨R, 0, none⟩)] 118)).alloc (.cells #[.string nm, .slice (some ⟨b, 0, none⟩) len cap] 48)).alloc (.cells #[.int .i64 0] 3)).alloc (.cells #[.nilIface] 62)).heap[w.heap.size + 1]? = some (.cells #[.string nm, .slice (some ⟨b, 0, none⟩) len cap] 48 (0, 0)) ∧ ((((w.alloc (.cells #[.pointer (some ⟨R, 0, none⟩)] 118)).alloc (.cells #[.string nm, .slice (some ⟨b, 0, none⟩) len cap] 48)).alloc (.cells #[.int .i64 0] 3)).alloc (.cells #[.nilIface] 62)).heap[w.heap.size + 1 + 1]? = some (.cells #[.int .i64 0] 3 (0, 0)) ∧ ((((w.alloc (.cells #[.pointer (some ⟨R, 0, none⟩)] 118)).alloc (.cells #[.string nm, .slice (some ⟨b, 0, none⟩) len cap] 48)).alloc (.cells #[.int .i64 0] 3)).alloc (.cells #[.nilIface] 62)).heap[w.heap.size + 1 + 1 + 1]? = some (.cells #[.nilIface] 62 (0, 0)) := by
    refine ⟨grown_blk (grownBy_alloc (grownBy_alloc (World.grownBy_alloc _ _ _) _) _) (heap_alloc_new w _), grown_blk (grownBy_alloc (World.grownBy_alloc _ _ _) _) (heap_two w _ _), ?_, ?_⟩
    · have h9 := grown_blk (World.grownBy_alloc _ (.cells #[.nilIface] 62) none) (heap_alloc_new ((w.alloc (.cells #[.pointer (some ⟨R, 0, none⟩)] 118)).alloc (.cells #[.string nm, .slice (some ⟨b, 0, none⟩) len cap] 48)) (.cells #[.int .i64 0] 3 (0, 0)))
      simpa using h9
    · have h9 := heap_alloc_new (((w.alloc (.cells #[.pointer (some ⟨R, 0, none⟩)] 118)).alloc (.cells #[.string nm, .slice (some ⟨b, 0, none⟩) len cap] 48)).alloc (.cells #[.int .i64 0] 3)) (.cells #[.nilIface] 62 (0, 0))
      simpa using h9
  have hL0 := HH.out.2.2.1.grown0 hG0; generalize (((w.alloc (.cells #[.pointer (some ⟨R, 0, none⟩)] 118)).alloc (.cells #[.string nm, .slice (some ⟨b, 0, none⟩) len cap] 48)).alloc (.cells #[.int .i64 0] 3)).alloc (.cells #[.nilIface] 62) = W0 at hG0 hX0 hL0 ⊢; have hsz0 : w.heap.size + 1 + 1 + 1 < W0.heap.size := (Array.getElem?_eq_some_iff.1 hX0.2.2.2).1; have H0 : Hid (w.grownBy W0 none ∧ LogIn W0 R B (formCs S ++ [.int .i64 kp, .int .i64 dr]) L ∧ (W0.heap[w.heap.size]? = some (.cells #[.pointer (some ⟨R, 0, none⟩)] 118 (0, 0)) ∧ W0.heap[w.heap.size + 1]? = some (.cells #[.string nm, .slice (some ⟨b, 0, none⟩) len cap] 48 (0, 0)) ∧ W0.heap[w.heap.size + 1 + 1]? = some (.cells #[.int .i64 0] 3 (0, 0)) ∧ W0.heap[w.heap.size + 1 + 1 + 1]? = some (.cells #[.nilIface] 62 (0, 0)))) := ⟨hG0, hL0, hX0⟩; obtain ⟨-, -, -, b3, bf, hRl⟩ := hL0.cells; have bf3 := bf 3; have HB3 : Hid (W0.cell? ⟨R, 3, none⟩ = some L.sv ∧ W0.frozen? ⟨R, 3, none⟩ = false) := ⟨b3, bf3⟩; have HRW : Hid (R < w.heap.size) := HH.out.2.2.1.cells.2.2.2.2.2
  have HSEG : Hid (∀ w' : World, Calls Tryz.prog 39 #[.string nm] w' fun e w'' => e = .returned (.int .i64 (num : Int)) ∧ w'' = w') := fun w' => by have h9 := implSeg_any nm w' hnm; rw [HH.out.2.2.2.2.1] at h9; exact h9
  clear hG0 hX0 hL0 b3 bf bf3; refine wp_region_noPanic ?_; refine wp_region_Z (fun V => V.heap[w.heap.size]? = some (.cells #[.pointer (some ⟨R, 0, none⟩)] 118 (0, 0)) ∧ V.heap[w.heap.size + 1]? = some (.cells #[.string nm, .slice (some ⟨b, 0, none⟩) len cap] 48 (0, 0)) ∧ V.cell? ⟨R, 3, none⟩ = some L.sv) (fun j => j == 15) (by kernel_rfl) ?_; have hS : W0.drew.heap[w.heap.size]? = some (.cells #[.pointer (some ⟨R, 0, none⟩)] 118 (0, 0)) ∧ W0.drew.heap[w.heap.size + 1]? = some (.cells #[.string nm, .slice (some ⟨b, 0, none⟩) len cap] 48 (0, 0)) ∧ W0.drew.cell? ⟨R, 3, none⟩ = some L.sv := ⟨H0.out.2.2.1, H0.out.2.2.2.1, HB3.out.1⟩; refine wpAnyZ_load' (i := 0) (y := 15) (v := ?vz1) rfl (by kernel_rfl) (by kernel_rfl) (by kernel_rfl) (fun _ _ _ h => h) (fun j hj => .inl (by obtain rfl : j = 15 := (by simpa using hj); kernel_rfl)) rfl (by kernel_rfl) (Or.inl ⟨by rfl, ?yz1⟩) hS ?rz1
  case yz1 => (intro W hW; have c0 : W.cell? ⟨w.heap.size, 0, none⟩ = some (.pointer (some ⟨R, 0, none⟩)) := (cell_of_row W _ _ _ _ _ hW.1).trans rfl; go_simp; first | done | with_reducible rfl)
  simp only [Act.put, List.setIfInBounds_toArray, List.set_cons_zero, List.set_cons_succ]; refine wpAnyZ_load' (i := 1) (y := 15) (v := ?vz2) rfl (by kernel_rfl) (by kernel_rfl) (by kernel_rfl) (fun _ _ _ h => h) (fun j hj => .inl (by obtain rfl : j = 15 := (by simpa using hj); kernel_rfl)) rfl (by kernel_rfl) (Or.inl ⟨by rfl, ?yz2⟩) hS ?rz2
  case yz2 => (intro W hW; have c0 : W.cell? ⟨w.heap.size, 0, none⟩ = some (.pointer (some ⟨R, 0, none⟩)) := (cell_of_row W _ _ _ _ _ hW.1).trans rfl; go_simp; first | done | with_reducible rfl)
  simp only [Act.put, List.setIfInBounds_toArray, List.set_cons_zero, List.set_cons_succ]; refine wpAnyZ_take' (i := 2) (v := ?vz3) rfl (by kernel_rfl) (by kernel_rfl) (by kernel_rfl) (fun _ _ _ h => h) (Or.inl ⟨by rfl, ?yz3⟩) ?rz3
  case yz3 => (intro w _; go_simp; first | done | with_reducible rfl)
  simp only [Act.put, List.setIfInBounds_toArray, List.set_cons_zero, List.set_cons_succ]; refine wpAnyZ_take' (i := 3) (v := ?vz4) rfl (by kernel_rfl) (by kernel_rfl) (by kernel_rfl) (fun _ _ _ h => h) (Or.inl ⟨by rfl, ?yz4⟩) ?rz4
  case yz4 => (intro w _; go_simp; first | done | with_reducible rfl)
  simp only [Act.put, List.setIfInBounds_toArray, List.set_cons_zero, List.set_cons_succ]; refine wpAnyZ_take' (i := 4) (v := ?vz5) rfl (by kernel_rfl) (by kernel_rfl) (by kernel_rfl) (fun _ _ _ h => h) (Or.inl ⟨by rfl, ?yz5⟩) ?rz5
  case yz5 => (intro w _; go_simp; first | done | with_reducible rfl)
  simp only [Act.put, List.setIfInBounds_toArray, List.set_cons_zero, List.set_cons_succ]; refine wpAnyZ_load' (i := 5) (y := 15) (v := ?vz6) rfl (by kernel_rfl) (by kernel_rfl) (by kernel_rfl) (fun _ _ _ h => h) (fun j hj => .inl (by obtain rfl : j = 15 := (by simpa using hj); kernel_rfl)) rfl (by kernel_rfl) (Or.inl ⟨by rfl, ?yz6⟩) hS ?rz6
  case yz6 => (intro W hW; have c0 : W.cell? ⟨R, 3, none⟩ = some L.sv := hW.2.2; go_simp; first | done | with_reducible rfl)
  simp only [Act.put, List.setIfInBounds_toArray, List.set_cons_zero, List.set_cons_succ]; refine wpAnyZ_take' (i := 6) (v := ?vz7) rfl (by kernel_rfl) (by kernel_rfl) (by kernel_rfl) (fun _ _ _ h => h) (Or.inl ⟨by rfl, ?yz7⟩) ?rz7
  case yz7 => (intro w _; go_simp; first | done | with_reducible rfl)
  simp only [Act.put, List.setIfInBounds_toArray, List.set_cons_zero, List.set_cons_succ]; refine wpAnyZ_load' (i := 7) (y := 15) (v := ?vz8) rfl (by kernel_rfl) (by kernel_rfl) (by kernel_rfl) (fun _ _ _ h => h) (fun j hj => .inl (by obtain rfl : j = 15 := (by simpa using hj); kernel_rfl)) rfl (by kernel_rfl) (Or.inl ⟨by rfl, ?yz8⟩) hS ?rz8
  case yz8 => (intro W hW; have c0 : W.cell? ⟨w.heap.size + 1, 0, none⟩ = some (.string nm) := (cell_of_row W _ _ _ _ _ hW.2.1).trans rfl; go_simp; first | done | with_reducible rfl)
  simp only [Act.put, List.setIfInBounds_toArray, List.set_cons_zero, List.set_cons_succ]; refine wpAnyZ_one' (i := 8) (by kernel_rfl) rfl (fun K hK => ?_); go_simp; go_at_call 39; refine (HSEG.out _).mono ?_; rintro e w9 ⟨rfl, rfl⟩; refine hK.out _ _ (fun _ h => h) ?_; clear hK K; (try simp only [Act.put, List.setIfInBounds_toArray, List.set_cons_zero, List.set_cons_succ]); refine wpAnyZ_take' (i := 9) (v := ?vz9) rfl (by kernel_rfl) (by kernel_rfl) (by kernel_rfl) (fun _ _ _ h => h) (Or.inl ⟨by rfl, ?yz9⟩) ?rz9
  case yz9 => (intro w _; go_simp; first | done | with_reducible rfl)
  simp only [Act.put, List.setIfInBounds_toArray, List.set_cons_zero, List.set_cons_succ]; refine wpAnyZ_one' (i := 10) (by kernel_rfl) rfl (fun K hK => ?_); go_simp; refine hK.out _ _ (fun _ h => ⟨grown_blk (World.grownBy_alloc _ _ _) h.1, grown_blk (World.grownBy_alloc _ _ _) h.2.1, ((bcell (World.grownBy_alloc _ _ none)).1 _ _ (cell_block_lt h.2.2)).trans h.2.2⟩) ?_; clear hK K; (try simp only [Act.put, List.setIfInBounds_toArray, List.set_cons_zero, List.set_cons_succ]); have hLX := (H0.out.2.1.grown0 (World.grownBy_alloc W0 (.cells #[.int .i64 (num : Int), .int .i64 0] 67) none)).heap (w' := (W0.alloc (.cells #[.int .i64 (num : Int), .int .i64 0] 67)).drew) rfl; have hGX : w.grownBy ((W0.alloc (.cells #[.int .i64 (num : Int), .int .i64 0] 67)).drew) none := grownBy_drew (grownBy_alloc H0.out.1 _); have hbX : ((W0.alloc (.cells #[.int .i64 (num : Int), .int .i64 0] 67)).drew).heap[W0.heap.size]? = some (.cells #[.int .i64 (num : Int), .int .i64 0] 67 (0, 0)) := heap_alloc_new W0 _
  have hxX : ((W0.alloc (.cells #[.int .i64 (num : Int), .int .i64 0] 67)).drew).heap[w.heap.size]? = some (.cells #[.pointer (some ⟨R, 0, none⟩)] 118 (0, 0)) ∧ ((W0.alloc (.cells #[.int .i64 (num : Int), .int .i64 0] 67)).drew).heap[w.heap.size + 1]? = some (.cells #[.string nm, .slice (some ⟨b, 0, none⟩) len cap] 48 (0, 0)) ∧ ((W0.alloc (.cells #[.int .i64 (num : Int), .int .i64 0] 67)).drew).heap[w.heap.size + 1 + 1]? = some (.cells #[.int .i64 0] 3 (0, 0)) ∧ ((W0.alloc (.cells #[.int .i64 (num : Int), .int .i64 0] 67)).drew).heap[w.heap.size + 1 + 1 + 1]? = some (.cells #[.nilIface] 62 (0, 0)) := by
    have hg9 : W0.grownBy ((W0.alloc (.cells #[.int .i64 (num : Int), .int .i64 0] 67)).drew) none := grownBy_drew (World.grownBy_alloc W0 (.cells #[.int .i64 (num : Int), .int .i64 0] 67) none); exact ⟨grown_blk hg9 H0.out.2.2.1, grown_blk hg9 H0.out.2.2.2.1, grown_blk hg9 H0.out.2.2.2.2.1, grown_blk hg9 H0.out.2.2.2.2.2⟩
  generalize (W0.alloc (.cells #[.int .i64 (num : Int), .int .i64 0] 67)).drew = X1 at hLX hGX hbX hxX ⊢; have HX1 : Hid (LogIn X1 R B (formCs S ++ [.int .i64 kp, .int .i64 dr]) L ∧ w.grownBy X1 none ∧ (X1.heap[w.heap.size]? = some (.cells #[.pointer (some ⟨R, 0, none⟩)] 118 (0, 0)) ∧ X1.heap[w.heap.size + 1]? = some (.cells #[.string nm, .slice (some ⟨b, 0, none⟩) len cap] 48 (0, 0)) ∧ X1.heap[w.heap.size + 1 + 1]? = some (.cells #[.int .i64 0] 3 (0, 0)) ∧ X1.heap[w.heap.size + 1 + 1 + 1]? = some (.cells #[.nilIface] 62 (0, 0)))) := ⟨hLX, hGX, hxX⟩; refine wpAnyZ_one' (i := 11) (by kernel_rfl) rfl (fun K hK => ?_); refine step_append2 (by rfl) (.tmp 13) (.tmp 18) 50 67 (by rfl) Tryz.underlying50 Tryz.infoSeg rfl (B := B) (by rfl) hLX.seg (ad := ⟨W0.heap.size, 0, none⟩) (c := 1) (news := [.int .i64 (num : Int), .int .i64 0]) (by rfl) rfl ?n1 ?n2 (by decide) (by omega) (by have := hGX.size; omega) ?n3
  case n1 =>
    intro j u hj
    match j, hj with
    | 0, hj => simp at hj; subst hj; exact (cell_of_row _ _ _ _ _ _ hbX).trans rfl
    | 1, hj => simp at hj; subst hj; exact (cell_of_row _ _ _ _ _ _ hbX).trans rfl
  case n2 => intro u hu; simp at hu; rcases hu with rfl | rfl <;> rfl
  intro v' w4 hown' hgrow; obtain ⟨g', cap', rfl⟩ := ownsRow_succ hown'; have hpush := hLX.push (w' := w4) hSl hown' hgrow rfl
  have hbk : ∀ (k : Nat) (cur : Array Value) (t : TypeId) (f : Nat × Nat), X1.heap[k]? = some (Obj.cells cur t f) → t ≠ 67 → w4.heap[k]? = some (Obj.cells cur t f) := by
    intro k cur t f hk ht'; refine (hgrow.block k (Array.getElem?_eq_some_iff.1 hk).1 (fun hc => ?_)).trans hk; obtain ⟨cur', hk'⟩ := owns_type hLX.seg hc.symm; rw [hk'] at hk; have := Option.some.inj hk
    injection this with _ h9 _
    exact ht' h9.symm
  have hbR := hbk R _ _ _ hLX.box (by decide)
  have m3 : w4.cell? ⟨R, 3, none⟩ = some L.sv := by rw [cell_of_row w4 R _ _ _ _ hbR]; simp
  have mf3 : w4.frozen? ⟨R, 3, none⟩ = false := by simp [World.frozen?, hbR]
  have HPU : Hid (_ ∧ _) := hpush; have hx4 : w4.heap[w.heap.size]? = some (.cells #[.pointer (some ⟨R, 0, none⟩)] 118 (0, 0)) ∧ w4.heap[w.heap.size + 1]? = some (.cells #[.string nm, .slice (some ⟨b, 0, none⟩) len cap] 48 (0, 0)) ∧ w4.heap[w.heap.size + 1 + 1]? = some (.cells #[.int .i64 0] 3 (0, 0)) ∧ w4.heap[w.heap.size + 1 + 1 + 1]? = some (.cells #[.nilIface] 62 (0, 0)) := ⟨hbk _ _ _ _ hxX.1 (by decide), hbk _ _ _ _ hxX.2.1 (by decide), hbk _ _ _ _ hxX.2.2.1 (by decide), hbk _ _ _ _ hxX.2.2.2 (by decide)⟩; have HX4 : Hid (w4.heap[w.heap.size]? = some (.cells #[.pointer (some ⟨R, 0, none⟩)] 118 (0, 0)) ∧ w4.heap[w.heap.size + 1]? = some (.cells #[.string nm, .slice (some ⟨b, 0, none⟩) len cap] 48 (0, 0)) ∧ w4.heap[w.heap.size + 1 + 1]? = some (.cells #[.int .i64 0] 3 (0, 0)) ∧ w4.heap[w.heap.size + 1 + 1 + 1]? = some (.cells #[.nilIface] 62 (0, 0))) := hx4; refine hK.out _ _ (fun _ _ => ⟨hx4.1, hx4.2.1, m3⟩) ?_; clear hK K hown' hgrow hpush hbk hbR hLX hGX hbX hxX hx4; (try simp only [Act.put, List.setIfInBounds_toArray, List.set_cons_zero, List.set_cons_succ]); refine wpAnyZ_take' (i := 12) (v := ?vz10) rfl (by kernel_rfl) (by kernel_rfl) (by kernel_rfl) (fun _ _ _ h => h) (Or.inl ⟨by rfl, ?yz10⟩) ?rz10
  case yz10 => (intro w _; go_simp; first | done | with_reducible rfl)
  simp only [Act.put, List.setIfInBounds_toArray, List.set_cons_zero, List.set_cons_succ]; refine wpAnyZ_take' (i := 13) (v := ?vz11) rfl (by kernel_rfl) (by kernel_rfl) (by kernel_rfl) (fun _ _ _ h => h) (Or.inl ⟨by rfl, ?yz11⟩) ?rz11
  case yz11 => (intro w _; go_simp; first | done | with_reducible rfl)
  simp only [Act.put, List.setIfInBounds_toArray, List.set_cons_zero, List.set_cons_succ]; refine wpAnyZ_take' (i := 14) (v := ?vz12) rfl (by kernel_rfl) (by kernel_rfl) (by kernel_rfl) (fun _ _ _ h => h) (Or.inl ⟨by rfl, ?yz12⟩) ?rz12
  case yz12 => (intro w _; go_simp; first | done | with_reducible rfl)
  simp only [Act.put, List.setIfInBounds_toArray, List.set_cons_zero, List.set_cons_succ]; refine wpAnyZ_one' (i := 15) (by kernel_rfl) rfl (fun K hK => ?_); go_simp; refine hK.out _ _ (fun hc => (by cases hc)) ?_; clear hK K; (try simp only [Act.put, List.setIfInBounds_toArray, List.set_cons_zero, List.set_cons_succ]); refine wpAnyZ_done (by kernel_rfl) (NoPanic.normal ?_) _; have hRs : RowsW w R B (w4.setCell ⟨R, 3, none⟩ (.slice (some ⟨g', 0, none⟩) (L.S.length + 1) cap')) := (RowsW.of_grown0 HX1.out.2.1).trans HPU.out.2; have hLs := HPU.out.1; have hxs : (w4.setCell ⟨R, 3, none⟩ (.slice (some ⟨g', 0, none⟩) (L.S.length + 1) cap')).heap[w.heap.size]? = some (.cells #[.pointer (some ⟨R, 0, none⟩)] 118 (0, 0)) ∧ (w4.setCell ⟨R, 3, none⟩ (.slice (some ⟨g', 0, none⟩) (L.S.length + 1) cap')).heap[w.heap.size + 1]? = some (.cells #[.string nm, .slice (some ⟨b, 0, none⟩) len cap] 48 (0, 0)) ∧ (w4.setCell ⟨R, 3, none⟩ (.slice (some ⟨g', 0, none⟩) (L.S.length + 1) cap')).heap[w.heap.size + 1 + 1]? = some (.cells #[.int .i64 0] 3 (0, 0)) ∧ (w4.setCell ⟨R, 3, none⟩ (.slice (some ⟨g', 0, none⟩) (L.S.length + 1) cap')).heap[w.heap.size + 1 + 1 + 1]? = some (.cells #[.nilIface] 62 (0, 0)) := ⟨set_oth 3 _ (by have := HRW.out; omega) HX4.out.1, set_oth 3 _ (by have := HRW.out; omega) HX4.out.2.1, set_oth 3 _ (by have := HRW.out; omega) HX4.out.2.2.1, set_oth 3 _ (by have := HRW.out; omega) HX4.out.2.2.2⟩; generalize w4.setCell ⟨R, 3, none⟩ (.slice (some ⟨g', 0, none⟩) (L.S.length + 1) cap') = W1 at hRs hLs hxs ⊢; have hsz1 : w.heap.size + 1 + 1 + 1 < W1.heap.size := (Array.getElem?_eq_some_iff.1 hxs.2.2.2).1; have hsB := hRs.size; have c1 : W1.cell? ⟨w.heap.size + 1, 1, none⟩ = some (.slice (some ⟨b, 0, none⟩) len cap) := (cell_of_row W1 _ _ _ _ _ hxs.2.1).trans rfl; have HW1 : Hid (RowsW w R B W1 ∧ LogIn W1 R B (formCs S ++ [.int .i64 kp, .int .i64 dr]) { L with S := L.S ++ [(num, 0)], sv := .slice (some ⟨g', 0, none⟩) (L.S.length + 1) cap' } ∧ SegBox W1 w.heap.size R nm b len cap) := ⟨hRs, hLs, ⟨hxs.1, hxs.2.1, hxs.2.2.1, hxs.2.2.2⟩⟩; clear hRs hLs hxs HX1 HX4 HPU m3 mf3 H0 HB3 HSEG hS hsz0; go_wp2; have hG2 : W1.grownBy (W1.alloc (.cells #[.slice (some ⟨b, 0, none⟩) len cap, .int .i64 0, .int .i64 0] 120)) none := World.grownBy_alloc W1 _ _; have hS2 : ScanAt (W1.alloc (.cells #[.slice (some ⟨b, 0, none⟩) len cap, .int .i64 0, .int .i64 0] 120)) W1.heap.size (some ⟨b, 0, none⟩) len cap 0 0 := heap_alloc_new W1 _
  have hs2 : (W1.alloc (.cells #[.slice (some ⟨b, 0, none⟩) len cap, .int .i64 0, .int .i64 0] 120)).heap.size = W1.heap.size + 1 := by simp
  generalize W1.alloc (.cells #[.slice (some ⟨b, 0, none⟩) len cap, .int .i64 0, .int .i64 0] 120) = W2 at hG2 hS2 hs2 ⊢
  refine wp_range_bound rfl (enters_of Tryz.func59 (by kernel_rfl) rfl) fun fn => ?_
  generalize hL : loopRec fn _ _ _ _ W2.heap.size LoopState.ready = L0; have hG3 : W2.grownBy ((W2.alloc (.deferred (some []))).alloc (.loop L0)) none := grownBy_alloc (World.grownBy_alloc W2 _ _) _; have hl1 : ((W2.alloc (.deferred (some []))).alloc (.loop L0)).heap[W2.heap.size + 1]? = some (.loop L0) := heap_two W2 _ _; have hD1 : ((W2.alloc (.deferred (some []))).alloc (.loop L0)).heap[W2.heap.size]? = some (.deferred (some [])) := (Below.heap_alloc _ _ _ (by simp)).trans (heap_alloc_new W2 _)
  have hs3 : ((W2.alloc (.deferred (some []))).alloc (.loop L0)).heap.size = W2.heap.size + 1 + 1 := by simp
  generalize (W2.alloc (.deferred (some []))).alloc (.loop L0) = W3 at hG3 hl1 hD1 hs3 ⊢; have hG13 : W1.grownBy W3 none := grownBy_trans hG2 hG3; have hS3 : ScanAt W3 W1.heap.size (some ⟨b, 0, none⟩) len cap 0 0 := (hG3.block _ (by omega) (by simp)).trans hS2; rw [hs2] at hl1 hD1 hL hs3 ⊢; obtain ⟨Z, hZ⟩ : ∃ Z, W1.heap.size = Z := ⟨_, rfl⟩; rw [hZ] at hl1 hD1 hL hs3 hS3 hsz1 hsB ⊢; clear hZ hs2 hS2; have hRw3 : RowsW w R B W3 := rows_grown HW1.out.1 hG13; have hLg3 := HW1.out.2.1.grown0 hG13; have hbx3 := HW1.out.2.2.grown0 hG13; clear hG13 hG2 hG3 HW1 c1; have hRw := HRW.out
  refine (records_wide (Z + 1 + 1) Z b 0 len cap zs (SegJ w S R B kp dr L num Z L0 nm b len cap) (SegK w R B L num Z ad zs) hlc hm hm2 (by omega) (by omega) ?_ ?_ W3 0 hS3 (rows_slb hRw3 HH.out.1 (by omega) (by omega)) (rows_tab hRw3 HH.out.2.1 (by omega) (by omega))
    ⟨{ L with S := L.S ++ [(num, 0)], sv := .slice (some ⟨g', 0, none⟩) (L.S.length + 1) cap' }, 0, rfl, hLg3, rfl, by simp, hLg3.off (k := Z) hS3 (by omega) (fun c t f e => by injection e with _ e _; subst e; decide), hbx3, hl1, hD1, hRw3, by omega⟩).mono ?_
  · intro pre W W' hJ hg; exact hJ.grown hg (by omega)
  · rintro pre ty data g cp W4 W hpre hty hty2 hd8 hdc hdm hdz hJ hg hgs hOwn hslW hTW ⟨x, y, hSc⟩; obtain ⟨L', f', j1, j2, j3, j4, j5, j6, j7, j8, j9, j10⟩ := hJ
    have hgB : B ≤ g := by have := j9.size; omega
    have hdn : g ∉ L'.E.map En.g := by
      intro hc; obtain ⟨e, he, rfl⟩ := List.mem_map.1 hc; have := (j2.own e he).2.1.lt
      omega
    have k2 := j2.grownOff hg j5; have k6 := j6.grown hg (by omega); have k7 : W.heap[Z + 1 + 1]? = some (.loop L0) := (hg.block _ (by omega) (by simp <;> omega)).trans j7; have k8 : W.heap[Z + 1]? = some (.deferred (some [])) := (hg.block _ (by omega) (by simp <;> omega)).trans j8; have k9 : RowsW w R B W := rows_new j9 hg (by omega); have k10 := hg.size; have hgl := hOwn.lt
    have hgne : g ≠ Z + 1 + 1 := by
      intro hc; obtain ⟨-, cur, h9, -⟩ := hOwn; rw [hc, k7] at h9
      cases h9
    have HNX : Hid (rsteps num (decide (L.S = [])) L.pl true (pre ++ [(ty, data)]) = wstep L'.pl num (decide (L.S = [])) (decide (f' = 0)) ty data) := by
      show _ = _
      rw [rsteps_more j1, show decide (f' = 0) = decide (pre = []) by simp [j4]]
    have HB : Hid (LogIn W R B (formCs S ++ [.int .i64 kp, .int .i64 dr]) L' ∧ SegBox W w.heap.size R nm b len cap ∧ W.heap[Z + 1 + 1]? = some (.loop L0) ∧ W.heap[Z + 1]? = some (.deferred (some [])) ∧ RowsW w R B W ∧ Own W 5 g data ∧ ScanAt W Z (some ⟨b, 0, none⟩) len cap x y ∧ L'.S = L.S ++ [(num, f')] ∧ (pre ++ [(ty, data)]) <+: (scan zs).1) := ⟨k2, k6, k7, k8, k9, hOwn, hSc, j3, hpre⟩
    have hzW : Z + 3 ≤ W.heap.size := by omega
    clear j1 j2 j3 j4 j5 j6 j7 j8 j9 j10 k2 k6 k8 k9 k10 hg hpre hslW hTW hOwn hdz hgs hSc hD1 hl1 hs3 hS3 hRw3 hLg3 hbx3
    suffices HRR : ∀ RR : Ending → World → Prop, (∀ W' : World, SegJ w S R B kp dr L num Z L0 nm b len cap (pre ++ [(ty, data)]) W' → W'.heap[Z]? = W.heap[Z]? → RR (.returned (.bool true)) W') → (∀ W' : World, SegK w R B L num Z ad zs W' → RR (.returned (.bool false)) W') → YieldAt Fence.wide 0 Tryz.prog (Z + 1 + 1) #[.agg #[.int .i64 (ty : Int), .slice (some ⟨g, 0, none⟩) data.length cp]] W RR from HRR _ (fun W' h h2 => ⟨true, rfl, .inl ⟨rfl, h, h2, h.slb HH.out.1 (by omega) (by omega), h.tab HH.out.2.1 (by omega) (by omega)⟩⟩) (fun W' h => ⟨false, rfl, .inr ⟨rfl, h⟩⟩)
    intro RR hRt hRf; have HRt : Hid (∀ W' : World, SegJ w S R B kp dr L num Z L0 nm b len cap (pre ++ [(ty, data)]) W' → W'.heap[Z]? = W.heap[Z]? → RR (.returned (.bool true)) W') := hRt; have HRf : Hid (∀ W' : World, SegK w R B L num Z ad zs W' → RR (.returned (.bool false)) W') := hRf; clear hRt hRf
    refine yield_roundW hL k7 rfl fun Lb Ld hLd1 hLd2 => ?_
    gi_wp2
    refine ⟨(Below.heap_alloc _ _ _ (by omega)).trans k7, ?_⟩; obtain ⟨n, hn⟩ : ∃ n, data.length = n := ⟨_, rfl⟩; have HN : Hid (data.length = n) := hn; rw [hn] at hd8 hdc ⊢; clear hn
    have hBk : ((W.alloc (.cells #[.int .i64 (ty : Int), .slice (some ⟨g, 0, none⟩) n cp] 85)).putObj (Z + 1 + 1) (.loop Lb)).heap[W.heap.size]? = some (.cells #[.int .i64 (ty : Int), .slice (some ⟨g, 0, none⟩) n cp] 85 (0, 0)) :=
      (World.putObj_heap_other (by omega)).trans (heap_alloc_new W _)
    have hold : ∀ k, k < W.heap.size → k ≠ Z + 1 + 1 → ((W.alloc (.cells #[.int .i64 (ty : Int), .slice (some ⟨g, 0, none⟩) n cp] 85)).putObj (Z + 1 + 1) (.loop Lb)).heap[k]? = W.heap[k]? :=
      fun k hk hne => (World.putObj_heap_other hne).trans (Below.heap_alloc _ _ _ hk)
    have hlb : ((W.alloc (.cells #[.int .i64 (ty : Int), .slice (some ⟨g, 0, none⟩) n cp] 85)).putObj (Z + 1 + 1) (.loop Lb)).heap[Z + 1 + 1]? = some (.loop Lb) := World.putObj_heap_same (by simp; omega)
    have hs5 : ((W.alloc (.cells #[.int .i64 (ty : Int), .slice (some ⟨g, 0, none⟩) n cp] 85)).putObj (Z + 1 + 1) (.loop Lb)).heap.size = W.heap.size + 1 := by simp
    have hR5 : RowsW w R B ((W.alloc (.cells #[.int .i64 (ty : Int), .slice (some ⟨g, 0, none⟩) n cp] 85)).putObj (Z + 1 + 1) (.loop Lb)) := rows_put (rows_grown HB.out.2.2.2.2.1 (World.grownBy_alloc W _ _)) (by omega); have hL5 : LogIn ((W.alloc (.cells #[.int .i64 (ty : Int), .slice (some ⟨g, 0, none⟩) n cp] 85)).putObj (Z + 1 + 1) (.loop Lb)) R B (formCs S ++ [.int .i64 kp, .int .i64 dr]) L' := (HB.out.1.grown0 (World.grownBy_alloc W _ _)).putLoop (r := L0) ((Below.heap_alloc _ _ _ (by omega)).trans k7) _; have hX5 : SegBox ((W.alloc (.cells #[.int .i64 (ty : Int), .slice (some ⟨g, 0, none⟩) n cp] 85)).putObj (Z + 1 + 1) (.loop Lb)) w.heap.size R nm b len cap := (HB.out.2.1.grown0 (World.grownBy_alloc W _ _)).put (by omega); generalize (W.alloc (.cells #[.int .i64 (ty : Int), .slice (some ⟨g, 0, none⟩) n cp] 85)).putObj (Z + 1 + 1) (.loop Lb) = W5 at hBk hold hlb hs5 hR5 hL5 hX5 ⊢; have hO5 : Own W5 5 g data := HB.out.2.2.2.2.2.1.of_block (hold g hgl hgne); have hF5 : Forms W5 S := rows_forms hR5 HH.out.2.2.2.1 (by intro ty _ _; omega)
    have HCO : Hid (Calls Tryz.prog 61 #[.pointer (some ⟨R, 0, none⟩), .agg #[.int .i64 (ty : Int), .slice (some ⟨g, 0, none⟩) n cp]] W5 (Outc W5 R B (formCs S ++ [.int .i64 kp, .int .i64 dr]) L.S num (wstep L'.pl num (decide (L.S = [])) (decide (f' = 0)) ty data))) := by
      have h9 := carryOut_any S ty R B [.int .i64 kp, .int .i64 dr] L' L.S num f' W5 g cp data hL5 hF5 HB.out.2.2.2.2.2.2.2.1 hty hty2 hO5 hgB hdn (by rw [HN.out]; exact hdc) hdm (by rw [HN.out]; exact hd8); rw [HN.out] at h9; exact h9
    have H5 : Hid (RowsW w R B W5 ∧ SegBox W5 w.heap.size R nm b len cap ∧ W5.heap[Z + 1 + 1]? = some (.loop Lb) ∧ W5.heap[Z + 1]? = some (.deferred (some [])) ∧ ScanAt W5 Z (some ⟨b, 0, none⟩) len cap x y ∧ W5.heap[Z]? = W.heap[Z]?) := ⟨hR5, hX5, hlb, (hold _ (by omega) (by omega)).trans HB.out.2.2.2.1, (hold Z (by omega) (by omega)).trans HB.out.2.2.2.2.2.2.1, hold Z (by omega) (by omega)⟩; have p0 : W5.cell? ⟨w.heap.size, 0, none⟩ = some (.pointer (some ⟨R, 0, none⟩)) := (cell_of_row W5 _ _ _ _ _ hX5.ptr).trans rfl; obtain ⟨Y, hY⟩ : ∃ Y, W.heap.size = Y := ⟨_, rfl⟩; rw [hY] at hBk hs5 hzW hgl ⊢; have p1 : W5.cell? ⟨Y, 0, none⟩ = some (.int .i64 (ty : Int)) := (cell_of_row W5 _ _ _ _ _ hBk).trans rfl; have p2 : W5.cell? ⟨Y, 1, none⟩ = some (.slice (some ⟨g, 0, none⟩) n cp) := (cell_of_row W5 _ _ _ _ _ hBk).trans rfl; clear hBk hold hlb hR5 hL5 hX5 hO5 hF5 hY k7
    gi_wp2_with fail
    refine ⟨trivial, rfl, ?_⟩; refine ((callsIn_wide (n := 0)).2 HCO.out).mono ?_; rintro e w9 ⟨hR9, ⟨L2, f2, o1, rfl, o2, o3, o4⟩ | ⟨o1, rfl⟩⟩
    · have hS9 : ScanAt w9 Z (some ⟨b, 0, none⟩) len cap x y := hR9.keep H5.out.2.2.2.2.1 (by omega) (.inr (fun c t f e => by injection e with _ e _; subst e; decide)); have hl9 : w9.heap[Z + 1 + 1]? = some (.loop Lb) := hR9.keep H5.out.2.2.1 (by omega) (.inr (fun c t f e => by cases e)); have hd9 : w9.heap[Z + 1]? = some (.deferred (some [])) := hR9.keep H5.out.2.2.2.1 (by omega) (.inr (fun c t f e => by cases e)); have hs9 := hR9.size
      have hJ9 : SegJ w S R B kp dr L num Z L0 nm b len cap (pre ++ [(ty, data)]) (w9.putObj (Z + 1 + 1) (.loop L0)) :=
        ⟨L2, f2, HNX.out.trans o1, o2.putLoop hl9 _, o3, by simp [o4], o2.off hS9 (by omega) (fun c t f e => by injection e with _ e _; subst e; decide), (H5.out.2.1.rows hR9 (by omega)).put (by omega), World.putObj_heap_same (Array.getElem?_eq_some_iff.1 hl9).1, (World.putObj_heap_other (by omega)).trans hd9, rows_put (H5.out.1.trans hR9) (by omega), by simp; omega⟩
      have HF : Hid (w9.heap[Z + 1 + 1]? = some (.loop Lb) ∧ RR (.returned (.bool true)) (w9.putObj (Z + 1 + 1) (.loop L0))) := ⟨hl9, HRt.out _ hJ9 ((World.putObj_heap_other (by omega)).trans ((show w9.heap[Z]? = W5.heap[Z]? from hS9.trans H5.out.2.2.2.2.1.symm).trans H5.out.2.2.2.2.2))⟩; clear o1 o2 o3 o4 hJ9 hS9 hl9 hd9 hR9 HCO p0 p1 p2
      gi_wp2
      first
        | exact .inl ⟨rfl, HF.out.1, HF.out.2⟩
        | exact HF.out
    · have hx9 := H5.out.2.1.rows hR9 (by omega); have hr9 := H5.out.1.trans hR9; have hl9 : w9.heap[Z + 1 + 1]? = some (.loop Lb) := hR9.keep H5.out.2.2.1 (by omega) (.inr (fun c t f e => by cases e)); have hd9 : w9.heap[Z + 1]? = some (.deferred (some [])) := hR9.keep H5.out.2.2.2.1 (by omega) (.inr (fun c t f e => by cases e)); have hnn := rsteps_none HB.out.2.2.2.2.2.2.2.2 (HNX.out.trans o1)
      have HF : Hid (∀ X : World, SegEnd w w9 X R B ad → X.heap[Z + 1 + 1]? = some (.loop Lb) ∧ RR (.returned (.bool false)) (X.putObj (Z + 1 + 1) (.loop Ld))) := fun X hX => by
        obtain ⟨h1, h2⟩ := hX.leaves (L := L) (num := num) (zs := zs) hl9 hd9 (by omega) hLd1 hLd2 hnn; exact ⟨h1, HRf.out _ h2⟩
      have HE9 : Hid (w9.cell? ⟨0, 0, none⟩ = some (.iface 177 (.pointer (some ad)))) := rows_cell hr9 HH.out.2.2.2.2.2 (by omega) (by omega); have HX9 : Hid (SegBox w9 w.heap.size R nm b len cap ∧ RowsW w R B w9) := ⟨hx9, hr9⟩; clear o1 hl9 hd9 hnn hR9 HCO p0 p1 p2
      gi_wp2
      refine wpIn_region_Z (fun V => V.cell? ⟨0, 0, none⟩ = some (.iface 177 (.pointer (some ad)))) (fun _ => false) (by kernel_rfl) (by kernel_rfl) (by rintro ⟨_, _, hq⟩; rcases hq with ⟨hq, _⟩ | ⟨hq, _⟩ <;> cases hq) ?_; have hS : w9.drew.cell? ⟨0, 0, none⟩ = some (.iface 177 (.pointer (some ad))) := HE9.out; have z1 : w9.cell? ⟨w.heap.size + 1 + 1, 0, none⟩ = some (.int .i64 0) := (cell_of_row w9 _ _ _ _ _ HX9.out.1.ri).trans rfl
      have z2 : w9.frozen? ⟨w.heap.size + 1 + 1, 0, none⟩ = false := by simp [World.frozen?, HX9.out.1.ri]
      have z3 : w9.cell? ⟨w.heap.size + 1 + 1 + 1, 0, none⟩ = some .nilIface := (cell_of_row w9 _ _ _ _ _ HX9.out.1.re).trans rfl
      have z4 : w9.frozen? ⟨w.heap.size + 1 + 1 + 1, 0, none⟩ = false := by simp [World.frozen?, HX9.out.1.re]
      have HZ : Hid (SegEnd w w9 ((w9.setCell ⟨w.heap.size + 1 + 1, 0, none⟩ (.int .i64 0)).setCell ⟨w.heap.size + 1 + 1 + 1, 0, none⟩ (.iface 177 (.pointer (some ad)))).drew R B ad) := (segEnd1 HX9.out.1 HX9.out.2).drewX; refine wpAnyZ_loadS (i := 0) (v := ?vz13) rfl (by kernel_rfl) (by kernel_rfl) (by kernel_rfl) (fun _ _ _ h => h) (fun _ => rfl) (Or.inl ⟨by rfl, ?yz13⟩) hS ?rz13
      case yz13 => (intro W hW; have c0 : W.cell? ⟨0, 0, none⟩ = some (.iface 177 (.pointer (some ad))) := hW; go_simp; first | done | with_reducible rfl)
      simp only [Act.put, List.setIfInBounds_toArray, List.set_cons_zero, List.set_cons_succ]; refine wpAnyZ_one' (i := 1) (by kernel_rfl) rfl (fun K hK => ?_); go_simp; refine hK.out _ _ (fun _ h => (World.cell?_of_block (heap_setCell_other _ ⟨w.heap.size + 1 + 1, 0, none⟩ 0 _ (by show 0 ≠ w.heap.size + 1 + 1; omega))).trans h) ?_; clear hK K; (try simp only [Act.put, List.setIfInBounds_toArray, List.set_cons_zero, List.set_cons_succ]); refine wpAnyZ_one' (i := 2) (by kernel_rfl) rfl (fun K hK => ?_); go_simp; refine hK.out _ _ (fun _ h => (World.cell?_of_block (heap_setCell_other _ ⟨w.heap.size + 1 + 1 + 1, 0, none⟩ 0 _ (by show 0 ≠ w.heap.size + 1 + 1 + 1; omega))).trans h) ?_; clear hK K; (try simp only [Act.put, List.setIfInBounds_toArray, List.set_cons_zero, List.set_cons_succ]); refine wpAnyZ_done (by kernel_rfl) ?_ _
      gi_wp2
      have hX := HF.out _ HZ.out
      first | exact .inr ⟨rfl, hX.1, hX.2⟩ | exact hX
  · rintro e W' ⟨⟨ve, rfl⟩, ⟨hJ, hSc⟩ | hK⟩
    · obtain ⟨L', f', j1, j2, j3, j4, j5, j6, j7, j8, j9, j10⟩ := hJ
      have hpn : L0.pending = none := by rw [← hL]; rfl
      have hbz : L0.state ≠ .busy := by rw [← hL]; simp [loopRec]
      have hrun := (run_endLoop (P := Tryz.prog) j7 hbz).trans (congrArg (fun q => Result.ok q (W'.putObj (Z + 1 + 1) (.loop { L0 with state := .exhausted }))) hpn); refine ⟨none, W'.putObj (Z + 1 + 1) (.loop { L0 with state := .exhausted }), hrun, ?_⟩; have k2 : LogIn (W'.putObj (Z + 1 + 1) (.loop { L0 with state := .exhausted })) R B (formCs S ++ [.int .i64 kp, .int .i64 dr]) L' := j2.putLoop j7 _; have k6 : SegBox (W'.putObj (Z + 1 + 1) (.loop { L0 with state := .exhausted })) w.heap.size R nm b len cap := j6.put (by omega); have k8 : (W'.putObj (Z + 1 + 1) (.loop { L0 with state := .exhausted })).heap[Z + 1]? = some (.deferred (some [])) := (World.putObj_heap_other (by omega)).trans j8; have k9 : RowsW w R B (W'.putObj (Z + 1 + 1) (.loop { L0 with state := .exhausted })) := rows_put j9 (by omega); have k10 : ScanAt (W'.putObj (Z + 1 + 1) (.loop { L0 with state := .exhausted })) Z (some ⟨b, 0, none⟩) len cap (((scan zs).2.1 : Nat) : Int) (((scan zs).2.2 : Nat) : Int) := (World.putObj_heap_other (by omega)).trans hSc; generalize W'.putObj (Z + 1 + 1) (.loop { L0 with state := .exhausted }) = W4 at k2 k6 k8 k9 k10 ⊢; clear hrun hpn hbz hL hl1 hD1 hs3 hS3 hRw3 hLg3 hbx3 j2 j5 j6 j7 j8 j9 j10 hSc; obtain ⟨g, scap, hsv, hgB, q0, q1, qf, hgl⟩ := k2.svAt j3
      have hln : L.S.length ≤ 1000 := by omega
      obtain ⟨sn, hsn⟩ : ∃ sn, L.S.length = sn := ⟨_, rfl⟩; rw [hsn] at hsv q0 q1 hln
      have HCU : Hid (∀ w' : World, w'.heap = W4.heap → Calls _ _ _ w' _) := fun w' hh => current_any R B (formCs S ++ [.int .i64 kp, .int .i64 dr]) L' w' (k2.heap hh) g sn scap hsv hln
      have p0 : W4.cell? ⟨w.heap.size, 0, none⟩ = some (.pointer (some ⟨R, 0, none⟩)) := (cell_of_row W4 _ _ _ _ _ k6.ptr).trans rfl; have HJ : Hid (rsteps num (decide (L.S = [])) L.pl true (scan zs).1 = some L'.pl ∧ LogIn W4 R B (formCs S ++ [.int .i64 kp, .int .i64 dr]) L' ∧ L'.S = L.S ++ [(num, f')] ∧ (f' = 0 ↔ (scan zs).1 = []) ∧ SegBox W4 w.heap.size R nm b len cap ∧ W4.heap[Z + 1]? = some (.deferred (some [])) ∧ RowsW w R B W4 ∧ ScanAt W4 Z (some ⟨b, 0, none⟩) len cap (((scan zs).2.1 : Nat) : Int) (((scan zs).2.2 : Nat) : Int) ∧ W4.cell? ⟨g, sn * 2 + 1, none⟩ = some (.int .i64 (f' : Int))) := ⟨j1, k2, j3, j4, k6, k8, k9, k10, q1⟩; clear j1 j3 j4 k2 k6 k8 k9 k10 q0 q1 qf hsv hsn; go_wp2_with fail; refine (HCU.out W4 rfl).mono ?_; rintro e w1 ⟨rfl, m, rfl⟩; have HJ5 : Hid (rsteps num (decide (L.S = [])) L.pl true (scan zs).1 = some L'.pl ∧ LogIn (W4.drewN m) R B (formCs S ++ [.int .i64 kp, .int .i64 dr]) L' ∧ L'.S = L.S ++ [(num, f')] ∧ (f' = 0 ↔ (scan zs).1 = []) ∧ SegBox (W4.drewN m) w.heap.size R nm b len cap ∧ (W4.drewN m).heap[Z + 1]? = some (.deferred (some [])) ∧ RowsW w R B (W4.drewN m) ∧ ScanAt (W4.drewN m) Z (some ⟨b, 0, none⟩) len cap (((scan zs).2.1 : Nat) : Int) (((scan zs).2.2 : Nat) : Int)) := ⟨HJ.out.1, HJ.out.2.1.heap rfl, HJ.out.2.2.1, HJ.out.2.2.2.1, ⟨HJ.out.2.2.2.2.1.ptr, HJ.out.2.2.2.2.1.fil, HJ.out.2.2.2.2.1.ri, HJ.out.2.2.2.2.1.re⟩, HJ.out.2.2.2.2.2.1, HJ.out.2.2.2.2.2.2.1.drewN, HJ.out.2.2.2.2.2.2.2.1⟩; have q1 : (W4.drewN m).cell? ⟨g, sn * 2 + 1, none⟩ = some (.int .i64 (f' : Int)) := HJ.out.2.2.2.2.2.2.2.2; generalize W4.drewN m = w9 at HJ5 q1 ⊢; have z1 : w9.cell? ⟨w.heap.size + 1 + 1, 0, none⟩ = some (.int .i64 0) := (cell_of_row w9 _ _ _ _ _ HJ5.out.2.2.2.2.1.ri).trans rfl
      have z2 : w9.frozen? ⟨w.heap.size + 1 + 1, 0, none⟩ = false := by simp [World.frozen?, HJ5.out.2.2.2.2.1.ri]
      have z3 : w9.cell? ⟨w.heap.size + 1 + 1 + 1, 0, none⟩ = some .nilIface := (cell_of_row w9 _ _ _ _ _ HJ5.out.2.2.2.2.1.re).trans rfl
      have z4 : w9.frozen? ⟨w.heap.size + 1 + 1 + 1, 0, none⟩ = false := by simp [World.frozen?, HJ5.out.2.2.2.2.1.re]
      clear HCU HJ p0
      rcases Classical.em (f' = 0) with hf0 | hf0
      · have df : ((f' : Int) == 0) = true := by rw [beq_iff_eq]; omega
        have HFZ : Hid (f' = 0) := hf0; have HE9 : Hid (w9.cell? ⟨0, 0, none⟩ = some (.iface 177 (.pointer (some ad)))) := rows_cell HJ5.out.2.2.2.2.2.2.1 HH.out.2.2.2.2.2 (by omega) (by omega); have HZ : Hid (SegEnd w w9 ((w9.setCell ⟨w.heap.size + 1 + 1, 0, none⟩ (.int .i64 0)).setCell ⟨w.heap.size + 1 + 1 + 1, 0, none⟩ (.iface 177 (.pointer (some ad)))).drew R B ad) := (segEnd1 HJ5.out.2.2.2.2.1 HJ5.out.2.2.2.2.2.2.1).drewX; clear hf0; go_wp2; refine wp_region_noPanic ?_; refine wp_region_Z (fun V => V.cell? ⟨0, 0, none⟩ = some (.iface 177 (.pointer (some ad)))) (fun _ => false) (by kernel_rfl) ?_; have hS : w9.drew.cell? ⟨0, 0, none⟩ = some (.iface 177 (.pointer (some ad))) := HE9.out; refine wpAnyZ_loadS (i := 0) (v := ?vz14) rfl (by kernel_rfl) (by kernel_rfl) (by kernel_rfl) (fun _ _ _ h => h) (fun _ => rfl) (Or.inl ⟨by rfl, ?yz14⟩) hS ?rz14
        case yz14 => (intro W hW; have c0 : W.cell? ⟨0, 0, none⟩ = some (.iface 177 (.pointer (some ad))) := hW; go_simp; first | done | with_reducible rfl)
        simp only [Act.put, List.setIfInBounds_toArray, List.set_cons_zero, List.set_cons_succ]; refine wpAnyZ_one' (i := 1) (by kernel_rfl) rfl (fun K hK => ?_); go_simp; refine hK.out _ _ (fun _ h => (World.cell?_of_block (heap_setCell_other _ ⟨w.heap.size + 1 + 1, 0, none⟩ 0 _ (by show 0 ≠ w.heap.size + 1 + 1; omega))).trans h) ?_; clear hK K; (try simp only [Act.put, List.setIfInBounds_toArray, List.set_cons_zero, List.set_cons_succ]); refine wpAnyZ_one' (i := 2) (by kernel_rfl) rfl (fun K hK => ?_); go_simp; refine hK.out _ _ (fun _ h => (World.cell?_of_block (heap_setCell_other _ ⟨w.heap.size + 1 + 1 + 1, 0, none⟩ 0 _ (by show 0 ≠ w.heap.size + 1 + 1 + 1; omega))).trans h) ?_; clear hK K; (try simp only [Act.put, List.setIfInBounds_toArray, List.set_cons_zero, List.set_cons_succ]); refine wpAnyZ_done (by kernel_rfl) (NoPanic.normal ?_) _; have hZ9 := HZ.out; generalize ((w9.setCell ⟨w.heap.size + 1 + 1, 0, none⟩ (.int .i64 0)).setCell ⟨w.heap.size + 1 + 1 + 1, 0, none⟩ (.iface 177 (.pointer (some ad)))).drew = X at hZ9 ⊢; have hD4 : X.heap[Z + 1]? = some (.deferred (some [])) := (hZ9.oth _ (by omega) (by omega)).trans HJ5.out.2.2.2.2.2.1; clear z1 z2 z3 z4 HZ; go_wp2; refine ⟨by simp, .inl ⟨_, _, rfl, run_takeDeferred (w := X) hD4, ?_⟩⟩; have hb6 : (X.putObj (Z + 1) (.deferred none)).heap[w.heap.size + 1 + 1]? = some (.cells #[.int .i64 0] 3 (0, 0)) := (World.putObj_heap_other (by omega)).trans hZ9.ri; have hb7 : (X.putObj (Z + 1) (.deferred none)).heap[w.heap.size + 1 + 1 + 1]? = some (.cells #[.iface 177 (.pointer (some ad))] 62 (0, 0)) := (World.putObj_heap_other (by omega)).trans hZ9.re; have c6 : (X.putObj (Z + 1) (.deferred none)).cell? ⟨w.heap.size + 1 + 1, 0, none⟩ = some (.int .i64 0) := (cell_of_row _ _ _ _ _ _ hb6).trans rfl; have c7 : (X.putObj (Z + 1) (.deferred none)).cell? ⟨w.heap.size + 1 + 1 + 1, 0, none⟩ = some (.iface 177 (.pointer (some ad))) := (cell_of_row _ _ _ _ _ _ hb7).trans rfl; exact ⟨.tuple #[.int .i64 0, .iface 177 (.pointer (some ad))], by simp [results, Tryz.results41, go_sem, c6, c7], rows_put hZ9.rows (by omega), .inr ⟨.inr (HJ5.out.2.2.2.1.1 HFZ.out), rfl⟩⟩
      · have df : ((f' : Int) == 0) = false := by rw [beq_eq_false_iff_ne]; omega
        have HFZ : Hid (f' ≠ 0) := hf0; clear hf0; obtain ⟨va, hva⟩ : ∃ x, (scan zs).2.1 = x := ⟨_, rfl⟩; obtain ⟨re, hre⟩ : ∃ x, (scan zs).2.2 = x := ⟨_, rfl⟩; have HVR : Hid ((scan zs).2.1 = va ∧ (scan zs).2.2 = re) := ⟨hva, hre⟩; have hSc := HJ5.out.2.2.2.2.2.2.2; rw [hva, hre] at hSc; obtain ⟨y0, y1, y2, -, -⟩ := hSc.cells; have p0 : w9.cell? ⟨w.heap.size, 0, none⟩ = some (.pointer (some ⟨R, 0, none⟩)) := (cell_of_row w9 _ _ _ _ _ HJ5.out.2.2.2.2.1.ptr).trans rfl
        have x28 : w9.cell? ⟨R, 28, none⟩ = some (.int .i64 kp) := by rw [cell_of_row w9 R _ _ _ _ HJ5.out.2.1.box]; rfl
        have xf : w9.frozen? ⟨R, 28, none⟩ = false := HJ5.out.2.1.cells.2.2.2.2.1 28; have HLK := HJ5.out.2.1.setKeep (va : Int); have hxr : (w9.setCell ⟨R, 28, none⟩ (.int .i64 (va : Int))).heap[w.heap.size + 1 + 1]? = some (.cells #[.int .i64 0] 3 (0, 0)) := set_oth 28 _ (by omega) HJ5.out.2.2.2.2.1.ri; have hxe : (w9.setCell ⟨R, 28, none⟩ (.int .i64 (va : Int))).heap[w.heap.size + 1 + 1 + 1]? = some (.cells #[.nilIface] 62 (0, 0)) := set_oth 28 _ (by omega) HJ5.out.2.2.2.2.1.re; have hxd : (w9.setCell ⟨R, 28, none⟩ (.int .i64 (va : Int))).heap[Z + 1]? = some (.deferred (some [])) := set_oth 28 _ (by omega) HJ5.out.2.2.2.2.2.1; have hxw : RowsW w R B (w9.setCell ⟨R, 28, none⟩ (.int .i64 (va : Int))) := HJ5.out.2.2.2.2.2.2.1.trans (RowsW.of_box (grownBy_setCell (grownBy_refl _ _))); have HK : Hid (_ ∧ _ ∧ _ ∧ _ ∧ _) := And.intro HLK (And.intro hxr (And.intro hxe (And.intro hxd hxw))); clear hSc hva hre HLK hxr hxe hxd hxw y0; go_wp2; obtain ⟨h1, h2, h3, h4, h5⟩ := HK.out; generalize w9.setCell ⟨R, 28, none⟩ (.int .i64 (va : Int)) = Y1 at h1 h2 h3 h4 h5 ⊢; have o1 := h1.off (k := w.heap.size + 1 + 1) h2 (by omega) (fun c t f e => by injection e with _ e _; subst e; decide); have o2 := h1.off (k := w.heap.size + 1 + 1 + 1) h3 (by omega) (fun c t f e => by injection e with _ e _; subst e; decide); have g1 : LogIn (Y1.setCell ⟨w.heap.size + 1 + 1, 0, none⟩ (.int .i64 (re : Int))) R B (formCs S ++ [.int .i64 (va : Int), .int .i64 dr]) L' := h1.grownOff (grownBy_setCell (grownBy_refl _ _)) o1; have i1 : (Y1.setCell ⟨w.heap.size + 1 + 1, 0, none⟩ (.int .i64 (re : Int))).heap[w.heap.size + 1 + 1]? = some (.cells #[.int .i64 (re : Int)] 3 (0, 0)) := set_blk 0 _ h2; have i2 : (Y1.setCell ⟨w.heap.size + 1 + 1, 0, none⟩ (.int .i64 (re : Int))).heap[w.heap.size + 1 + 1 + 1]? = some (.cells #[.nilIface] 62 (0, 0)) := set_oth 0 _ (by omega) h3; have i3 : (Y1.setCell ⟨w.heap.size + 1 + 1, 0, none⟩ (.int .i64 (re : Int))).heap[Z + 1]? = some (.deferred (some [])) := set_oth 0 _ (by omega) h4; have i4 : RowsW w R B (Y1.setCell ⟨w.heap.size + 1 + 1, 0, none⟩ (.int .i64 (re : Int))) := rows_set h5 (by omega); generalize Y1.setCell ⟨w.heap.size + 1 + 1, 0, none⟩ (.int .i64 (re : Int)) = Y2 at g1 i1 i2 i3 i4 ⊢; have g2 : LogIn (Y2.setCell ⟨w.heap.size + 1 + 1 + 1, 0, none⟩ .nilIface) R B (formCs S ++ [.int .i64 (va : Int), .int .i64 dr]) L' := g1.grownOff (grownBy_setCell (grownBy_refl _ _)) o2; have l1 : (Y2.setCell ⟨w.heap.size + 1 + 1 + 1, 0, none⟩ .nilIface).heap[w.heap.size + 1 + 1]? = some (.cells #[.int .i64 (re : Int)] 3 (0, 0)) := set_oth 0 _ (by omega) i1; have l2 : (Y2.setCell ⟨w.heap.size + 1 + 1 + 1, 0, none⟩ .nilIface).heap[w.heap.size + 1 + 1 + 1]? = some (.cells #[.nilIface] 62 (0, 0)) := set_blk 0 _ i2; have l3 : (Y2.setCell ⟨w.heap.size + 1 + 1 + 1, 0, none⟩ .nilIface).heap[Z + 1]? = some (.deferred (some [])) := set_oth 0 _ (by omega) i3; have l4 : RowsW w R B (Y2.setCell ⟨w.heap.size + 1 + 1 + 1, 0, none⟩ .nilIface) := rows_set i4 (by omega); generalize Y2.setCell ⟨w.heap.size + 1 + 1 + 1, 0, none⟩ .nilIface = X at g2 l1 l2 l3 l4 ⊢; refine ⟨by simp, .inl ⟨_, _, rfl, run_takeDeferred (w := X) l3, ?_⟩⟩; have hb6 : (X.putObj (Z + 1) (.deferred none)).heap[w.heap.size + 1 + 1]? = some (.cells #[.int .i64 (re : Int)] 3 (0, 0)) := (World.putObj_heap_other (by omega)).trans l1; have hb7 : (X.putObj (Z + 1) (.deferred none)).heap[w.heap.size + 1 + 1 + 1]? = some (.cells #[.nilIface] 62 (0, 0)) := (World.putObj_heap_other (by omega)).trans l2; have c6 : (X.putObj (Z + 1) (.deferred none)).cell? ⟨w.heap.size + 1 + 1, 0, none⟩ = some (.int .i64 (re : Int)) := (cell_of_row _ _ _ _ _ _ hb6).trans rfl; have c7 : (X.putObj (Z + 1) (.deferred none)).cell? ⟨w.heap.size + 1 + 1 + 1, 0, none⟩ = some .nilIface := (cell_of_row _ _ _ _ _ _ hb7).trans rfl; have g3 : LogIn (X.putObj (Z + 1) (.deferred none)) R B (formCs S ++ [.int .i64 (va : Int), .int .i64 dr]) L' := g2.kept2 (fun k cur t f hk => (World.putObj_heap_other (fun e => by subst e; rw [l3] at hk; cases hk)).trans hk); refine ⟨.tuple #[.int .i64 (re : Int), .nilIface], by simp [results, Tryz.results41, go_sem, c6, c7], rows_put l4 (by omega), .inl ⟨L', f', HJ5.out.1, fun hc => HFZ.out (HJ5.out.2.2.2.1.2 hc), ?_, ?_, HJ5.out.2.2.1⟩⟩
        · rw [HVR.out.2]
        · rw [HVR.out.1]; exact g3
    · obtain ⟨Lq, ⟨hq1, hq2⟩, hl3, hD3, hri, hre, hrw, hnn⟩ := hK; have hrun := (run_endLoop (P := Tryz.prog) hl3 (by rw [hq2]; simp)).trans (congrArg (fun q => Result.ok q (W'.putObj (Z + 1 + 1) (.loop { Lq with state := .exhausted }))) hq1); refine ⟨some .ret, W'.putObj (Z + 1 + 1) (.loop { Lq with state := .exhausted }), hrun, ?_⟩; have hi4 : (W'.putObj (Z + 1 + 1) (.loop { Lq with state := .exhausted })).heap[w.heap.size + 1 + 1]? = some (.cells #[.int .i64 0] 3 (0, 0)) := (World.putObj_heap_other (by omega)).trans hri; have he4 : (W'.putObj (Z + 1 + 1) (.loop { Lq with state := .exhausted })).heap[w.heap.size + 1 + 1 + 1]? = some (.cells #[.iface 177 (.pointer (some ad))] 62 (0, 0)) := (World.putObj_heap_other (by omega)).trans hre; have hD4 : (W'.putObj (Z + 1 + 1) (.loop { Lq with state := .exhausted })).heap[Z + 1]? = some (.deferred (some [])) := (World.putObj_heap_other (by omega)).trans hD3; have hr4 : RowsW w R B (W'.putObj (Z + 1 + 1) (.loop { Lq with state := .exhausted })) := rows_put hrw (by omega); generalize W'.putObj (Z + 1 + 1) (.loop { Lq with state := .exhausted }) = W5 at hi4 he4 hD4 hr4 ⊢; clear hrun hl3 hL hl1 hD1 hD3 hri hre hrw; refine wpIn_wide.2 ?_; go_wp2; refine ⟨by simp, .inl ⟨_, _, rfl, run_takeDeferred (w := W5) hD4, ?_⟩⟩; have hb6 : (W5.putObj (Z + 1) (.deferred none)).heap[w.heap.size + 1 + 1]? = some (.cells #[.int .i64 0] 3 (0, 0)) := (World.putObj_heap_other (by omega)).trans hi4; have hb7 : (W5.putObj (Z + 1) (.deferred none)).heap[w.heap.size + 1 + 1 + 1]? = some (.cells #[.iface 177 (.pointer (some ad))] 62 (0, 0)) := (World.putObj_heap_other (by omega)).trans he4; have c6 : (W5.putObj (Z + 1) (.deferred none)).cell? ⟨w.heap.size + 1 + 1, 0, none⟩ = some (.int .i64 0) := (cell_of_row _ _ _ _ _ _ hb6).trans rfl; have c7 : (W5.putObj (Z + 1) (.deferred none)).cell? ⟨w.heap.size + 1 + 1 + 1, 0, none⟩ = some (.iface 177 (.pointer (some ad))) := (cell_of_row _ _ _ _ _ _ hb7).trans rfl; exact ⟨.tuple #[.int .i64 0, .iface 177 (.pointer (some ad))], by simp [results, Tryz.results41, go_sem, c6, c7], rows_put hr4 (by omega), .inr ⟨.inl hnn, rfl⟩⟩
theorem Tryz.infoFile : (Tryz.prog.info? 48).map (fun i => (i.zero, i.size, i.bytes)) = some (some (.agg #[.string ⟨#[]⟩, .slice none 0 0]), 2, 40) := by kernel_rfl
/-- a file as it lies -/
structure Fi where
  s : ByteArray
  d : List Nat
  b : Nat
  p : Nat
def Fi.cells (f : Fi) : List Value := [.string f.s, .slice (some ⟨f.b, 0, none⟩) f.d.length f.p]
def Fi.num (f : Fi) : Nat := (nameR0 f.s walB).toNat
theorem nameR0_nn (s p : ByteArray) : 0 ≤ nameR0 s p := by unfold nameR0; split <;> omega
theorem Fi.num_eq (f : Fi) : nameR0 f.s walB = (f.num : Int) := by have := nameR0_nn f.s walB; unfold Fi.num; omega
/-- files in a row -/
structure ImgAt (w : World) (a : Option Addr) (F : List Fi) : Prop where
  cells : ∀ k f, F[k]? = some f → ∃ b off, a = some ⟨b, off, none⟩ ∧ w.cell? ⟨b, off + k * 2, none⟩ = some (.string f.s) ∧ w.cell? ⟨b, off + k * 2 + 1, none⟩ = some (.slice (some ⟨f.b, 0, none⟩) f.d.length f.p)
  data : ∀ f ∈ F, SlB w (some ⟨f.b, 0, none⟩) f.d.length f.d ∧ f.d.length ≤ f.p ∧ f.p ≤ maxLen ∧ f.s.size ≤ 1048576 ∧ f.d.length ≤ 1048576 ∧ f.b < w.heap.size
theorem ImgAt.grown0 {w w' : World} {a : Option Addr} {F : List Fi} (h : ImgAt w a F) (hg : w.grownBy w' none) : ImgAt w' a F := by
  obtain ⟨hcell, -⟩ := bcell hg; refine ⟨fun k f hk => ?_, fun f hf => ?_⟩
  · obtain ⟨b, off, h1, h2, h3⟩ := h.cells k f hk; exact ⟨b, off, h1, (hcell _ _ (cell_block_lt h2)).trans h2, (hcell _ _ (cell_block_lt h3)).trans h3⟩
  · obtain ⟨h1, h2, h3, h4, h5, h6⟩ := h.data f hf; exact ⟨h1.grown0 hg, h2, h3, h4, h5, Nat.lt_of_lt_of_le h6 hg.size⟩
/-- the segments among them -/
def segF (F : List Fi) : List Fi := F.filter (fun f => decide (0 < f.num))
theorem segF_snoc (F : List Fi) (f : Fi) : segF (F ++ [f]) = if 0 < f.num then segF F ++ [f] else segF F := by
  by_cases h : 0 < f.num <;> simp [segF, h]
theorem segF_len (F : List Fi) : (segF F).length ≤ F.length := by unfold segF; exact List.length_filter_le _ _
theorem flatF_len (F : List Fi) : (F.flatMap Fi.cells).length = F.length * 2 := by
  induction F with
  | nil => rfl
  | cons f F ih => simp only [List.flatMap_cons, List.length_append, ih, List.length_cons, Fi.cells, List.length_nil]; omega
theorem imgAt_own {w' : World} {B n : Nat} {v : Value} {F : List Fi} (h : w'.ownsRow B 48 2 v F.length (F.flatMap Fi.cells)) (hn : n = F.length) (hd : ∀ f ∈ F, SlB w' (some ⟨f.b, 0, none⟩) f.d.length f.d ∧ f.d.length ≤ f.p ∧ f.p ≤ maxLen ∧ f.s.size ≤ 1048576 ∧ f.d.length ≤ 1048576 ∧ f.b < w'.heap.size) :
    ∃ a cp, v = .slice a n cp ∧ ImgAt w' a F ∧ n ≤ cp ∧ cp ≤ maxLen ∧ (∀ ad : Addr, a = some ad → B ≤ ad.block) := by
  subst hn
  rcases h.2 with ⟨rfl, h0⟩ | ⟨g, cap, cur, rfl, hB, hg, hc, hm, hs, ht⟩
  · have hl : F = [] := by
      cases F with
      | nil => rfl
      | cons f F => simp at h0
    subst hl; exact ⟨none, 0, rfl, ⟨fun k f hk => by simp at hk, by simp⟩, Nat.le_refl _, Nat.zero_le _, fun ad h => by cases h⟩
  · refine ⟨some ⟨g, 0, none⟩, cap, rfl, ⟨fun k f hk => ?_, hd⟩, hc, hm, fun ad h => by cases h; exact hB⟩; have h1 := flat2_get (fun f : Fi => Value.string f.s) (fun f : Fi => Value.slice (some ⟨f.b, 0, none⟩) f.d.length f.p) F hk; obtain ⟨g1, cap1, e1, -, -, -, c1, -⟩ := own_at h (i := k * 2) h1.1; obtain ⟨g2, cap2, e2, -, -, -, c2, -⟩ := own_at h (i := k * 2 + 1) h1.2; simp only [Value.slice.injEq, Option.some.injEq, Addr.mk.injEq, and_true, true_and] at e1 e2; obtain ⟨rfl, rfl⟩ := e1; obtain ⟨rfl, rfl⟩ := e2; exact ⟨g, 0, rfl, by simpa using c1, by simpa using c2⟩
theorem ImgAt.rows {w w' : World} {R B : Nat} {a : Option Addr} {F : List Fi} (h : ImgAt w a F) (hr : RowsW w R B w') (hB : w.heap.size ≤ B) (ha : ∀ ad : Addr, a = some ad → ad.block ≠ R) (hf : ∀ f ∈ F, f.b ≠ R) : ImgAt w' a F := by
  refine ⟨fun k f hk => ?_, fun f hff => ?_⟩
  · obtain ⟨b, off, h1, h2, h3⟩ := h.cells k f hk; have hb := ha _ h1; have hbl : b < w.heap.size := cell_block_lt h2; exact ⟨b, off, h1, rows_cell hr h2 (by omega) hb, rows_cell hr h3 (by omega) hb⟩
  · obtain ⟨h1, h2, h3, h4, h5, h6⟩ := h.data f hff; have hb := hf f hff; exact ⟨rows_slb hr h1 (by omega) hb, h2, h3, h4, h5, Nat.lt_of_lt_of_le h6 hr.size⟩
set_option maxRecDepth 4000 in
set_option maxHeartbeats 4000000 in
theorem segmentFiles_any (F : List Fi) (a : Option Addr) (p : Nat) (w : World) (h : ImgAt w a F) (hl : F.length ≤ 512) :
    Calls Tryz.prog 38 #[.slice a F.length p] w fun e w' => ∃ a' cp, e = .returned (.slice a' (segF F).length cp) ∧ ImgAt w' a' (segF F) ∧ (segF F).length ≤ cp ∧ cp ≤ maxLen ∧ (∀ ad : Addr, a' = some ad → w.heap.size ≤ ad.block) ∧ w.grownBy w' none := by
  obtain ⟨n, hn⟩ : ∃ n, F.length = n := ⟨_, rfl⟩; have HO : Hid (ImgAt w a F ∧ F.length = n) := ⟨h, hn⟩; rw [hn] at hl ⊢; clear h hn
  go_enter Tryz.func38, Tryz.ntmps38
  go_wp2
  go_loopw [3, 8] (fun u i wr => ∃ (k : Nat) (v : Value), v = u ∧ k ≤ n ∧ i = .int .i64 (k : Int) ∧ wr.ownsRow w.heap.size 48 2 v (segF (F.take k)).length ((segF (F.take k)).flatMap Fi.cells) ∧ w.grownBy wr none) (fun _ i _ => n - (intOf i).toNat)
  case atStart => exact ⟨0, _, rfl, Nat.zero_le _, rfl, by simp [segF]; exact World.ownsRow_nil _ _ _ _, grownBy_refl _ _⟩
  case round =>
    obtain ⟨k, v, rfl, hk, rfl, ho, hGr⟩ := hrel; have HR : Hid (wr.ownsRow w.heap.size 48 2 v (segF (F.take k)).length ((segF (F.take k)).flatMap Fi.cells) ∧ w.grownBy wr none) := ⟨ho, hGr⟩; clear ho hGr
    by_cases hlt : k < n
    · obtain ⟨f, hf⟩ : ∃ f, F[k]? = some f := ⟨_, List.getElem?_eq_getElem (by rw [HO.out.2]; exact hlt)⟩; have hIm := HO.out.1.grown0 HR.out.2; obtain ⟨b, off, rfl, q0, q1⟩ := hIm.cells k f hf; have hsz := (hIm.data f (List.mem_of_getElem? hf)).2.2.2.1
      have HTK : Hid (F.take (k + 1) = F.take k ++ [f]) := by
        show _ = _
        rw [List.take_add_one, hf]
        rfl
      have hkI : (k : Int) < (n : Int) := by omega
      have HSEG : Hid (∀ X : World, Calls Tryz.prog 39 #[.string f.s] X fun e w' => e = .returned (.int .i64 (f.num : Int)) ∧ w' = X) := fun X => by rw [← f.num_eq]; exact implSeg_any f.s X hsz
      have HFF : Hid (F[k]? = some f) := hf; obtain ⟨fs, hfs⟩ : ∃ x, f.s = x := ⟨_, rfl⟩; obtain ⟨fb, hfb⟩ : ∃ x, f.b = x := ⟨_, rfl⟩; obtain ⟨fp, hfp⟩ : ∃ x, f.p = x := ⟨_, rfl⟩; obtain ⟨fl, hfl⟩ : ∃ x, f.d.length = x := ⟨_, rfl⟩; obtain ⟨fn, hfn⟩ : ∃ x, f.num = x := ⟨_, rfl⟩; have HE : Hid (f.s = fs ∧ f.b = fb ∧ f.p = fp ∧ f.d.length = fl ∧ f.num = fn) := ⟨hfs, hfb, hfp, hfl, hfn⟩; rw [hfs, hfn] at HSEG; rw [hfs] at q0; rw [hfb, hfp, hfl] at q1; clear hIm hf hfs hfb hfp hfl hfn hsz; go_wp2_with fail; refine (HSEG.out _).mono ?_; rintro e w1 ⟨rfl, rfl⟩; have hA := World.grownBy_alloc wr (.cells #[.string fs, .slice (some ⟨fb, 0, none⟩) fl fp] 48) none; have hnew : (wr.alloc (.cells #[.string fs, .slice (some ⟨fb, 0, none⟩) fl fp] 48)).heap[wr.heap.size]? = some (.cells #[.string fs, .slice (some ⟨fb, 0, none⟩) fl fp] 48 (0, 0)) := heap_alloc_new wr _; have hoA := owns_grown0 HR.out.1 hA; have hGA : w.grownBy (wr.alloc (.cells #[.string fs, .slice (some ⟨fb, 0, none⟩) fl fp] 48)) none := grownBy_trans HR.out.2 hA; generalize wr.alloc (.cells #[.string fs, .slice (some ⟨fb, 0, none⟩) fl fp] 48) = W at hA hnew hoA hGA ⊢; have hWl : wr.heap.size < W.heap.size := (Array.getElem?_eq_some_iff.1 hnew).1; have HW : Hid (W.ownsRow w.heap.size 48 2 v (segF (F.take k)).length ((segF (F.take k)).flatMap Fi.cells) ∧ w.grownBy W none) := ⟨hoA, hGA⟩; have r0 : W.cell? ⟨wr.heap.size, 0, none⟩ = some (.string fs) := (cell_of_row _ _ _ _ _ _ hnew).trans rfl; have r1 : W.cell? ⟨wr.heap.size, 1, none⟩ = some (.slice (some ⟨fb, 0, none⟩) fl fp) := (cell_of_row _ _ _ _ _ _ hnew).trans rfl
      have hsl : (segF (F.take k)).length ≤ 512 := by have := segF_len (F.take k); simp at this; omega
      clear hoA hGA hA hnew HSEG q0 q1
      have v1 : IntKind.i64.wrap ((k : Int) + 1) = ((k + 1 : Nat) : Int) := by rw [IntWalk.i64_in _ (by omega)]; omega
      by_cases hp : 0 < fn
      · have hp' : (0 : Int) < (fn : Int) := by omega
        obtain ⟨i0, hi, hz0, hz1, hz2'⟩ := info_parts Tryz.infoFile
        go_wp2_with (at_builtin; refine wpList_append_own _ rfl _ _ 29 rfl w.heap.size 48 i0 (.agg #[.string ⟨#[]⟩, .slice none 0 0]) 2 40 Tryz.underlying29 hi hz0 hz1 hz2' rfl (by decide) v (segF (F.take k)).length ((segF (F.take k)).flatMap Fi.cells) rfl (by exact HW.out.1.alloc _) ⟨W.heap.size, 0, none⟩ 1 1 [.string fs, .slice (some ⟨fb, 0, none⟩) fl fp] rfl rfl ?c1 ?c2 ?c3 ?c4 ?c5 ?_)
        case c1 =>
          intro j u hj; have hX : (W.alloc (.cells #[.string fs, .slice (some ⟨fb, 0, none⟩) fl fp] 48)).heap[W.heap.size]? = some (.cells #[.string fs, .slice (some ⟨fb, 0, none⟩) fl fp] 48 (0, 0)) := heap_alloc_new W _
          match j, hj with
          | 0, hj => simp at hj; subst hj; exact (cell_of_row _ _ _ _ _ _ hX).trans rfl
          | 1, hj => simp at hj; subst hj; exact (cell_of_row _ _ _ _ _ _ hX).trans rfl
        case c2 => intro u hu; simp at hu; rcases hu with rfl | rfl <;> rfl
        case c3 => unfold maxLen; omega
        case c4 => omega
        case c5 => have h1 := HW.out.2.size; simp; omega
        intro v' w4 hown' hgrow _
        have HF : Hid (w4.ownsRow w.heap.size 48 2 v' ((segF (F.take k)).length + 1) ((segF (F.take k)).flatMap Fi.cells ++ [.string fs, .slice (some ⟨fb, 0, none⟩) fl fp]) ∧ w.grownBy w4 none) := ⟨hown', by
          have hg1 : w.grownBy (W.alloc (.cells #[.string fs, .slice (some ⟨fb, 0, none⟩) fl fp] 48)) none := grownBy_alloc HW.out.2 _
          rcases HW.out.1.2 with ⟨rfl, h0⟩ | ⟨g, cap, cur, rfl, hB, hg, hc, hm, hs, ht⟩
          · exact grownBy_trans hg1 hgrow
          · exact grownBy_new hg1 hgrow hB⟩
        clear hown' hgrow; go_wp2; go_roundw
        case rel =>
          refine ⟨k + 1, _, rfl, by omega, by go_num, ?_, HF.out.2⟩; rw [HTK.out, segF_snoc, if_pos (by rw [HE.out.2.2.2.2]; exact hp)]; have h9 := HF.out.1; obtain ⟨e1, e2, e3, e4, -⟩ := HE.out; simp only [List.length_append, List.length_cons, List.length_nil, List.flatMap_append, List.flatMap_cons, List.flatMap_nil, List.append_nil, Fi.cells, e1, e2, e3, e4]; exact h9
        case measure => simp [intOf]; omega
      · have hp' : ¬ (0 : Int) < (fn : Int) := by omega
        go_wp2; go_roundw
        case rel =>
          refine ⟨k + 1, _, rfl, by omega, by go_num, ?_, HW.out.2⟩; rw [HTK.out, segF_snoc, if_neg (by rw [HE.out.2.2.2.2]; exact hp)]; exact HW.out.1
        case measure => simp [intOf]; omega
    · obtain rfl : k = n := by omega
      have hkI : ¬ (k : Int) < (k : Int) := by omega
      go_wp2; go_ret; have hfull : F.take k = F := List.take_of_length_le (by rw [HO.out.2]; exact Nat.le_refl _); have h9 := HR.out.1; rw [hfull] at h9
      obtain ⟨a', cp, h1, h2, h3, h4, h5⟩ := imgAt_own h9 rfl (fun f hf => by
        have hIm := HO.out.1.grown0 HR.out.2
        exact hIm.data f (List.mem_filter.1 hf).1)
      exact ⟨a', cp, by rw [h1]; rfl, h2, h3, h4, h5, HR.out.2⟩
theorem setCells_full {g : Nat} {t : TypeId} : ∀ (vs pre cur : List Value) (w : World), w.heap[g]? = some (.cells (pre ++ cur).toArray t (0, 0)) → cur.length = vs.length → (w.setCells g pre.length vs).heap[g]? = some (.cells (pre ++ vs).toArray t (0, 0))
  | [], pre, cur, w, h, hl => by
    have : cur = [] := by cases cur with | nil => rfl | cons => simp at hl
    subst this; exact h
  | v :: r, pre, cur, w, h, hl => by
    cases cur with
    | nil => simp at hl
    | cons c cur =>
      have h1 := set_blkL pre.length v h
      have e1 : (pre ++ c :: cur).set pre.length v = (pre ++ [v]) ++ cur := by simp
      rw [e1] at h1; have h2 := setCells_full r (pre ++ [v]) cur _ h1 (by simpa using hl); rw [World.setCells]
      simpa using h2
theorem setCells_all {g : Nat} {t : TypeId} {vs cur : List Value} {w : World} (h : w.heap[g]? = some (.cells cur.toArray t (0, 0))) (hl : cur.length = vs.length) : (w.setCells g 0 vs).heap[g]? = some (.cells vs.toArray t (0, 0)) := by
  simpa using setCells_full vs [] cur w h hl
theorem grownBy_cells {w0 : World} {g : Nat} : ∀ (vs : List Value) (o : Nat) (w : World), w0.grownBy w (some g) → w0.grownBy (w.setCells g o vs) (some g)
  | [], _, _, h => h
  | v :: r, o, w, h => by rw [World.setCells]; exact grownBy_cells r (o + 1) _ (grownBy_setCell h)
theorem range_blk {w : World} {g : Nat} {t : TypeId} {f : Nat × Nat} {vs : List Value} (h : w.heap[g]? = some (.cells vs.toArray t f)) : w.rangeAt g 0 vs := fun j v hv => by
  rw [cell_of_row w g _ _ _ _ h]; simpa using hv
theorem there_blk {w : World} {g n : Nat} {t : TypeId} {vs : List Value} (h : w.heap[g]? = some (.cells vs.toArray t (0, 0))) (hn : vs.length = n) : w.there g 0 n := fun j hj => by
  refine ⟨?_, by simp [World.frozen?, h]⟩; rw [cell_of_row w g _ _ _ _ h]
  simp
  omega
theorem step_store_mid {w : World} {ops : Array Oper} {o : Oper} {a : Act} {K : Act → World → Prop} {Q : Exit → Act → World → Prop} {E : Prop} (hgd : o.guard = none) (ty : TypeId) (x y : Operand) (ho : o.op = .store ty x y)
    (b off : Nat) (cells : Array Value) (hx : a.eval x = .pointer (some ⟨b, off, none⟩)) (hy : a.eval y = .agg cells) (ht : w.there b off cells.size) (hi : (Tryz.prog.info? ty).map (·.size) = some cells.size) (h1 : cells.all (·.oneCell') = true)
    (h : K (a.put o.dst undef) (w.setCells b off cells.toList)) : if Region.wanted o (yielded ops a.tmps) = true then Oper.wp Tryz.prog o a w K Q else E := by
  have hw : Region.wanted o (yielded ops a.tmps) = true := by simp [Region.wanted, hgd]
  rw [if_pos hw]; exact wp_store_mid ty x y ho b off cells hx hy ht hi h1 h
theorem Tryz.sizeWal : (Tryz.prog.info? 60).map (·.size) = some 30 := by kernel_rfl
theorem results_wal {fn : Func} {t u : Tmp} {w : World} {g : Nat} {vs : List Value} {tmps : Array Value} (h : fn.results = #[.cell t 60, .tmp u]) (ht : tmps.getD t undef = .pointer (some ⟨g, 0, none⟩)) (hg : w.heap[g]? = some (.cells vs.toArray 60 (0, 0))) (hl : vs.length = 30) :
    (results fn tmps).run Tryz.prog w = .ok (.tuple #[.agg vs.toArray, tmps.getD u undef]) w := by
  have h1 := run_loadVar_mid (P := Tryz.prog) w g 0 60 vs _ (range_blk hg) Tryz.underlying60 rfl (by rw [hl]; exact Tryz.sizeWal)
  have ht' : tmps[t]?.getD undef = .pointer (some ⟨g, 0, none⟩) := by simpa using ht
  simp [results, h, ht', h1, Result.andThen, asAddr]
/-- a zero walReading -/
def zForms : List Value := [.slice none 0 0, .int .i64 0, .nilFunc, .slice none 0 0, .int .i64 0, .nilFunc, .slice none 0 0, .int .i64 0, .nilFunc, .slice none 0 0, .int .i64 0, .nilFunc, .slice none 0 0, .int .i64 0, .nilFunc, .slice none 0 0, .int .i64 0, .nilFunc, .slice none 0 0, .int .i64 0, .nilFunc, .slice none 0 0, .int .i64 0, .nilFunc]
def zWal : List Value := [.int .i64 0, .int .i64 0, .slice none 0 0, .slice none 0 0] ++ zForms ++ [.int .i64 0, .int .i64 0]
def logVs (L : Lg) (S : Nat) (kp dr : Int) : List Value := .int .i64 (L.base : Int) :: .int .i64 (L.bt : Int) :: L.ev :: L.sv :: (formCs S ++ [.int .i64 kp, .int .i64 dr])
theorem logVs_one {w : World} {R B : Nat} {tl : List Value} {L : Lg} (h : LogIn w R B tl L) (S : Nat) (kp dr : Int) : (logVs L S kp dr).toArray.all (·.oneCell') = true := by
  obtain ⟨_, _, h1, _⟩ := h.evIs; obtain ⟨_, _, h2, _⟩ := h.svIs
  apply all_oneCell_toArray
  unfold logVs
  rw [h1, h2]; exact List.all_eq_true.1 rfl
/-- a file's name and bytes -/
abbrev Pf := ByteArray × List Nat
def pnum (x : Pf) : Nat := (nameR0 x.1 walB).toNat
theorem pnum_le (x : Pf) : pnum x ≤ 99999999 := by
  unfold pnum nameR0
  split
  · rename_i h
    have h1 := numOf_lt _ h.2.2
    have h2 : ((bs x.1).drop walB.size).length = 8 := by
      have : (bs x.1).length = x.1.size := bs_len x.1; rw [List.length_drop, this, h.1]
      omega
    rw [h2] at h1
    show ((nameNum x.1 walB : Nat) : Int).toNat ≤ _
    unfold nameNum
    omega
  · simp
def Fi.pf (f : Fi) : Pf := (f.s, f.d)
theorem numLe (f : Fi) : f.num ≤ 99999999 := pnum_le f.pf
def segP (F : List Pf) : List Pf := F.filter (fun x => decide (0 < pnum x))
theorem segF_map (F : List Fi) : (segF F).map Fi.pf = segP (F.map Fi.pf) := by
  induction F with
  | nil => rfl
  | cons f F ih =>
    have e : f.num = pnum f.pf := rfl
    by_cases h : 0 < pnum f.pf
    · simp only [segF, segP, List.filter_cons, List.map_cons, e, h, decide_true, if_true] at ih ⊢; rw [ih]
    · simp only [segF, segP, List.filter_cons, List.map_cons, e, h, decide_false] at ih ⊢
      simpa using ih
/-- their numbers rise by one -/
def consec (fs : List Pf) : Prop := ∀ i x y, fs[i]? = some x → fs[i + 1]? = some y → pnum y = pnum x + 1
def decConsec (fs : List Pf) : Decidable (consec fs) :=
  decidable_of_iff (∀ i, i < fs.length → (fs[i]?.all fun x => fs[i + 1]?.all fun y => decide (pnum y = pnum x + 1)) = true)
    ⟨fun h i x y hx hy => by have h1 := h i (List.getElem?_eq_some_iff.1 hx).1; rw [hx, hy] at h1; simpa using h1, fun h i _ => by
      cases hx : fs[i]? with
      | none => rfl
      | some x =>
        cases hy : fs[i + 1]? with
        | none => rfl
        | some y => simpa using h i x y hx hy⟩
def headB (num : Nat) : List (Nat × List Nat) → Bool
  | [] => false
  | r :: _ => @decide (WOk (wb 1) (wroom 1) r.2) (decWOk _ _ _) && (decide (r.1 = 1) && decide (wn 1 r.2 0 = num))
theorem headB_iff (num : Nat) (recs : List (Nat × List Nat)) : headB num recs = true ↔ HeadP num recs := by
  cases recs with
  | nil => exact ⟨fun h => (by cases h), fun ⟨_, _, _, h, _⟩ => (by cases h)⟩
  | cons r rs =>
    obtain ⟨ty, d⟩ := r; simp only [headB, Bool.and_eq_true, decide_eq_true_eq]; refine ⟨fun ⟨h1, h2, h3⟩ => ⟨ty, d, rs, rfl, h1, h2, h3⟩, fun ⟨_, _, _, h, h1, h2, h3⟩ => ?_⟩
    cases h
    exact ⟨h1, h2, h3⟩
def dropP (fs : List Pf) : Bool := match fs.getLast? with
  | none => false
  | some x => !headB (pnum x) (scan x.2).1
theorem dropP_true {fs : List Pf} {x : Pf} (h : fs.getLast? = some x) (hn : ¬ HeadP (pnum x) (scan x.2).1) : dropP fs = true := by
  unfold dropP
  rw [h]
  cases hb : headB (pnum x) (scan x.2).1 with
  | false => simp [hb]
  | true => exact absurd ((headB_iff _ _).1 hb) hn
theorem dropP_false {fs : List Pf} {x : Pf} (h : fs.getLast? = some x) (hn : HeadP (pnum x) (scan x.2).1) : dropP fs = false := by
  unfold dropP
  rw [h]
  simp [(headB_iff _ _).2 hn]
def keptP (fs : List Pf) : List Pf := if dropP fs = true then fs.dropLast else fs
def wread : Bool → Pl → List Pf → Option Pl
  | _, p, [] => some p
  | fst, p, x :: xs => if (scan x.2).1 = [] ∨ ((scan x.2).2.2 ≠ 0 ∧ xs ≠ []) then none else (rsteps (pnum x) fst p true (scan x.2).1).bind fun p' => wread false p' xs
def keepP (ks : List Pf) : Nat := match ks.getLast? with
  | none => 0
  | some x => (scan x.2).2.1
theorem keepP_snoc (xs : List Pf) (x : Pf) : keepP (xs ++ [x]) = (scan x.2).2.1 := by simp [keepP]
def walP (F : List Pf) : Option (Pl × List Nat × Nat × Bool) :=
  @ite _ (consec (segP F)) (decConsec _) ((wread true ⟨0, 0, []⟩ (keptP (segP F))).map fun p => (p, (keptP (segP F)).map pnum, keepP (keptP (segP F)), dropP (segP F))) none
/-- what readLog leaves -/
def LogOut (w : World) (F : List Fi) (ad : Addr) (e : Ending) (w' : World) : Prop :=
  w.grownBy w' none ∧ ((∃ (S R B kp dr : Nat) (L : Lg), w.heap.size ≤ R ∧ LogIn w' R B (formCs S ++ [.int .i64 (kp : Int), .int .i64 (dr : Int)]) L ∧ walP (F.map Fi.pf) = some (L.pl, L.S.map Prod.fst, kp, decide (dr ≠ 0)) ∧ e = .returned (.tuple #[.agg (logVs L S kp dr).toArray, .nilIface]))
   ∨ (walP (F.map Fi.pf) = none ∧ e = .returned (.tuple #[.agg zWal.toArray, .iface 177 (.pointer (some ad))])))
set_option maxRecDepth 100000 in
set_option maxHeartbeats 4000000 in
theorem readLog_any (F : List Fi) (a : Option Addr) (p : Nat) (ad : Addr) (w : World) (h : ImgAt w a F) (hl : F.length ≤ 512) (ht : Tab w) (hgw : 14 ≤ w.heap.size) (hE : w.cell? ⟨0, 0, none⟩ = some (.iface 177 (.pointer (some ad)))) :
    Calls Tryz.prog 18 #[.slice a F.length p] w (LogOut w F ad) := by
  obtain ⟨n0, hn0⟩ : ∃ n, F.length = n := ⟨_, rfl⟩; have HH : Hid (ImgAt w a F ∧ Tab w ∧ w.cell? ⟨0, 0, none⟩ = some (.iface 177 (.pointer (some ad))) ∧ F.length = n0 ∧ F.length ≤ 512) := ⟨h, ht, hE, hn0, hl⟩; rw [hn0]; clear h ht hE hn0 hl
  go_enter Tryz.func18, Tryz.ntmps18
  go_wp2_with fail; have hb0 : (w.alloc (.cells #[.int .i64 0, .int .i64 0, .slice none 0 0, .slice none 0 0, .slice none 0 0, .int .i64 0, .nilFunc, .slice none 0 0, .int .i64 0, .nilFunc, .slice none 0 0, .int .i64 0, .nilFunc, .slice none 0 0, .int .i64 0, .nilFunc, .slice none 0 0, .int .i64 0, .nilFunc, .slice none 0 0, .int .i64 0, .nilFunc, .slice none 0 0, .int .i64 0, .nilFunc, .slice none 0 0, .int .i64 0, .nilFunc, .int .i64 0, .int .i64 0] 60)).heap[w.heap.size]? = some (.cells zWal.toArray 60 (0, 0)) := heap_alloc_new w _; have hG0 : w.grownBy (w.alloc (.cells #[.int .i64 0, .int .i64 0, .slice none 0 0, .slice none 0 0, .slice none 0 0, .int .i64 0, .nilFunc, .slice none 0 0, .int .i64 0, .nilFunc, .slice none 0 0, .int .i64 0, .nilFunc, .slice none 0 0, .int .i64 0, .nilFunc, .slice none 0 0, .int .i64 0, .nilFunc, .slice none 0 0, .int .i64 0, .nilFunc, .slice none 0 0, .int .i64 0, .nilFunc, .slice none 0 0, .int .i64 0, .nilFunc, .int .i64 0, .int .i64 0] 60)) none := World.grownBy_alloc w _ _; generalize w.alloc (.cells #[.int .i64 0, .int .i64 0, .slice none 0 0, .slice none 0 0, .slice none 0 0, .int .i64 0, .nilFunc, .slice none 0 0, .int .i64 0, .nilFunc, .slice none 0 0, .int .i64 0, .nilFunc, .slice none 0 0, .int .i64 0, .nilFunc, .slice none 0 0, .int .i64 0, .nilFunc, .slice none 0 0, .int .i64 0, .nilFunc, .slice none 0 0, .int .i64 0, .nilFunc, .slice none 0 0, .int .i64 0, .nilFunc, .int .i64 0, .int .i64 0] 60) = W0 at hb0 hG0 ⊢; refine (recordForms_any W0).mono ?_; rintro e W1 ⟨S, rfl, hF, hS, hG⟩; have hb1 := grown_blk hG hb0; have hG1 := grownBy_trans hG0 hG
  have hSl : S + 7 ≤ W1.heap.size := by
    have h9 := (Array.getElem?_eq_some_iff.1 (hF 7 (by omega) (by omega))).1
    omega
  have hs1 := hG1.size; have H1 : Hid (Forms W1 S ∧ W1.heap[w.heap.size]? = some (.cells zWal.toArray 60 (0, 0)) ∧ w.grownBy W1 none) := ⟨hF, hb1, hG1⟩; clear hF hS hG hb1 hG1 hb0 hG0
  unfold formCs
  have hT : (W1.alloc (.cells #[.int .i64 0, .int .i64 0, .slice none 0 0, .slice none 0 0, .slice none 0 0, .int .i64 0, .nilFunc, .slice none 0 0, .int .i64 0, .nilFunc, .slice none 0 0, .int .i64 0, .nilFunc, .slice none 0 0, .int .i64 0, .nilFunc, .slice none 0 0, .int .i64 0, .nilFunc, .slice none 0 0, .int .i64 0, .nilFunc, .slice none 0 0, .int .i64 0, .nilFunc, .slice none 0 0, .int .i64 0, .nilFunc, .int .i64 0, .int .i64 0] 60)).there W1.heap.size 0 30 := there_blk (vs := zWal) (heap_alloc_new W1 _) rfl
  go_wp2_with (refine wpList_store_mid (by rfl) _ (.tmp 4) (.tmp 13) (by rfl) _ _ _ (by rfl) (by rfl) ?sa ?sb ?sc ?sd; exact hT; show _ = some 30; kernel_rfl; exact all_oneCell_toArray (List.all_eq_true.1 rfl); simp only [Act.put]; generalize hX : World.setCells (W1.alloc (.cells #[.int .i64 0, .int .i64 0, .slice none 0 0, .slice none 0 0, .slice none 0 0, .int .i64 0, .nilFunc, .slice none 0 0, .int .i64 0, .nilFunc, .slice none 0 0, .int .i64 0, .nilFunc, .slice none 0 0, .int .i64 0, .nilFunc, .slice none 0 0, .int .i64 0, .nilFunc, .slice none 0 0, .int .i64 0, .nilFunc, .slice none 0 0, .int .i64 0, .nilFunc, .slice none 0 0, .int .i64 0, .nilFunc, .int .i64 0, .int .i64 0] 60)) W1.heap.size 0 _ = W2; have hbR : W2.heap[W1.heap.size]? = some (.cells (logVs ⟨0, 0, [], .slice none 0 0, [], .slice none 0 0⟩ S 0 0).toArray 60 (0, 0)) := (by rw [← hX]; exact setCells_all (cur := zWal) (heap_alloc_new W1 _) rfl); have hG2 : W1.grownBy W2 none := (by rw [← hX]; exact grownBy_setCellsN (Nat.le_refl _) _ _ _ (World.grownBy_alloc W1 _ _)); clear hX hT; generalize Value.agg #[Value.slice none 0 0, Value.int .i64 0, Value.nilFunc, _, _, _, _, _, _, _, _, _, _, _, _, _, _, _, _, _, _, _, _, _] = vF; generalize Value.agg #[Value.int .i64 0, Value.int .i64 0, _, _, _, _, _, _, _, _, _, _, _, _, _, _, _, _, _, _, _, _, _, _, _, _, _, _, _, _] = vW)
  have hG02 : w.grownBy W2 none := grownBy_trans H1.out.2.2 hG2; have HSF := segmentFiles_any F a p W2 (HH.out.1.grown0 hG02) HH.out.2.2.2.2; rw [HH.out.2.2.2.1] at HSF; refine HSF.mono ?_; clear HSF; rintro e W3 ⟨a', cp, rfl, hI3, hcp1, hcp2, hab, hG3⟩; obtain ⟨R, hR⟩ : ∃ R, W1.heap.size = R := ⟨_, rfl⟩; rw [hR] at hbR hSl hs1 ⊢; have hR2 : R < W2.heap.size := (Array.getElem?_eq_some_iff.1 hbR).1; have hs3 := hG3.size; obtain ⟨m, hm⟩ : ∃ m, (segF F).length = m := ⟨_, rfl⟩
  have hm5 : m ≤ 512 := by have h9 := segF_len F; have h8 := HH.out.2.2.2.2; omega
  rw [hm] at hcp1 ⊢; have hL3 : LogIn W3 R W3.heap.size (formCs S ++ [.int .i64 0, .int .i64 0]) ⟨0, 0, [], .slice none 0 0, [], .slice none 0 0⟩ := ⟨grown_blk hG3 hbR, World.ownsRow_nil _ _ _ _, by simp, by simp, World.ownsRow_nil _ _ _ _, by omega, ⟨by simp, by simp, by simp, by simp⟩⟩; have hF3 : Forms W3 S := H1.out.1.grown0 (grownBy_trans hG2 hG3); have hb3 : W3.heap[w.heap.size]? = some (.cells zWal.toArray 60 (0, 0)) := grown_blk (grownBy_trans hG2 hG3) H1.out.2.1; have hG03 : w.grownBy W3 none := grownBy_trans hG02 hG3; have H3 : Hid (LogIn W3 R W3.heap.size (formCs S ++ [.int .i64 0, .int .i64 0]) ⟨0, 0, [], .slice none 0 0, [], .slice none 0 0⟩ ∧ Forms W3 S ∧ W3.heap[w.heap.size]? = some (.cells zWal.toArray 60 (0, 0)) ∧ w.grownBy W3 none ∧ ImgAt W3 a' (segF F) ∧ (∀ ad : Addr, a' = some ad → W2.heap.size ≤ ad.block) ∧ (segF F).length = m ∧ (∀ f ∈ segF F, f.b < w.heap.size)) := ⟨hL3, hF3, hb3, hG03, hI3, hab, hm, fun f hf => (HH.out.1.data f (List.mem_filter.1 hf).1).2.2.2.2.2⟩; clear hL3 hF3 hb3 hG03 hI3 hab hm hbR hG2 hG02 hG3 H1 hR
  have hwR : w.heap.size < R := by
    rcases Nat.lt_or_ge w.heap.size R with h9 | h9
    · exact h9
    · have h8 := H3.out.2.2.1
      have : w.heap.size = R := by omega
      rw [this] at h8; have h7 := H3.out.1.box; rw [h8] at h7; have h6 := Option.some.inj h7
      injection h6 with h5 _ _
      have h4 := congrArg Array.toList h5; simp only at h4; have := congrArg (fun l => (l.drop 4).take 24) h4
      simp [zWal, formCs, zForms] at this
  go_wp2
  go_loopw [6] (fun i wr => ∃ k : Nat, 1 ≤ k ∧ (k ≤ m ∨ k = 1) ∧ i = .int .i64 (k : Int) ∧ (∀ j x y, j + 1 < k → ((segF F).map Fi.pf)[j]? = some x → ((segF F).map Fi.pf)[j + 1]? = some y → pnum y = pnum x + 1) ∧ wr.heap = W3.heap ∧ W3.grownBy wr none) (fun i _ => m - (intOf i).toNat)
  case atStart => exact ⟨1, Nat.le_refl _, .inr rfl, rfl, fun j x y hj => by omega, rfl, grownBy_refl _ _⟩
  case round =>
    obtain ⟨k, hk1, hk2, rfl, hcs, hhp, hGr⟩ := hrel; have HR : Hid ((∀ j x y, j + 1 < k → ((segF F).map Fi.pf)[j]? = some x → ((segF F).map Fi.pf)[j + 1]? = some y → pnum y = pnum x + 1) ∧ wr.heap = W3.heap ∧ W3.grownBy wr none) := ⟨hcs, hhp, hGr⟩; clear hcs hhp hGr
    by_cases hlt : k < m
    · obtain ⟨k', rfl⟩ : ∃ k', k = k' + 1 := ⟨k - 1, by omega⟩; obtain ⟨f, hf⟩ : ∃ f, (segF F)[k' + 1]? = some f := ⟨_, List.getElem?_eq_getElem (by rw [H3.out.2.2.2.2.2.2.1]; exact hlt)⟩; obtain ⟨f0, hf0⟩ : ∃ f, (segF F)[k']? = some f := ⟨_, List.getElem?_eq_getElem (by rw [H3.out.2.2.2.2.2.2.1]; omega)⟩; have hIm := H3.out.2.2.2.2.1.grown0 HR.out.2.2; obtain ⟨b, off, hab, q0, -⟩ := hIm.cells (k' + 1) f hf; obtain ⟨b', off', hab', q1, -⟩ := hIm.cells k' f0 hf0; rw [hab] at hab'
      obtain ⟨rfl, rfl⟩ : b = b' ∧ off = off' := by simpa using hab'
      have hsz := (hIm.data f (List.mem_of_getElem? hf)).2.2.2.1; have hsz0 := (hIm.data f0 (List.mem_of_getElem? hf0)).2.2.2.1
      have HS1 : Hid (∀ X : World, Calls Tryz.prog 39 #[.string f.s] X fun e w' => e = .returned (.int .i64 (f.num : Int)) ∧ w' = X) := fun X => by rw [← f.num_eq]; exact implSeg_any f.s X hsz
      have HS0 : Hid (∀ X : World, Calls Tryz.prog 39 #[.string f0.s] X fun e w' => e = .returned (.int .i64 (f0.num : Int)) ∧ w' = X) := fun X => by rw [← f0.num_eq]; exact implSeg_any f0.s X hsz0
      have hnb : f0.num ≤ 99999999 := numLe f0; have HFF : Hid (((segF F).map Fi.pf)[k' + 1]? = some f.pf ∧ ((segF F).map Fi.pf)[k']? = some f0.pf ∧ f.num = pnum f.pf ∧ f0.num = pnum f0.pf) := ⟨by simp [hf], by simp [hf0], rfl, rfl⟩; obtain ⟨fn, hfn⟩ : ∃ x, f.num = x := ⟨_, rfl⟩; obtain ⟨gn, hgn⟩ : ∃ x, f0.num = x := ⟨_, rfl⟩; obtain ⟨fs, hfs⟩ : ∃ x, f.s = x := ⟨_, rfl⟩; obtain ⟨gs, hgs⟩ : ∃ x, f0.s = x := ⟨_, rfl⟩; rw [hfn, hfs] at HS1; rw [hgn, hgs] at HS0; rw [hfn, hgn] at HFF; rw [hgn] at hnb; rw [hfs] at q0; rw [hgs] at q1; subst hab; clear hIm hf hf0 hfn hgn hfs hgs hsz hsz0 hab'
      have hkI : ((k' : Int) + 1) < (m : Int) := by omega
      have hkJ : (k' : Int) < (m : Int) := by omega
      have v1 : IntKind.i64.wrap ((k' : Int) + 1 - 1) = (k' : Int) := by rw [IntWalk.i64_in _ (by omega)]; omega
      have v2 : IntKind.i64.wrap ((gn : Int) + 1) = (gn : Int) + 1 := IntWalk.i64_in _ (by omega); have v3 : IntKind.i64.wrap ((k' : Int) + 1 + 1) = (k' : Int) + 1 + 1 := IntWalk.i64_in _ (by omega); go_wp2
      go_quiet (first | (go_at_call_of 39 fs; refine Calls.quiet_of_same (HS1.out _)) | (go_at_call_of 39 gs; refine Calls.quiet_of_same (HS0.out _)) | fail)
      have HX : Hid ((wr.drewN nq).heap = W3.heap ∧ W3.grownBy (wr.drewN nq) none) := ⟨HR.out.2.1, grownBy_trans HR.out.2.2 (grownBy_drewN _ _)⟩; generalize wr.drewN nq = X at HX ⊢; clear q0 q1 HS0 HS1
      rcases Classical.em (fn = gn + 1) with hq | hq
      · have dq : ((fn : Int) != (gn : Int) + 1) = false := by simp; omega
        have HQ : Hid (fn = gn + 1) := hq; clear hq; go_wp2; go_roundw
        case rel =>
          refine ⟨k' + 2, by omega, .inl (by omega), by go_num, fun j x y hj hx hy => ?_, HX.out.1, HX.out.2⟩
          rcases Nat.lt_or_ge (j + 1) (k' + 1) with h9 | h9
          · exact HR.out.1 j x y h9 hx hy
          · obtain rfl : j = k' := by omega
            obtain ⟨e1, e2, e3, e4⟩ := HFF.out; rw [e2] at hx; rw [e1] at hy
            cases hx
            cases hy
            rw [← e3, ← e4]; exact HQ.out
        case measure => simp [intOf]; omega
      · have dq : ((fn : Int) != (gn : Int) + 1) = true := by simp; omega
        have HNO : Hid (walP (F.map Fi.pf) = none) := by
          show _ = _
          rw [walP, if_neg]; intro hc; rw [← segF_map] at hc; obtain ⟨e1, e2, e3, e4⟩ := HFF.out; have := hc k' _ _ e2 e1; rw [← e3, ← e4] at this; exact hq this
        clear hq; go_wp2; have H7 : Hid ((X.cell? ⟨0, 0, none⟩ = some (.iface 177 (.pointer (some ad))) ∧ X.heap[w.heap.size]? = some (.cells zWal.toArray 60 (0, 0))) ∧ w.grownBy X none) := ⟨⟨(World.cell?_of_block (congrArg (fun h => h[0]?) HX.out.1)).trans ((bcell H3.out.2.2.2.1).1 _ _ (cell_block_lt HH.out.2.2.1) |>.trans HH.out.2.2.1), by rw [HX.out.1]; exact H3.out.2.2.1⟩, grownBy_trans H3.out.2.2.2.1 HX.out.2⟩; refine wp_region_Z (fun V => V.cell? ⟨0, 0, none⟩ = some (.iface 177 (.pointer (some ad))) ∧ V.heap[w.heap.size]? = some (.cells zWal.toArray 60 (0, 0))) (fun _ => false) (by kernel_rfl) ?_; have hS : X.drew.cell? ⟨0, 0, none⟩ = some (.iface 177 (.pointer (some ad))) ∧ X.drew.heap[w.heap.size]? = some (.cells zWal.toArray 60 (0, 0)) := H7.out.1; refine wpAnyZ_take' (i := 0) (v := ?vz1) rfl (by kernel_rfl) (by kernel_rfl) (by kernel_rfl) (fun _ _ _ h => h) (Or.inl ⟨by rfl, ?yz1⟩) ?rz1
        case yz1 => (intro w _; go_simp; first | done | with_reducible rfl)
        simp only [Act.put, List.setIfInBounds_toArray, List.set_cons_zero, List.set_cons_succ]; refine wpAnyZ_loadS (i := 1) (v := ?vz2) rfl (by kernel_rfl) (by kernel_rfl) (by kernel_rfl) (fun _ _ _ h => h) (fun _ => rfl) (Or.inl ⟨by rfl, ?yz2⟩) hS ?rz2
        case yz2 => (intro W hW; have c0 : W.cell? ⟨0, 0, none⟩ = some (.iface 177 (.pointer (some ad))) := hW.1; go_simp; first | done | with_reducible rfl)
        simp only [Act.put, List.setIfInBounds_toArray, List.set_cons_zero, List.set_cons_succ]; refine wpAnyZ_one' (i := 2) (by kernel_rfl) rfl (fun K hK => ?_); refine step_store_mid (by rfl) _ (.tmp 2) (.tmp 37) (by rfl) w.heap.size 0 zWal.toArray (by rfl) (by rfl) (there_blk (vs := zWal) hS.2 rfl) (by show _ = some 30; kernel_rfl) (all_oneCell_toArray (List.all_eq_true.1 rfl)) ?_; refine hK.out _ _ (fun _ h => ⟨(World.cell?_of_block (setCells_oth w.heap.size 0 (by show 0 ≠ w.heap.size; omega) _ _ _)).trans h.1, setCells_all h.2 rfl⟩) ?_; clear hK K; simp only [Act.put]; have HFIN : Hid (w.grownBy (X.drew.setCells w.heap.size 0 zWal) none ∧ (X.drew.setCells w.heap.size 0 zWal).heap[w.heap.size]? = some (.cells zWal.toArray 60 (0, 0))) := ⟨grownBy_setCellsN (Nat.le_refl _) _ _ _ (grownBy_drew H7.out.2), setCells_all hS.2 rfl⟩; generalize X.drew.setCells w.heap.size 0 _ = X7 at HFIN ⊢; clear hS; refine wpAnyZ_take' (i := 3) (v := ?vz3) rfl (by kernel_rfl) (by kernel_rfl) (by kernel_rfl) (fun _ _ _ h => h) (Or.inl ⟨by rfl, ?yz3⟩) ?rz3
        case yz3 => (intro w _; go_simp; first | done | with_reducible rfl)
        simp only [Act.put, List.setIfInBounds_toArray, List.set_cons_zero, List.set_cons_succ]; refine wpAnyZ_done (by kernel_rfl) ?_ _; go_wp2; refine bodyPost_ret (results_wal (g := w.heap.size) rfl rfl HFIN.out.2 rfl) rfl ?_; exact ⟨HFIN.out.1, .inr ⟨HNO.out, rfl⟩⟩
    · have HC : Hid (consec ((segF F).map Fi.pf)) := fun j x y hx hy => HR.out.1 j x y (by
        have h9 := (List.getElem?_eq_some_iff.1 hy).1; simp only [List.length_map, H3.out.2.2.2.2.2.2.1] at h9
        omega) hx hy
      have hkI : ¬ (k : Int) < (m : Int) := by omega
      have hRw : RowsW W3 R W3.heap.size wr := RowsW.of_grown0 HR.out.2.2; have hLw := H3.out.1.grown0 HR.out.2.2; have HY : Hid (RowsW W3 R W3.heap.size wr ∧ LogIn wr R W3.heap.size (formCs S ++ [.int .i64 ((0 : Nat) : Int), .int .i64 ((0 : Nat) : Int)]) ⟨0, 0, [], .slice none 0 0, [], .slice none 0 0⟩) := ⟨hRw, hLw⟩; clear hRw hLw HR hk1 hk2
      by_cases hm0 : m = 0
      · have e0 : ¬ (0 : Int) < (m : Int) := by omega
        have HKS : Hid (keptP ((segF F).map Fi.pf) = ((segF F).map Fi.pf).take m ∧ dropP ((segF F).map Fi.pf) = decide ((0 : Nat) ≠ 0) ∧ m ≤ m) := by
          have hnil : (segF F).map Fi.pf = [] := List.eq_nil_of_length_eq_zero (by rw [List.length_map, H3.out.2.2.2.2.2.2.1]; exact hm0); rw [hnil]
          have hd : dropP [] = false := by unfold dropP; simp
          exact ⟨by rw [keptP, hd]; simp, by rw [hd]; simp, Nat.le_refl _⟩
        clear hm0 hlt; go_wp2_with fail; have HE3 : Hid (W3.cell? ⟨0, 0, none⟩ = some (.iface 177 (.pointer (some ad)))) := ((bcell H3.out.2.2.2.1).1 _ _ (cell_block_lt HH.out.2.2.1)).trans HH.out.2.2.1; have HT3 : Hid (Tab W3) := Tab_grown HH.out.2.1 H3.out.2.2.2.1
        go_loopw [66] (fun i wr => ∃ (k kp : Nat) (L : Lg), k ≤ m ∧ i = .int .i64 (k : Int) ∧ RowsW W3 R W3.heap.size wr ∧ LogIn wr R W3.heap.size (formCs S ++ [.int .i64 (kp : Int), .int .i64 ((0 : Nat) : Int)]) L ∧ wread true ⟨0, 0, []⟩ (((segF F).map Fi.pf).take (m)) = wread (decide (k = 0)) L.pl ((((segF F).map Fi.pf).take (m)).drop k) ∧ L.S.map Prod.fst = ((((segF F).map Fi.pf).take (m)).take k).map pnum ∧ kp = keepP ((((segF F).map Fi.pf).take (m)).take k)) (fun i _ => m - (intOf i).toNat)
        case atStart => exact ⟨0, 0, ⟨0, 0, [], .slice none 0 0, [], .slice none 0 0⟩, Nat.zero_le _, rfl, HY.out.1, HY.out.2, rfl, rfl, rfl⟩
        case round =>
          obtain ⟨k, kp, L, hkl, rfl, hRr, hLr, hwr, hSr, hkp⟩ := hrel
          have hSk : L.S.length = k := by
            have h9 := congrArg List.length hSr; simp only [List.length_map, List.length_take, H3.out.2.2.2.2.2.2.1] at h9; have h8 := HKS.out.2.2
            omega
          have HR : Hid (RowsW W3 R W3.heap.size wr ∧ LogIn wr R W3.heap.size (formCs S ++ [.int .i64 (kp : Int), .int .i64 ((0 : Nat) : Int)]) L ∧ wread true ⟨0, 0, []⟩ (((segF F).map Fi.pf).take (m)) = wread (decide (k = 0)) L.pl ((((segF F).map Fi.pf).take (m)).drop k) ∧ L.S.map Prod.fst = ((((segF F).map Fi.pf).take (m)).take k).map pnum ∧ kp = keepP ((((segF F).map Fi.pf).take (m)).take k) ∧ L.S.length = k) := ⟨hRr, hLr, hwr, hSr, hkp, hSk⟩; clear hRr hLr hwr hSr hkp hSk
          by_cases hlt2 : k < m
          · omega
          · obtain rfl : m = k := by omega
            have hkI : ¬ ((m : Nat) : Int) < ((m : Nat) : Int) := by omega
            have HRG : Hid (wr.rangeAt R 0 (logVs L S kp ((0 : Nat) : Int)) ∧ wr.there w.heap.size 0 30 ∧ (logVs L S kp ((0 : Nat) : Int)).toArray.all (·.oneCell') = true ∧ wr.heap[w.heap.size]? = some (.cells zWal.toArray 60 (0, 0))) := by
              have hC := HR.out.1.keep H3.out.2.2.1 (by omega) (.inl (by omega)); exact ⟨range_blk HR.out.2.1.box, there_blk (vs := zWal) hC rfl, logVs_one HR.out.2.1 _ _ _, hC⟩
            have HPOST : Hid (LogOut w F ad (.returned (.tuple #[.agg (logVs L S kp ((0 : Nat) : Int)).toArray, .nilIface])) (wr.setCells w.heap.size 0 (logVs L S kp ((0 : Nat) : Int))) ∧ (wr.setCells w.heap.size 0 (logVs L S kp ((0 : Nat) : Int))).heap[w.heap.size]? = some (.cells (logVs L S kp ((0 : Nat) : Int)).toArray 60 (0, 0))) := by
              refine ⟨⟨grownBy_setCellsN (Nat.le_refl _) _ _ _ (RowsW.grown0 H3.out.2.2.2.1 HR.out.1 (by omega) (by omega)), .inl ⟨S, R, W3.heap.size, kp, 0, L, by omega, ?_, ?_, rfl⟩⟩, setCells_all HRG.out.2.2.2 rfl⟩
              · exact HR.out.2.1.grownOff (grownBy_cells _ _ _ (grownBy_refl _ _)) (HR.out.2.1.off HRG.out.2.2.2 (by omega) (fun c t f e => by injection e with _ e _; subst e; decide))
              · have hd : (((segF F).map Fi.pf).take (m)).drop (m) = [] := List.drop_eq_nil_of_le (List.length_take_le _ _); have htk : (((segF F).map Fi.pf).take (m)).take (m) = (((segF F).map Fi.pf).take (m)) := List.take_of_length_le (List.length_take_le _ _); rw [walP, ← segF_map, if_pos HC.out, HKS.out.1, HKS.out.2.1, HR.out.2.2.1, hd, HR.out.2.2.2.1, HR.out.2.2.2.2.1, htk]
                rfl
            clear HR
            go_wp2_with (first | (refine wpList_load_mid (by rfl) _ (.tmp 4) (by rfl) R 0 (by rfl) (logVs L S kp ((0 : Nat) : Int)) _ HRG.out.1 Tryz.underlying60 rfl (by show _ = some 30; exact Tryz.sizeWal) ?_; simp only [Act.put]) | (refine wpList_store_mid (by rfl) _ (.tmp 2) (.tmp 92) (by rfl) w.heap.size 0 (logVs L S kp ((0 : Nat) : Int)).toArray (by rfl) (by rfl) HRG.out.2.1 (by show _ = some 30; exact Tryz.sizeWal) HRG.out.2.2.1 ?_; simp only [Act.put]; generalize World.setCells wr w.heap.size 0 _ = Y7 at HPOST) | fail)
            exact bodyPost_ret (results_wal (g := w.heap.size) rfl rfl HPOST.out.2 rfl) rfl HPOST.out.1
      · have e0 : (0 : Int) < (m : Int) := by omega
        obtain ⟨mk, rfl⟩ : ∃ mk, m = mk + 1 := ⟨m - 1, by omega⟩; obtain ⟨f, hf⟩ : ∃ f, (segF F)[mk]? = some f := ⟨_, List.getElem?_eq_getElem (by rw [H3.out.2.2.2.2.2.2.1]; omega)⟩; have hIm : ImgAt wr a' (segF F) := H3.out.2.2.2.2.1.rows HY.out.1 (Nat.le_refl _) (fun ad h9 => by have := H3.out.2.2.2.2.2.1 ad h9; omega) (fun f h9 => by have := H3.out.2.2.2.2.2.2.2 f h9; omega); obtain ⟨b, off, hab, q0, q1⟩ := hIm.cells mk f hf; obtain ⟨d1, d2, d3, d4, d5, d6⟩ := hIm.data f (List.mem_of_getElem? hf); have HHD : Hid (Calls _ _ _ _ _) := hasHead_any S R W3.heap.size [.int .i64 ((0 : Nat) : Int), .int .i64 ((0 : Nat) : Int)] ⟨0, 0, [], .slice none 0 0, [], .slice none 0 0⟩ f.s f.num f.b f.d.length f.p f.d wr HY.out.2 (rows_forms HY.out.1 H3.out.2.1 (by intro ty _ _; omega)) f.num_eq d4 d1 (rows_tab HY.out.1 (Tab_grown HH.out.2.1 H3.out.2.2.2.1) (by omega) (by omega)) d2 d3 d5 d6
        have HSG : Hid (∀ X : World, Calls Tryz.prog 39 #[.string f.s] X fun e w' => e = .returned (.int .i64 (f.num : Int)) ∧ w' = X) := fun X => by rw [← f.num_eq]; exact implSeg_any f.s X d4
        have hnb : f.num ≤ 99999999 := numLe f
        have HFL : Hid (((segF F).map Fi.pf).getLast? = some f.pf ∧ 0 < f.num ∧ f.num = pnum f.pf ∧ f.pf.2 = f.d ∧ ((segF F).map Fi.pf).length = mk + 1) := by
          have hlen : ((segF F).map Fi.pf).length = mk + 1 := by rw [List.length_map, H3.out.2.2.2.2.2.2.1]
          refine ⟨?_, ?_, rfl, rfl, hlen⟩
          · rw [List.getLast?_eq_getElem?, hlen]
            simp [hf]
          · have := (List.mem_filter.1 (List.mem_of_getElem? hf)).2
            simpa using this
        obtain ⟨fs, hfs⟩ : ∃ x, f.s = x := ⟨_, rfl⟩; obtain ⟨fb, hfb'⟩ : ∃ x, f.b = x := ⟨_, rfl⟩; obtain ⟨fp, hfp⟩ : ∃ x, f.p = x := ⟨_, rfl⟩; obtain ⟨fl, hfl⟩ : ∃ x, f.d.length = x := ⟨_, rfl⟩; rw [hfs, hfb', hfp, hfl] at HHD; rw [hfs] at q0 HSG; rw [hfb', hfp, hfl] at q1; subst hab; clear hIm hf d1 d2 d3 d4 d5 d6 hfs hfb' hfp hfl hm0 hlt
        have v1 : IntKind.i64.wrap (((mk : Int) + 1) - 1) = (mk : Int) := by rw [IntWalk.i64_in _ (by omega)]; omega
        have e1 : (mk : Int) < (mk : Int) + 1 := by omega
        go_wp2_with fail; refine HHD.out.mono ?_; clear HHD; rintro e w1 ⟨bo, rfl, hbo, hG1⟩; have HY1 : Hid (RowsW W3 R W3.heap.size w1 ∧ LogIn w1 R W3.heap.size (formCs S ++ [.int .i64 ((0 : Nat) : Int), .int .i64 ((0 : Nat) : Int)]) ⟨0, 0, [], .slice none 0 0, [], .slice none 0 0⟩ ∧ (bo = true ↔ HeadP f.num (scan f.d).1)) := ⟨rows_grown HY.out.1 hG1, HY.out.2.grown0 hG1, hbo⟩; have p0 : w1.cell? ⟨b, off + mk * 2, none⟩ = some (.string fs) := ((bcell hG1).1 _ _ (cell_block_lt q0)).trans q0; clear hbo hG1 HY q0 q1
        cases bo with
        | true =>
          have HY : Hid (RowsW W3 R W3.heap.size w1 ∧ LogIn w1 R W3.heap.size (formCs S ++ [.int .i64 ((0 : Nat) : Int), .int .i64 ((0 : Nat) : Int)]) ⟨0, 0, [], .slice none 0 0, [], .slice none 0 0⟩) := ⟨HY1.out.1, HY1.out.2.1⟩
          have HKS : Hid (keptP ((segF F).map Fi.pf) = ((segF F).map Fi.pf).take (mk + 1) ∧ dropP ((segF F).map Fi.pf) = decide ((0 : Nat) ≠ 0) ∧ mk + 1 ≤ mk + 1) := by
            have hd : dropP ((segF F).map Fi.pf) = false := by
              refine dropP_false HFL.out.1 ?_; rw [← HFL.out.2.2.1, HFL.out.2.2.2.1]; exact HY1.out.2.2.1 rfl
            exact ⟨by rw [keptP, hd, List.take_of_length_le (by rw [HFL.out.2.2.2.2]; exact Nat.le_refl _)]; simp, by rw [hd]; simp, Nat.le_refl _⟩
          clear p0 HSG v1 e1; go_wp2_with fail; have HE3 : Hid (W3.cell? ⟨0, 0, none⟩ = some (.iface 177 (.pointer (some ad)))) := ((bcell H3.out.2.2.2.1).1 _ _ (cell_block_lt HH.out.2.2.1)).trans HH.out.2.2.1; have HT3 : Hid (Tab W3) := Tab_grown HH.out.2.1 H3.out.2.2.2.1
          go_loopw [66] (fun i wr => ∃ (k kp : Nat) (L : Lg), k ≤ mk + 1 ∧ i = .int .i64 (k : Int) ∧ RowsW W3 R W3.heap.size wr ∧ LogIn wr R W3.heap.size (formCs S ++ [.int .i64 (kp : Int), .int .i64 ((0 : Nat) : Int)]) L ∧ wread true ⟨0, 0, []⟩ (((segF F).map Fi.pf).take (mk + 1)) = wread (decide (k = 0)) L.pl ((((segF F).map Fi.pf).take (mk + 1)).drop k) ∧ L.S.map Prod.fst = ((((segF F).map Fi.pf).take (mk + 1)).take k).map pnum ∧ kp = keepP ((((segF F).map Fi.pf).take (mk + 1)).take k)) (fun i _ => mk + 1 - (intOf i).toNat)
          case atStart => exact ⟨0, 0, ⟨0, 0, [], .slice none 0 0, [], .slice none 0 0⟩, Nat.zero_le _, rfl, HY.out.1, HY.out.2, rfl, rfl, rfl⟩
          case round =>
            obtain ⟨k, kp, L, hkl, rfl, hRr, hLr, hwr, hSr, hkp⟩ := hrel
            have hSk : L.S.length = k := by
              have h9 := congrArg List.length hSr; simp only [List.length_map, List.length_take, H3.out.2.2.2.2.2.2.1] at h9; have h8 := HKS.out.2.2
              omega
            have HR : Hid (RowsW W3 R W3.heap.size wr ∧ LogIn wr R W3.heap.size (formCs S ++ [.int .i64 (kp : Int), .int .i64 ((0 : Nat) : Int)]) L ∧ wread true ⟨0, 0, []⟩ (((segF F).map Fi.pf).take (mk + 1)) = wread (decide (k = 0)) L.pl ((((segF F).map Fi.pf).take (mk + 1)).drop k) ∧ L.S.map Prod.fst = ((((segF F).map Fi.pf).take (mk + 1)).take k).map pnum ∧ kp = keepP ((((segF F).map Fi.pf).take (mk + 1)).take k) ∧ L.S.length = k) := ⟨hRr, hLr, hwr, hSr, hkp, hSk⟩; clear hRr hLr hwr hSr hkp hSk
            by_cases hlt2 : k < mk + 1
            · obtain ⟨f, hf⟩ : ∃ f, (segF F)[k]? = some f := ⟨_, List.getElem?_eq_getElem (by rw [H3.out.2.2.2.2.2.2.1]; have h8 := HKS.out.2.2; omega)⟩; have hIm := H3.out.2.2.2.2.1.rows HR.out.1 (Nat.le_refl _) (fun ad h9 => by have := H3.out.2.2.2.2.2.1 ad h9; omega) (fun f h9 => by have := H3.out.2.2.2.2.2.2.2 f h9; omega); obtain ⟨b', off', hab, q0, q1⟩ := hIm.cells k f hf
              obtain ⟨rfl, rfl⟩ : b = b' ∧ off = off' := by simpa using hab
              obtain ⟨d1, d2, d3, d4, d5, -⟩ := hIm.data f (List.mem_of_getElem? hf); have hfb := H3.out.2.2.2.2.2.2.2 f (List.mem_of_getElem? hf); have hA := World.grownBy_alloc wr (.cells #[.string f.s, .slice (some ⟨f.b, 0, none⟩) f.d.length f.p] 48) none; have hRX := rows_grown HR.out.1 hA; have hwsz := HR.out.1.size; have HRS : Hid (Calls _ _ _ _ _) := readSegment_any S R W3.heap.size (kp : Int) ((0 : Nat) : Int) L f.s f.num f.b f.d.length f.p f.d ad (wr.alloc (.cells #[.string f.s, .slice (some ⟨f.b, 0, none⟩) f.d.length f.p] 48)) (HR.out.2.1.grown0 hA) (rows_forms hRX H3.out.2.1 (by intro ty _ _; omega)) hSl f.num_eq d4 (rows_cell hRX HE3.out (by omega) (by omega)) (d1.grown0 hA) (rows_tab hRX HT3.out (by omega) (by omega)) d2 d3 d5 (by omega) (by omega) (by have := hA.size; omega) (by rw [HR.out.2.2.2.2.2]; have h8 := HKS.out.2.2; omega); have HX : Hid (RowsW W3 R W3.heap.size (wr.alloc (.cells #[.string f.s, .slice (some ⟨f.b, 0, none⟩) f.d.length f.p] 48))) := hRX
              have HDR : Hid ((((segF F).map Fi.pf).take (mk + 1)).drop k = f.pf :: (((segF F).map Fi.pf).take (mk + 1)).drop (k + 1) ∧ (((segF F).map Fi.pf).take (mk + 1)).take (k + 1) = (((segF F).map Fi.pf).take (mk + 1)).take k ++ [f.pf] ∧ f.num = pnum f.pf ∧ f.pf.2 = f.d) := by
                have hg : (((segF F).map Fi.pf).take (mk + 1))[k]? = some f.pf := by rw [List.getElem?_take_of_lt hlt2]; simp [hf]
                refine ⟨?_, by rw [List.take_add_one, hg]; rfl, rfl, rfl⟩; obtain ⟨hi, hv⟩ := List.getElem?_eq_some_iff.1 hg; rw [List.drop_eq_getElem_cons hi, hv]
              have HXS : Hid ((((segF F).map Fi.pf).take (mk + 1)).drop (k + 1) = [] ↔ ¬ k + 1 < mk + 1) := by
                show _ ↔ _
                rw [List.drop_eq_nil_iff, List.length_take, List.length_map, H3.out.2.2.2.2.2.2.1]; have h8 := HKS.out.2.2
                omega
              obtain ⟨fs, hfs⟩ : ∃ x, f.s = x := ⟨_, rfl⟩; obtain ⟨fb, hfb'⟩ : ∃ x, f.b = x := ⟨_, rfl⟩; obtain ⟨fp, hfp⟩ : ∃ x, f.p = x := ⟨_, rfl⟩; obtain ⟨fl, hfl⟩ : ∃ x, f.d.length = x := ⟨_, rfl⟩; rw [hfs, hfb', hfp, hfl] at HRS HX; rw [hfs] at q0; rw [hfb', hfp, hfl] at q1; clear hab; clear hIm hf d1 d2 d3 d4 d5 hfb hfs hfb' hfp hfl hA hRX
              have hkI : (k : Int) < ((mk + 1 : Nat) : Int) := by omega
              go_wp2_with fail; refine HRS.out.mono ?_; clear HRS q0 q1; generalize hXX : wr.alloc (.cells #[.string fs, .slice (some ⟨fb, 0, none⟩) fl fp] 48) = X at HX; clear hXX; rintro e w9 ⟨hR9, ⟨L', f', o1, o2, rfl, o3, o4⟩ | ⟨o1, rfl⟩⟩
              · have hR39 := HX.out.trans hR9; obtain ⟨re, hre⟩ : ∃ x, (scan f.d).2.2 = x := ⟨_, rfl⟩
                have e9 : decide (k = 0) = decide (L.S = []) := by
                  have h9 := HR.out.2.2.2.2.2; rw [decide_eq_decide, ← h9, List.length_eq_zero_iff]
                have HOK : Hid (re = 0 ∨ ¬ k + 1 < mk + 1 → ∃ (kp' : Nat) (L' : Lg), RowsW W3 R W3.heap.size w9 ∧ LogIn w9 R W3.heap.size (formCs S ++ [.int .i64 (kp' : Int), .int .i64 ((0 : Nat) : Int)]) L' ∧ wread true ⟨0, 0, []⟩ (((segF F).map Fi.pf).take (mk + 1)) = wread (decide (k + 1 = 0)) L'.pl ((((segF F).map Fi.pf).take (mk + 1)).drop (k + 1)) ∧ L'.S.map Prod.fst = ((((segF F).map Fi.pf).take (mk + 1)).take (k + 1)).map pnum ∧ kp' = keepP ((((segF F).map Fi.pf).take (mk + 1)).take (k + 1))) := by
                  intro h9; refine ⟨(scan f.d).2.1, L', hR39, o3, ?_, ?_, ?_⟩
                  · rw [HR.out.2.2.1, HDR.out.1, wread, HDR.out.2.2.2, if_neg, e9, ← HDR.out.2.2.1, o1]
                    · simp
                    · rintro (h8 | ⟨h8, h7⟩)
                      · exact o2 h8
                      · rw [hre] at h8
                        rcases h9 with h9 | h9
                        · exact h8 h9
                        · exact h7 (HXS.out.2 h9)
                  · rw [o4, HDR.out.2.1, List.map_append, List.map_append, HR.out.2.2.2.1, HDR.out.2.2.1]
                    rfl
                  · rw [HDR.out.2.1, keepP_snoc, HDR.out.2.2.2]
                have HNN : Hid (re ≠ 0 → k + 1 < mk + 1 → walP (F.map Fi.pf) = none) := by
                  intro h8 h9; rw [walP, ← segF_map, if_pos HC.out, HKS.out.1, HR.out.2.2.1, HDR.out.1, wread, HDR.out.2.2.2, if_pos (.inr ⟨by rw [hre]; exact h8, fun hc => HXS.out.1 hc h9⟩)]
                  rfl
                have H39 : Hid (RowsW W3 R W3.heap.size w9) := hR39; rw [hre]; clear o1 o2 o3 o4 hR9 hR39 hre e9; have v3 : IntKind.i64.wrap ((k : Int) + 1) = (k : Int) + 1 := IntWalk.i64_in _ (by omega)
                have v4 : IntKind.i64.wrap (((mk : Int) + 1) - 1) = (mk : Int) := by rw [IntWalk.i64_in _ (by omega)] <;> omega
                rcases Classical.em (re = 0) with hz | hz
                · have t1 : ((re : Int) != 0) = false := by simp; omega
                  have HF : Hid (∃ (kp' : Nat) (L' : Lg), RowsW W3 R W3.heap.size w9 ∧ LogIn w9 R W3.heap.size (formCs S ++ [.int .i64 (kp' : Int), .int .i64 ((0 : Nat) : Int)]) L' ∧ wread true ⟨0, 0, []⟩ (((segF F).map Fi.pf).take (mk + 1)) = wread (decide (k + 1 = 0)) L'.pl ((((segF F).map Fi.pf).take (mk + 1)).drop (k + 1)) ∧ L'.S.map Prod.fst = ((((segF F).map Fi.pf).take (mk + 1)).take (k + 1)).map pnum ∧ kp' = keepP ((((segF F).map Fi.pf).take (mk + 1)).take (k + 1))) := HOK.out (.inl hz); clear hz HOK HNN; go_wp2; go_roundw
                  case rel =>
                    obtain ⟨kp', L', i1, i2, i3, i4, i5⟩ := HF.out; exact ⟨k + 1, kp', L', hlt2, by go_num, i1, i2, i3, i4, i5⟩
                  case measure => simp [intOf]; omega
                · have t1 : ((re : Int) != 0) = true := by simp; omega
                  by_cases hl2 : k + 1 < mk + 1
                  · have t2 : (k : Int) < (mk : Int) := by omega
                    have HNO : Hid (walP (F.map Fi.pf) = none) := HNN.out hz hl2; clear hz HOK HNN; have hR39 := H39.out; go_wp2; have H7 : Hid ((w9.cell? ⟨0, 0, none⟩ = some (.iface 177 (.pointer (some ad))) ∧ w9.heap[w.heap.size]? = some (.cells zWal.toArray 60 (0, 0))) ∧ w.grownBy w9 none) := ⟨⟨rows_cell hR39 HE3.out (by omega) (by omega), hR39.keep H3.out.2.2.1 (by omega) (.inl (by omega))⟩, RowsW.grown0 H3.out.2.2.2.1 hR39 (by omega) (by omega)⟩; refine wp_region_Z (fun V => V.cell? ⟨0, 0, none⟩ = some (.iface 177 (.pointer (some ad))) ∧ V.heap[w.heap.size]? = some (.cells zWal.toArray 60 (0, 0))) (fun _ => false) (by kernel_rfl) ?_; have hS : w9.drew.cell? ⟨0, 0, none⟩ = some (.iface 177 (.pointer (some ad))) ∧ w9.drew.heap[w.heap.size]? = some (.cells zWal.toArray 60 (0, 0)) := H7.out.1; refine wpAnyZ_take' (i := 0) (v := ?vz13) rfl (by kernel_rfl) (by kernel_rfl) (by kernel_rfl) (fun _ _ _ h => h) (Or.inl ⟨by rfl, ?yz13⟩) ?rz13
                    case yz13 => (intro w _; go_simp; first | done | with_reducible rfl)
                    simp only [Act.put, List.setIfInBounds_toArray, List.set_cons_zero, List.set_cons_succ]; refine wpAnyZ_loadS (i := 1) (v := ?vz14) rfl (by kernel_rfl) (by kernel_rfl) (by kernel_rfl) (fun _ _ _ h => h) (fun _ => rfl) (Or.inl ⟨by rfl, ?yz14⟩) hS ?rz14
                    case yz14 => (intro W hW; have c0 : W.cell? ⟨0, 0, none⟩ = some (.iface 177 (.pointer (some ad))) := hW.1; go_simp; first | done | with_reducible rfl)
                    simp only [Act.put, List.setIfInBounds_toArray, List.set_cons_zero, List.set_cons_succ]; refine wpAnyZ_one' (i := 2) (by kernel_rfl) rfl (fun K hK => ?_); refine step_store_mid (by rfl) _ (.tmp 2) (.tmp 89) (by rfl) w.heap.size 0 zWal.toArray (by rfl) (by rfl) (there_blk (vs := zWal) hS.2 rfl) (by show _ = some 30; kernel_rfl) (all_oneCell_toArray (List.all_eq_true.1 rfl)) ?_; refine hK.out _ _ (fun _ h => ⟨(World.cell?_of_block (setCells_oth w.heap.size 0 (by show 0 ≠ w.heap.size; omega) _ _ _)).trans h.1, setCells_all h.2 rfl⟩) ?_; clear hK K; simp only [Act.put]; have HFIN : Hid (w.grownBy (w9.drew.setCells w.heap.size 0 zWal) none ∧ (w9.drew.setCells w.heap.size 0 zWal).heap[w.heap.size]? = some (.cells zWal.toArray 60 (0, 0))) := ⟨grownBy_setCellsN (Nat.le_refl _) _ _ _ (grownBy_drew H7.out.2), setCells_all hS.2 rfl⟩; generalize w9.drew.setCells w.heap.size 0 _ = X7 at HFIN ⊢; clear hS; refine wpAnyZ_take' (i := 3) (v := ?vz15) rfl (by kernel_rfl) (by kernel_rfl) (by kernel_rfl) (fun _ _ _ h => h) (Or.inl ⟨by rfl, ?yz15⟩) ?rz15
                    case yz15 => (intro w _; go_simp; first | done | with_reducible rfl)
                    simp only [Act.put, List.setIfInBounds_toArray, List.set_cons_zero, List.set_cons_succ]; refine wpAnyZ_done (by kernel_rfl) ?_ _; go_wp2; refine bodyPost_ret (results_wal (g := w.heap.size) rfl rfl HFIN.out.2 rfl) rfl ?_; exact ⟨HFIN.out.1, .inr ⟨HNO.out, rfl⟩⟩
                  · have t2 : ¬ (k : Int) < (mk : Int) := by omega
                    have HF : Hid (∃ (kp' : Nat) (L' : Lg), RowsW W3 R W3.heap.size w9 ∧ LogIn w9 R W3.heap.size (formCs S ++ [.int .i64 (kp' : Int), .int .i64 ((0 : Nat) : Int)]) L' ∧ wread true ⟨0, 0, []⟩ (((segF F).map Fi.pf).take (mk + 1)) = wread (decide (k + 1 = 0)) L'.pl ((((segF F).map Fi.pf).take (mk + 1)).drop (k + 1)) ∧ L'.S.map Prod.fst = ((((segF F).map Fi.pf).take (mk + 1)).take (k + 1)).map pnum ∧ kp' = keepP ((((segF F).map Fi.pf).take (mk + 1)).take (k + 1))) := HOK.out (.inr hl2); clear hz HOK HNN hl2; go_wp2; go_roundw
                    case rel =>
                      obtain ⟨kp', L', i1, i2, i3, i4, i5⟩ := HF.out; exact ⟨k + 1, kp', L', hlt2, by go_num, i1, i2, i3, i4, i5⟩
                    case measure => simp [intOf]; omega
              · have hR39 := HX.out.trans hR9
                have HNO : Hid (walP (F.map Fi.pf) = none) := by
                  show _ = _
                  rw [walP, ← segF_map, if_pos HC.out, HKS.out.1, HR.out.2.2.1, HDR.out.1, wread, HDR.out.2.2.2]
                  rcases o1 with o1 | o1
                  · split
                    · rfl
                    · have e9 : decide (k = 0) = decide (L.S = []) := by
                        have h9 := HR.out.2.2.2.2.2; rw [decide_eq_decide, ← h9, List.length_eq_zero_iff]
                      rw [e9, ← HDR.out.2.2.1, o1]
                      rfl
                  · rw [if_pos (.inl o1)]
                    rfl
                clear o1; go_wp2; have H7 : Hid ((w9.cell? ⟨0, 0, none⟩ = some (.iface 177 (.pointer (some ad))) ∧ w9.heap[w.heap.size]? = some (.cells zWal.toArray 60 (0, 0))) ∧ w.grownBy w9 none) := ⟨⟨rows_cell hR39 HE3.out (by omega) (by omega), hR39.keep H3.out.2.2.1 (by omega) (.inl (by omega))⟩, RowsW.grown0 H3.out.2.2.2.1 hR39 (by omega) (by omega)⟩; refine wp_region_Z (fun V => V.cell? ⟨0, 0, none⟩ = some (.iface 177 (.pointer (some ad))) ∧ V.heap[w.heap.size]? = some (.cells zWal.toArray 60 (0, 0))) (fun _ => false) (by kernel_rfl) ?_; have hS : w9.drew.cell? ⟨0, 0, none⟩ = some (.iface 177 (.pointer (some ad))) ∧ w9.drew.heap[w.heap.size]? = some (.cells zWal.toArray 60 (0, 0)) := H7.out.1; refine wpAnyZ_take' (i := 0) (v := ?vz10) rfl (by kernel_rfl) (by kernel_rfl) (by kernel_rfl) (fun _ _ _ h => h) (Or.inl ⟨by rfl, ?yz10⟩) ?rz10
                case yz10 => (intro w _; go_simp; first | done | with_reducible rfl)
                simp only [Act.put, List.setIfInBounds_toArray, List.set_cons_zero, List.set_cons_succ]; refine wpAnyZ_loadS (i := 1) (v := ?vz11) rfl (by kernel_rfl) (by kernel_rfl) (by kernel_rfl) (fun _ _ _ h => h) (fun _ => rfl) (Or.inl ⟨by rfl, ?yz11⟩) hS ?rz11
                case yz11 => (intro W hW; have c0 : W.cell? ⟨0, 0, none⟩ = some (.iface 177 (.pointer (some ad))) := hW.1; go_simp; first | done | with_reducible rfl)
                simp only [Act.put, List.setIfInBounds_toArray, List.set_cons_zero, List.set_cons_succ]; refine wpAnyZ_one' (i := 2) (by kernel_rfl) rfl (fun K hK => ?_); refine step_store_mid (by rfl) _ (.tmp 2) (.tmp 89) (by rfl) w.heap.size 0 zWal.toArray (by rfl) (by rfl) (there_blk (vs := zWal) hS.2 rfl) (by show _ = some 30; kernel_rfl) (all_oneCell_toArray (List.all_eq_true.1 rfl)) ?_; refine hK.out _ _ (fun _ h => ⟨(World.cell?_of_block (setCells_oth w.heap.size 0 (by show 0 ≠ w.heap.size; omega) _ _ _)).trans h.1, setCells_all h.2 rfl⟩) ?_; clear hK K; simp only [Act.put]; have HFIN : Hid (w.grownBy (w9.drew.setCells w.heap.size 0 zWal) none ∧ (w9.drew.setCells w.heap.size 0 zWal).heap[w.heap.size]? = some (.cells zWal.toArray 60 (0, 0))) := ⟨grownBy_setCellsN (Nat.le_refl _) _ _ _ (grownBy_drew H7.out.2), setCells_all hS.2 rfl⟩; generalize w9.drew.setCells w.heap.size 0 _ = X7 at HFIN ⊢; clear hS; refine wpAnyZ_take' (i := 3) (v := ?vz12) rfl (by kernel_rfl) (by kernel_rfl) (by kernel_rfl) (fun _ _ _ h => h) (Or.inl ⟨by rfl, ?yz12⟩) ?rz12
                case yz12 => (intro w _; go_simp; first | done | with_reducible rfl)
                simp only [Act.put, List.setIfInBounds_toArray, List.set_cons_zero, List.set_cons_succ]; refine wpAnyZ_done (by kernel_rfl) ?_ _; go_wp2; refine bodyPost_ret (results_wal (g := w.heap.size) rfl rfl HFIN.out.2 rfl) rfl ?_; exact ⟨HFIN.out.1, .inr ⟨HNO.out, rfl⟩⟩
            · obtain rfl : mk + 1 = k := by omega
              have hkI : ¬ ((mk + 1 : Nat) : Int) < ((mk + 1 : Nat) : Int) := by omega
              have HRG : Hid (wr.rangeAt R 0 (logVs L S kp ((0 : Nat) : Int)) ∧ wr.there w.heap.size 0 30 ∧ (logVs L S kp ((0 : Nat) : Int)).toArray.all (·.oneCell') = true ∧ wr.heap[w.heap.size]? = some (.cells zWal.toArray 60 (0, 0))) := by
                have hC := HR.out.1.keep H3.out.2.2.1 (by omega) (.inl (by omega)); exact ⟨range_blk HR.out.2.1.box, there_blk (vs := zWal) hC rfl, logVs_one HR.out.2.1 _ _ _, hC⟩
              have HPOST : Hid (LogOut w F ad (.returned (.tuple #[.agg (logVs L S kp ((0 : Nat) : Int)).toArray, .nilIface])) (wr.setCells w.heap.size 0 (logVs L S kp ((0 : Nat) : Int))) ∧ (wr.setCells w.heap.size 0 (logVs L S kp ((0 : Nat) : Int))).heap[w.heap.size]? = some (.cells (logVs L S kp ((0 : Nat) : Int)).toArray 60 (0, 0))) := by
                refine ⟨⟨grownBy_setCellsN (Nat.le_refl _) _ _ _ (RowsW.grown0 H3.out.2.2.2.1 HR.out.1 (by omega) (by omega)), .inl ⟨S, R, W3.heap.size, kp, 0, L, by omega, ?_, ?_, rfl⟩⟩, setCells_all HRG.out.2.2.2 rfl⟩
                · exact HR.out.2.1.grownOff (grownBy_cells _ _ _ (grownBy_refl _ _)) (HR.out.2.1.off HRG.out.2.2.2 (by omega) (fun c t f e => by injection e with _ e _; subst e; decide))
                · have hd : (((segF F).map Fi.pf).take (mk + 1)).drop (mk + 1) = [] := List.drop_eq_nil_of_le (List.length_take_le _ _); have htk : (((segF F).map Fi.pf).take (mk + 1)).take (mk + 1) = (((segF F).map Fi.pf).take (mk + 1)) := List.take_of_length_le (List.length_take_le _ _); rw [walP, ← segF_map, if_pos HC.out, HKS.out.1, HKS.out.2.1, HR.out.2.2.1, hd, HR.out.2.2.2.1, HR.out.2.2.2.2.1, htk]
                  rfl
              clear HR
              go_wp2_with (first | (refine wpList_load_mid (by rfl) _ (.tmp 4) (by rfl) R 0 (by rfl) (logVs L S kp ((0 : Nat) : Int)) _ HRG.out.1 Tryz.underlying60 rfl (by show _ = some 30; exact Tryz.sizeWal) ?_; simp only [Act.put]) | (refine wpList_store_mid (by rfl) _ (.tmp 2) (.tmp 92) (by rfl) w.heap.size 0 (logVs L S kp ((0 : Nat) : Int)).toArray (by rfl) (by rfl) HRG.out.2.1 (by show _ = some 30; exact Tryz.sizeWal) HRG.out.2.2.1 ?_; simp only [Act.put]; generalize World.setCells wr w.heap.size 0 _ = Y7 at HPOST) | fail)
              exact bodyPost_ret (results_wal (g := w.heap.size) rfl rfl HPOST.out.2 rfl) rfl HPOST.out.1
        | false =>
          have hRl := HY1.out.2.1.cells.2.2.2.2.2
          have x29 : w1.cell? ⟨R, 29, none⟩ = some (.int .i64 ((0 : Nat) : Int)) := by rw [cell_of_row w1 R _ _ _ _ HY1.out.2.1.box]; rfl
          have xf : w1.frozen? ⟨R, 29, none⟩ = false := HY1.out.2.1.cells.2.2.2.2.1 29; obtain ⟨dr, hdr⟩ : ∃ dr, f.num = dr := ⟨_, rfl⟩
          have HKS : Hid (keptP ((segF F).map Fi.pf) = ((segF F).map Fi.pf).take mk ∧ dropP ((segF F).map Fi.pf) = decide (dr ≠ 0) ∧ mk ≤ mk + 1) := by
            have hd : dropP ((segF F).map Fi.pf) = true := by
              refine dropP_true HFL.out.1 (fun hc => ?_); rw [← HFL.out.2.2.1, HFL.out.2.2.2.1] at hc; exact absurd (HY1.out.2.2.2 hc) (by simp)
            refine ⟨by rw [keptP, hd, if_pos rfl, List.dropLast_eq_take, HFL.out.2.2.2.2]; rfl, ?_, by omega⟩; rw [hd]; have := HFL.out.2.1
            simp
            omega
          rw [hdr] at HSG; have HY : Hid (RowsW W3 R W3.heap.size (w1.setCell ⟨R, 29, none⟩ (.int .i64 (dr : Int))) ∧ LogIn (w1.setCell ⟨R, 29, none⟩ (.int .i64 (dr : Int))) R W3.heap.size (formCs S ++ [.int .i64 ((0 : Nat) : Int), .int .i64 (dr : Int)]) ⟨0, 0, [], .slice none 0 0, [], .slice none 0 0⟩) := ⟨HY1.out.1.trans (RowsW.of_box (grownBy_setCell (grownBy_refl _ _))), HY1.out.2.1.setDrop _⟩; clear hdr HFL hnb HY1
          have e5 : (mk : Int) ≤ (cp : Int) := by omega
          have e6 : (0 : Int) ≤ (mk : Int) := by omega
          go_wp2_with fail; refine (HSG.out _).mono ?_; rintro e w2 ⟨rfl, rfl⟩; clear HSG p0; go_wp2_with fail; generalize w2.setCell ⟨R, 29, none⟩ (.int .i64 (dr : Int)) = Y at HY ⊢; clear e0 e1 e5 e6 v1 x29 xf; have HE3 : Hid (W3.cell? ⟨0, 0, none⟩ = some (.iface 177 (.pointer (some ad)))) := ((bcell H3.out.2.2.2.1).1 _ _ (cell_block_lt HH.out.2.2.1)).trans HH.out.2.2.1; have HT3 : Hid (Tab W3) := Tab_grown HH.out.2.1 H3.out.2.2.2.1
          go_loopw [66] (fun i wr => ∃ (k kp : Nat) (L : Lg), k ≤ mk ∧ i = .int .i64 (k : Int) ∧ RowsW W3 R W3.heap.size wr ∧ LogIn wr R W3.heap.size (formCs S ++ [.int .i64 (kp : Int), .int .i64 ((dr : Nat) : Int)]) L ∧ wread true ⟨0, 0, []⟩ (((segF F).map Fi.pf).take (mk)) = wread (decide (k = 0)) L.pl ((((segF F).map Fi.pf).take (mk)).drop k) ∧ L.S.map Prod.fst = ((((segF F).map Fi.pf).take (mk)).take k).map pnum ∧ kp = keepP ((((segF F).map Fi.pf).take (mk)).take k)) (fun i _ => mk - (intOf i).toNat)
          case atStart => exact ⟨0, 0, ⟨0, 0, [], .slice none 0 0, [], .slice none 0 0⟩, Nat.zero_le _, rfl, HY.out.1, HY.out.2, rfl, rfl, rfl⟩
          case round =>
            obtain ⟨k, kp, L, hkl, rfl, hRr, hLr, hwr, hSr, hkp⟩ := hrel
            have hSk : L.S.length = k := by
              have h9 := congrArg List.length hSr; simp only [List.length_map, List.length_take, H3.out.2.2.2.2.2.2.1] at h9; have h8 := HKS.out.2.2
              omega
            have HR : Hid (RowsW W3 R W3.heap.size wr ∧ LogIn wr R W3.heap.size (formCs S ++ [.int .i64 (kp : Int), .int .i64 ((dr : Nat) : Int)]) L ∧ wread true ⟨0, 0, []⟩ (((segF F).map Fi.pf).take (mk)) = wread (decide (k = 0)) L.pl ((((segF F).map Fi.pf).take (mk)).drop k) ∧ L.S.map Prod.fst = ((((segF F).map Fi.pf).take (mk)).take k).map pnum ∧ kp = keepP ((((segF F).map Fi.pf).take (mk)).take k) ∧ L.S.length = k) := ⟨hRr, hLr, hwr, hSr, hkp, hSk⟩; clear hRr hLr hwr hSr hkp hSk
            by_cases hlt2 : k < mk
            · obtain ⟨f, hf⟩ : ∃ f, (segF F)[k]? = some f := ⟨_, List.getElem?_eq_getElem (by rw [H3.out.2.2.2.2.2.2.1]; have h8 := HKS.out.2.2; omega)⟩; have hIm := H3.out.2.2.2.2.1.rows HR.out.1 (Nat.le_refl _) (fun ad h9 => by have := H3.out.2.2.2.2.2.1 ad h9; omega) (fun f h9 => by have := H3.out.2.2.2.2.2.2.2 f h9; omega); obtain ⟨b', off', hab, q0, q1⟩ := hIm.cells k f hf
              obtain ⟨rfl, rfl⟩ : b = b' ∧ off = off' := by simpa using hab
              obtain ⟨d1, d2, d3, d4, d5, -⟩ := hIm.data f (List.mem_of_getElem? hf); have hfb := H3.out.2.2.2.2.2.2.2 f (List.mem_of_getElem? hf); have hA := World.grownBy_alloc wr (.cells #[.string f.s, .slice (some ⟨f.b, 0, none⟩) f.d.length f.p] 48) none; have hRX := rows_grown HR.out.1 hA; have hwsz := HR.out.1.size; have HRS : Hid (Calls _ _ _ _ _) := readSegment_any S R W3.heap.size (kp : Int) ((dr : Nat) : Int) L f.s f.num f.b f.d.length f.p f.d ad (wr.alloc (.cells #[.string f.s, .slice (some ⟨f.b, 0, none⟩) f.d.length f.p] 48)) (HR.out.2.1.grown0 hA) (rows_forms hRX H3.out.2.1 (by intro ty _ _; omega)) hSl f.num_eq d4 (rows_cell hRX HE3.out (by omega) (by omega)) (d1.grown0 hA) (rows_tab hRX HT3.out (by omega) (by omega)) d2 d3 d5 (by omega) (by omega) (by have := hA.size; omega) (by rw [HR.out.2.2.2.2.2]; have h8 := HKS.out.2.2; omega); have HX : Hid (RowsW W3 R W3.heap.size (wr.alloc (.cells #[.string f.s, .slice (some ⟨f.b, 0, none⟩) f.d.length f.p] 48))) := hRX
              have HDR : Hid ((((segF F).map Fi.pf).take (mk)).drop k = f.pf :: (((segF F).map Fi.pf).take (mk)).drop (k + 1) ∧ (((segF F).map Fi.pf).take (mk)).take (k + 1) = (((segF F).map Fi.pf).take (mk)).take k ++ [f.pf] ∧ f.num = pnum f.pf ∧ f.pf.2 = f.d) := by
                have hg : (((segF F).map Fi.pf).take (mk))[k]? = some f.pf := by rw [List.getElem?_take_of_lt hlt2]; simp [hf]
                refine ⟨?_, by rw [List.take_add_one, hg]; rfl, rfl, rfl⟩; obtain ⟨hi, hv⟩ := List.getElem?_eq_some_iff.1 hg; rw [List.drop_eq_getElem_cons hi, hv]
              have HXS : Hid ((((segF F).map Fi.pf).take (mk)).drop (k + 1) = [] ↔ ¬ k + 1 < mk) := by
                show _ ↔ _
                rw [List.drop_eq_nil_iff, List.length_take, List.length_map, H3.out.2.2.2.2.2.2.1]; have h8 := HKS.out.2.2
                omega
              obtain ⟨fs, hfs⟩ : ∃ x, f.s = x := ⟨_, rfl⟩; obtain ⟨fb, hfb'⟩ : ∃ x, f.b = x := ⟨_, rfl⟩; obtain ⟨fp, hfp⟩ : ∃ x, f.p = x := ⟨_, rfl⟩; obtain ⟨fl, hfl⟩ : ∃ x, f.d.length = x := ⟨_, rfl⟩; rw [hfs, hfb', hfp, hfl] at HRS HX; rw [hfs] at q0; rw [hfb', hfp, hfl] at q1; clear hab; clear hIm hf d1 d2 d3 d4 d5 hfb hfs hfb' hfp hfl hA hRX
              have hkI : (k : Int) < ((mk : Nat) : Int) := by omega
              go_wp2_with fail; refine HRS.out.mono ?_; clear HRS q0 q1; generalize hXX : wr.alloc (.cells #[.string fs, .slice (some ⟨fb, 0, none⟩) fl fp] 48) = X at HX; clear hXX; rintro e w9 ⟨hR9, ⟨L', f', o1, o2, rfl, o3, o4⟩ | ⟨o1, rfl⟩⟩
              · have hR39 := HX.out.trans hR9; obtain ⟨re, hre⟩ : ∃ x, (scan f.d).2.2 = x := ⟨_, rfl⟩
                have e9 : decide (k = 0) = decide (L.S = []) := by
                  have h9 := HR.out.2.2.2.2.2; rw [decide_eq_decide, ← h9, List.length_eq_zero_iff]
                have HOK : Hid (re = 0 ∨ ¬ k + 1 < mk → ∃ (kp' : Nat) (L' : Lg), RowsW W3 R W3.heap.size w9 ∧ LogIn w9 R W3.heap.size (formCs S ++ [.int .i64 (kp' : Int), .int .i64 ((dr : Nat) : Int)]) L' ∧ wread true ⟨0, 0, []⟩ (((segF F).map Fi.pf).take (mk)) = wread (decide (k + 1 = 0)) L'.pl ((((segF F).map Fi.pf).take (mk)).drop (k + 1)) ∧ L'.S.map Prod.fst = ((((segF F).map Fi.pf).take (mk)).take (k + 1)).map pnum ∧ kp' = keepP ((((segF F).map Fi.pf).take (mk)).take (k + 1))) := by
                  intro h9; refine ⟨(scan f.d).2.1, L', hR39, o3, ?_, ?_, ?_⟩
                  · rw [HR.out.2.2.1, HDR.out.1, wread, HDR.out.2.2.2, if_neg, e9, ← HDR.out.2.2.1, o1]
                    · simp
                    · rintro (h8 | ⟨h8, h7⟩)
                      · exact o2 h8
                      · rw [hre] at h8
                        rcases h9 with h9 | h9
                        · exact h8 h9
                        · exact h7 (HXS.out.2 h9)
                  · rw [o4, HDR.out.2.1, List.map_append, List.map_append, HR.out.2.2.2.1, HDR.out.2.2.1]
                    rfl
                  · rw [HDR.out.2.1, keepP_snoc, HDR.out.2.2.2]
                have HNN : Hid (re ≠ 0 → k + 1 < mk → walP (F.map Fi.pf) = none) := by
                  intro h8 h9; rw [walP, ← segF_map, if_pos HC.out, HKS.out.1, HR.out.2.2.1, HDR.out.1, wread, HDR.out.2.2.2, if_pos (.inr ⟨by rw [hre]; exact h8, fun hc => HXS.out.1 hc h9⟩)]
                  rfl
                have H39 : Hid (RowsW W3 R W3.heap.size w9) := hR39; rw [hre]; clear o1 o2 o3 o4 hR9 hR39 hre e9; have v3 : IntKind.i64.wrap ((k : Int) + 1) = (k : Int) + 1 := IntWalk.i64_in _ (by omega)
                have v4 : IntKind.i64.wrap ((mk : Int) - 1) = (mk : Int) - 1 := by rw [IntWalk.i64_in _ (by omega)] <;> omega
                rcases Classical.em (re = 0) with hz | hz
                · have t1 : ((re : Int) != 0) = false := by simp; omega
                  have HF : Hid (∃ (kp' : Nat) (L' : Lg), RowsW W3 R W3.heap.size w9 ∧ LogIn w9 R W3.heap.size (formCs S ++ [.int .i64 (kp' : Int), .int .i64 ((dr : Nat) : Int)]) L' ∧ wread true ⟨0, 0, []⟩ (((segF F).map Fi.pf).take (mk)) = wread (decide (k + 1 = 0)) L'.pl ((((segF F).map Fi.pf).take (mk)).drop (k + 1)) ∧ L'.S.map Prod.fst = ((((segF F).map Fi.pf).take (mk)).take (k + 1)).map pnum ∧ kp' = keepP ((((segF F).map Fi.pf).take (mk)).take (k + 1))) := HOK.out (.inl hz); clear hz HOK HNN; go_wp2; go_roundw
                  case rel =>
                    obtain ⟨kp', L', i1, i2, i3, i4, i5⟩ := HF.out; exact ⟨k + 1, kp', L', hlt2, by go_num, i1, i2, i3, i4, i5⟩
                  case measure => simp [intOf]; omega
                · have t1 : ((re : Int) != 0) = true := by simp; omega
                  by_cases hl2 : k + 1 < mk
                  · have t2 : (k : Int) < (mk : Int) - 1 := by omega
                    have HNO : Hid (walP (F.map Fi.pf) = none) := HNN.out hz hl2; clear hz HOK HNN; have hR39 := H39.out; go_wp2; have H7 : Hid ((w9.cell? ⟨0, 0, none⟩ = some (.iface 177 (.pointer (some ad))) ∧ w9.heap[w.heap.size]? = some (.cells zWal.toArray 60 (0, 0))) ∧ w.grownBy w9 none) := ⟨⟨rows_cell hR39 HE3.out (by omega) (by omega), hR39.keep H3.out.2.2.1 (by omega) (.inl (by omega))⟩, RowsW.grown0 H3.out.2.2.2.1 hR39 (by omega) (by omega)⟩; refine wp_region_Z (fun V => V.cell? ⟨0, 0, none⟩ = some (.iface 177 (.pointer (some ad))) ∧ V.heap[w.heap.size]? = some (.cells zWal.toArray 60 (0, 0))) (fun _ => false) (by kernel_rfl) ?_; have hS : w9.drew.cell? ⟨0, 0, none⟩ = some (.iface 177 (.pointer (some ad))) ∧ w9.drew.heap[w.heap.size]? = some (.cells zWal.toArray 60 (0, 0)) := H7.out.1; refine wpAnyZ_take' (i := 0) (v := ?vz19) rfl (by kernel_rfl) (by kernel_rfl) (by kernel_rfl) (fun _ _ _ h => h) (Or.inl ⟨by rfl, ?yz19⟩) ?rz19
                    case yz19 => (intro w _; go_simp; first | done | with_reducible rfl)
                    simp only [Act.put, List.setIfInBounds_toArray, List.set_cons_zero, List.set_cons_succ]; refine wpAnyZ_loadS (i := 1) (v := ?vz20) rfl (by kernel_rfl) (by kernel_rfl) (by kernel_rfl) (fun _ _ _ h => h) (fun _ => rfl) (Or.inl ⟨by rfl, ?yz20⟩) hS ?rz20
                    case yz20 => (intro W hW; have c0 : W.cell? ⟨0, 0, none⟩ = some (.iface 177 (.pointer (some ad))) := hW.1; go_simp; first | done | with_reducible rfl)
                    simp only [Act.put, List.setIfInBounds_toArray, List.set_cons_zero, List.set_cons_succ]; refine wpAnyZ_one' (i := 2) (by kernel_rfl) rfl (fun K hK => ?_); refine step_store_mid (by rfl) _ (.tmp 2) (.tmp 89) (by rfl) w.heap.size 0 zWal.toArray (by rfl) (by rfl) (there_blk (vs := zWal) hS.2 rfl) (by show _ = some 30; kernel_rfl) (all_oneCell_toArray (List.all_eq_true.1 rfl)) ?_; refine hK.out _ _ (fun _ h => ⟨(World.cell?_of_block (setCells_oth w.heap.size 0 (by show 0 ≠ w.heap.size; omega) _ _ _)).trans h.1, setCells_all h.2 rfl⟩) ?_; clear hK K; simp only [Act.put]; have HFIN : Hid (w.grownBy (w9.drew.setCells w.heap.size 0 zWal) none ∧ (w9.drew.setCells w.heap.size 0 zWal).heap[w.heap.size]? = some (.cells zWal.toArray 60 (0, 0))) := ⟨grownBy_setCellsN (Nat.le_refl _) _ _ _ (grownBy_drew H7.out.2), setCells_all hS.2 rfl⟩; generalize w9.drew.setCells w.heap.size 0 _ = X7 at HFIN ⊢; clear hS; refine wpAnyZ_take' (i := 3) (v := ?vz21) rfl (by kernel_rfl) (by kernel_rfl) (by kernel_rfl) (fun _ _ _ h => h) (Or.inl ⟨by rfl, ?yz21⟩) ?rz21
                    case yz21 => (intro w _; go_simp; first | done | with_reducible rfl)
                    simp only [Act.put, List.setIfInBounds_toArray, List.set_cons_zero, List.set_cons_succ]; refine wpAnyZ_done (by kernel_rfl) ?_ _; go_wp2; refine bodyPost_ret (results_wal (g := w.heap.size) rfl rfl HFIN.out.2 rfl) rfl ?_; exact ⟨HFIN.out.1, .inr ⟨HNO.out, rfl⟩⟩
                  · have t2 : ¬ (k : Int) < (mk : Int) - 1 := by omega
                    have HF : Hid (∃ (kp' : Nat) (L' : Lg), RowsW W3 R W3.heap.size w9 ∧ LogIn w9 R W3.heap.size (formCs S ++ [.int .i64 (kp' : Int), .int .i64 ((dr : Nat) : Int)]) L' ∧ wread true ⟨0, 0, []⟩ (((segF F).map Fi.pf).take (mk)) = wread (decide (k + 1 = 0)) L'.pl ((((segF F).map Fi.pf).take (mk)).drop (k + 1)) ∧ L'.S.map Prod.fst = ((((segF F).map Fi.pf).take (mk)).take (k + 1)).map pnum ∧ kp' = keepP ((((segF F).map Fi.pf).take (mk)).take (k + 1))) := HOK.out (.inr hl2); clear hz HOK HNN hl2; go_wp2; go_roundw
                    case rel =>
                      obtain ⟨kp', L', i1, i2, i3, i4, i5⟩ := HF.out; exact ⟨k + 1, kp', L', hlt2, by go_num, i1, i2, i3, i4, i5⟩
                    case measure => simp [intOf]; omega
              · have hR39 := HX.out.trans hR9
                have HNO : Hid (walP (F.map Fi.pf) = none) := by
                  show _ = _
                  rw [walP, ← segF_map, if_pos HC.out, HKS.out.1, HR.out.2.2.1, HDR.out.1, wread, HDR.out.2.2.2]
                  rcases o1 with o1 | o1
                  · split
                    · rfl
                    · have e9 : decide (k = 0) = decide (L.S = []) := by
                        have h9 := HR.out.2.2.2.2.2; rw [decide_eq_decide, ← h9, List.length_eq_zero_iff]
                      rw [e9, ← HDR.out.2.2.1, o1]
                      rfl
                  · rw [if_pos (.inl o1)]
                    rfl
                clear o1; go_wp2; have H7 : Hid ((w9.cell? ⟨0, 0, none⟩ = some (.iface 177 (.pointer (some ad))) ∧ w9.heap[w.heap.size]? = some (.cells zWal.toArray 60 (0, 0))) ∧ w.grownBy w9 none) := ⟨⟨rows_cell hR39 HE3.out (by omega) (by omega), hR39.keep H3.out.2.2.1 (by omega) (.inl (by omega))⟩, RowsW.grown0 H3.out.2.2.2.1 hR39 (by omega) (by omega)⟩; refine wp_region_Z (fun V => V.cell? ⟨0, 0, none⟩ = some (.iface 177 (.pointer (some ad))) ∧ V.heap[w.heap.size]? = some (.cells zWal.toArray 60 (0, 0))) (fun _ => false) (by kernel_rfl) ?_; have hS : w9.drew.cell? ⟨0, 0, none⟩ = some (.iface 177 (.pointer (some ad))) ∧ w9.drew.heap[w.heap.size]? = some (.cells zWal.toArray 60 (0, 0)) := H7.out.1; refine wpAnyZ_take' (i := 0) (v := ?vz16) rfl (by kernel_rfl) (by kernel_rfl) (by kernel_rfl) (fun _ _ _ h => h) (Or.inl ⟨by rfl, ?yz16⟩) ?rz16
                case yz16 => (intro w _; go_simp; first | done | with_reducible rfl)
                simp only [Act.put, List.setIfInBounds_toArray, List.set_cons_zero, List.set_cons_succ]; refine wpAnyZ_loadS (i := 1) (v := ?vz17) rfl (by kernel_rfl) (by kernel_rfl) (by kernel_rfl) (fun _ _ _ h => h) (fun _ => rfl) (Or.inl ⟨by rfl, ?yz17⟩) hS ?rz17
                case yz17 => (intro W hW; have c0 : W.cell? ⟨0, 0, none⟩ = some (.iface 177 (.pointer (some ad))) := hW.1; go_simp; first | done | with_reducible rfl)
                simp only [Act.put, List.setIfInBounds_toArray, List.set_cons_zero, List.set_cons_succ]; refine wpAnyZ_one' (i := 2) (by kernel_rfl) rfl (fun K hK => ?_); refine step_store_mid (by rfl) _ (.tmp 2) (.tmp 89) (by rfl) w.heap.size 0 zWal.toArray (by rfl) (by rfl) (there_blk (vs := zWal) hS.2 rfl) (by show _ = some 30; kernel_rfl) (all_oneCell_toArray (List.all_eq_true.1 rfl)) ?_; refine hK.out _ _ (fun _ h => ⟨(World.cell?_of_block (setCells_oth w.heap.size 0 (by show 0 ≠ w.heap.size; omega) _ _ _)).trans h.1, setCells_all h.2 rfl⟩) ?_; clear hK K; simp only [Act.put]; have HFIN : Hid (w.grownBy (w9.drew.setCells w.heap.size 0 zWal) none ∧ (w9.drew.setCells w.heap.size 0 zWal).heap[w.heap.size]? = some (.cells zWal.toArray 60 (0, 0))) := ⟨grownBy_setCellsN (Nat.le_refl _) _ _ _ (grownBy_drew H7.out.2), setCells_all hS.2 rfl⟩; generalize w9.drew.setCells w.heap.size 0 _ = X7 at HFIN ⊢; clear hS; refine wpAnyZ_take' (i := 3) (v := ?vz18) rfl (by kernel_rfl) (by kernel_rfl) (by kernel_rfl) (fun _ _ _ h => h) (Or.inl ⟨by rfl, ?yz18⟩) ?rz18
                case yz18 => (intro w _; go_simp; first | done | with_reducible rfl)
                simp only [Act.put, List.setIfInBounds_toArray, List.set_cons_zero, List.set_cons_succ]; refine wpAnyZ_done (by kernel_rfl) ?_ _; go_wp2; refine bodyPost_ret (results_wal (g := w.heap.size) rfl rfl HFIN.out.2 rfl) rfl ?_; exact ⟨HFIN.out.1, .inr ⟨HNO.out, rfl⟩⟩
            · obtain rfl : mk = k := by omega
              have hkI : ¬ ((mk : Nat) : Int) < ((mk : Nat) : Int) := by omega
              have HRG : Hid (wr.rangeAt R 0 (logVs L S kp ((dr : Nat) : Int)) ∧ wr.there w.heap.size 0 30 ∧ (logVs L S kp ((dr : Nat) : Int)).toArray.all (·.oneCell') = true ∧ wr.heap[w.heap.size]? = some (.cells zWal.toArray 60 (0, 0))) := by
                have hC := HR.out.1.keep H3.out.2.2.1 (by omega) (.inl (by omega)); exact ⟨range_blk HR.out.2.1.box, there_blk (vs := zWal) hC rfl, logVs_one HR.out.2.1 _ _ _, hC⟩
              have HPOST : Hid (LogOut w F ad (.returned (.tuple #[.agg (logVs L S kp ((dr : Nat) : Int)).toArray, .nilIface])) (wr.setCells w.heap.size 0 (logVs L S kp ((dr : Nat) : Int))) ∧ (wr.setCells w.heap.size 0 (logVs L S kp ((dr : Nat) : Int))).heap[w.heap.size]? = some (.cells (logVs L S kp ((dr : Nat) : Int)).toArray 60 (0, 0))) := by
                refine ⟨⟨grownBy_setCellsN (Nat.le_refl _) _ _ _ (RowsW.grown0 H3.out.2.2.2.1 HR.out.1 (by omega) (by omega)), .inl ⟨S, R, W3.heap.size, kp, dr, L, by omega, ?_, ?_, rfl⟩⟩, setCells_all HRG.out.2.2.2 rfl⟩
                · exact HR.out.2.1.grownOff (grownBy_cells _ _ _ (grownBy_refl _ _)) (HR.out.2.1.off HRG.out.2.2.2 (by omega) (fun c t f e => by injection e with _ e _; subst e; decide))
                · have hd : (((segF F).map Fi.pf).take (mk)).drop (mk) = [] := List.drop_eq_nil_of_le (List.length_take_le _ _); have htk : (((segF F).map Fi.pf).take (mk)).take (mk) = (((segF F).map Fi.pf).take (mk)) := List.take_of_length_le (List.length_take_le _ _); rw [walP, ← segF_map, if_pos HC.out, HKS.out.1, HKS.out.2.1, HR.out.2.2.1, hd, HR.out.2.2.2.1, HR.out.2.2.2.2.1, htk]
                  rfl
              clear HR
              go_wp2_with (first | (refine wpList_load_mid (by rfl) _ (.tmp 4) (by rfl) R 0 (by rfl) (logVs L S kp ((dr : Nat) : Int)) _ HRG.out.1 Tryz.underlying60 rfl (by show _ = some 30; exact Tryz.sizeWal) ?_; simp only [Act.put]) | (refine wpList_store_mid (by rfl) _ (.tmp 2) (.tmp 92) (by rfl) w.heap.size 0 (logVs L S kp ((dr : Nat) : Int)).toArray (by rfl) (by rfl) HRG.out.2.1 (by show _ = some 30; exact Tryz.sizeWal) HRG.out.2.2.1 ?_; simp only [Act.put]; generalize World.setCells wr w.heap.size 0 _ = Y7 at HPOST) | fail)
              exact bodyPost_ret (results_wal (g := w.heap.size) rfl rfl HPOST.out.2 rfl) rfl HPOST.out.1
end Go.Proofs.YtjnegjgpkboocaaGreatDoor
