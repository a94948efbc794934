/-
  An item as text, by the program: walked.
-/
import Derived.Test.YtkjjglnbbahbkaaDoorHexB
import Derived.Test.YtkjjglnbbahbkaaDoorMadeT
namespace Go.Proofs.YtkjjglnbbahbkaaDoor
open Go.RowKit

section
variable {P : Program} {ops : Array Oper} {Q : Exit → Act → World → Prop} {md : Region.Mode} {S : World → Prop} {ex : Nat → Bool}
/-- a load whose memory every operation keeps -/
theorem wpAnyZ_loadS {i : Nat} {oi : Oper} {rest : List Oper} {v : Value} {fuel : Nat} {listed : Array Bool} {a : Act} {w : World} (hd : ops.toList.drop i = oi :: rest) (hs : Region.noSelect ops = true) (hf : Region.free md ops listed i = true) (hr : (Region.ready md ops listed).contains i = true)
    (hQ : ∀ c a w, Q (.panic c) (a.put oi.dst v) w → Q (.panic c) a w) (hex : ∀ j, ex j = false) (hy : YieldsIf P ops S oi v a) (hS : S w)
    (h : wpAnyZ P md ops Q S ex fuel (listed.setIfInBounds i true) (a.put oi.dst v) w) : wpAnyZ P md ops Q S ex (fuel + 1) listed a w :=
  wpAnyZ_first (S0 := S) (I := fun _ => True) (get_of_drop hd) (Region.noSelect_spec hs) hQ (fun _ j _ _ _ _ _ _ hS0 hS' => ⟨hS' (hex j) hS0, trivial⟩) fuel listed a w (Region.free_spec (get_of_drop hd) hf) (by simpa using hr) trivial hy hS h
end
theorem calls_argsT {P : Program} {f : FuncId} {args args' : Array Value} {w : World} {Q : Ending → World → Prop} (h : args' = args) (k : Calls P f args w Q) : Calls P f args' w Q := by rw [h]; exact k
def itemT (nm : List Nat) (c s : Int) (d : List Nat) : List Nat := nm ++ numB 58 [c, s] ++ (58 :: hexB d)
theorem i64s2 {a b : Int} (ha : I64 a) (hb : I64 b) : ∀ x ∈ [a, b], I64 x := by
  intro x hx
  simp only [List.mem_cons, List.not_mem_nil, or_false] at hx
  rcases hx with rfl | rfl <;> assumption
theorem i64s1 {a : Int} (ha : I64 a) : ∀ x ∈ [a], I64 x := by
  intro x hx
  obtain rfl : x = a := by simpa using hx
  exact ha
set_option maxRecDepth 4000 in
set_option maxHeartbeats 4000000 in
theorem addItem_out {B : Nat} {w : World} {v : Value} {zs : List Nat} (ho : Out B w v zs) (nm : ByteArray) (ns : List Nat) (hnm : Lib.strCells nm = ns.map bv) (hn256 : ∀ z ∈ ns, z < 256) (hns : ns.length ≤ 8) (c s : Int) (hc : I64 c) (hs : I64 s) (oa : Option Addr) (d : List Nat) (p : Nat) (hd : SlLow B w oa d.length d) (hdl : d.length ≤ 1048576) (hB : B ≤ w.heap.size) (hl : zs.length + 64 ≤ 4294967296) (htab : Lib.TabBelow Tryd.prog B w pow10 .u64 Lib.pow10Tab) :
    Calls Tryd.prog 25 #[v, .string nm, .agg #[.int .i64 c, .int .i64 s, .slice oa d.length p]] w fun e w' => ∃ v', e = .returned v' ∧ Out B w' v' (zs ++ itemT ns c s d) ∧ Ex B w w' := by
  have HO : Hid (Out B w v zs ∧ Lib.strCells nm = ns.map bv ∧ (∀ z ∈ ns, z < 256) ∧ SlLow B w oa d.length d ∧ B ≤ w.heap.size ∧ Lib.TabBelow Tryd.prog B w pow10 .u64 Lib.pow10Tab ∧ d.length ≤ 1048576) := ⟨ho, hnm, hn256, hd, hB, htab, hdl⟩
  have HI : Hid (I64 c ∧ I64 s) := ⟨hc, hs⟩
  clear ho hnm hn256 hd hB htab hc hs hdl
  obtain ⟨n, hn⟩ : ∃ n, d.length = n := ⟨_, rfl⟩
  have HN : Hid (d.length = n) := hn
  rw [hn]
  clear hn
  go_enter Tryd.func25, Tryd.ntmps25
  go_wp2
  generalize hX : w.alloc (.cells #[.int .i64 c, .int .i64 s, .slice oa n p] 40) = X
  have HX : Hid (Ex B w X ∧ B ≤ X.heap.size ∧ Out B X v zs ∧ X.heap[w.heap.size]? = some (.cells #[.int .i64 c, .int .i64 s, .slice oa n p] 40 (0, 0))) := by
    subst hX
    exact ⟨(Ex.refl B w).alloc HO.out.2.2.2.2.1 _, by have := HO.out.2.2.2.2.1; simp; omega, HO.out.1.alloc _, heap_alloc_new w _⟩
  clear hX
  go_cut [0] (fun v wx => Out B wx v (zs ++ ns ++ numB 58 [c, s]) ∧ Ex B X wx)
  case first =>
    as_aux_lemma =>
      refine wp_region_Z (fun W => W.heap[w.heap.size]? = some (.cells #[.int .i64 c, .int .i64 s, .slice oa n p] 40 (0, 0))) (fun _ => false) (by kernel_rfl) ?_
      have hS : X.drew.heap[w.heap.size]? = some (.cells #[.int .i64 c, .int .i64 s, .slice oa n p] 40 (0, 0)) := HX.out.2.2.2
      refine wpAnyZ_take' (i := 0) (v := ?vz17) rfl (by kernel_rfl) (by kernel_rfl) (by kernel_rfl) (fun _ _ _ h => h) (Or.inl ⟨by rfl, ?yz17⟩) ?rz17
      case yz17 => (intro w _; go_simp; first | done | with_reducible rfl)
      simp only [Act.put, List.setIfInBounds_toArray, List.set_cons_zero, List.set_cons_succ]
      refine wpAnyZ_take' (i := 1) (v := ?vz18) rfl (by kernel_rfl) (by kernel_rfl) (by kernel_rfl) (fun _ _ _ h => h) (Or.inl ⟨by rfl, ?yz18⟩) ?rz18
      case yz18 => (intro w _; go_simp; first | done | with_reducible rfl)
      simp only [Act.put, List.setIfInBounds_toArray, List.set_cons_zero, List.set_cons_succ]
      refine wpAnyZ_take' (i := 3) (v := ?vz19) rfl (by kernel_rfl) (by kernel_rfl) (by kernel_rfl) (fun _ _ _ h => h) (Or.inl ⟨by rfl, ?yz19⟩) ?rz19
      case yz19 => (intro w _; go_simp; first | done | with_reducible rfl)
      simp only [Act.put, List.setIfInBounds_toArray, List.set_cons_zero, List.set_cons_succ]
      refine wpAnyZ_loadS (i := 4) (v := ?vz20) rfl (by kernel_rfl) (by kernel_rfl) (by kernel_rfl) (fun _ _ _ h => h) (fun _ => rfl) (Or.inl ⟨by rfl, ?yz20⟩) hS ?rz20
      case yz20 => (intro W hW; have c0 : W.cell? ⟨w.heap.size, 0, none⟩ = some (.int .i64 c) := (cell_of_row W _ _ _ _ _ hW).trans rfl; go_simp; first | done | with_reducible rfl)
      simp only [Act.put, List.setIfInBounds_toArray, List.set_cons_zero, List.set_cons_succ]
      refine wpAnyZ_take' (i := 5) (v := ?vz21) rfl (by kernel_rfl) (by kernel_rfl) (by kernel_rfl) (fun _ _ _ h => h) (Or.inl ⟨by rfl, ?yz21⟩) ?rz21
      case yz21 => (intro w _; go_simp; first | done | with_reducible rfl)
      simp only [Act.put, List.setIfInBounds_toArray, List.set_cons_zero, List.set_cons_succ]
      refine wpAnyZ_loadS (i := 6) (v := ?vz22) rfl (by kernel_rfl) (by kernel_rfl) (by kernel_rfl) (fun _ _ _ h => h) (fun _ => rfl) (Or.inl ⟨by rfl, ?yz22⟩) hS ?rz22
      case yz22 => (intro W hW; have c0 : W.cell? ⟨w.heap.size, 1, none⟩ = some (.int .i64 s) := (cell_of_row W _ _ _ _ _ hW).trans rfl; go_simp; first | done | with_reducible rfl)
      simp only [Act.put, List.setIfInBounds_toArray, List.set_cons_zero, List.set_cons_succ]
      refine wpAnyZ_two' (i := 2) (k := 7) (by kernel_rfl) rfl rfl (fun K hK => ?_) (fun K hK => ?_)
      · (refine step_out_s (by rfl) (.tmp 7) (.tmp 8) (by rfl) (B := B) (zs := zs) (by rfl) (by exact HX.out.2.2.1.heap rfl) ns (by rfl) HO.out.2.1 HO.out.2.2.1 (by omega) (by exact HX.out.2.1) ?_; intro v1 w1 H1)
        refine hK.out _ _ (fun _ h => H1.out.2.blk h (by decide)) ?_
        clear hK K
        simp only [Act.put, List.setIfInBounds_toArray, List.set_cons_zero, List.set_cons_succ]
        have H2 : Hid (Ex B X w1 ∧ B ≤ w1.heap.size) := ⟨((Ex.refl B X).same (x := X.drew) ⟨rfl, rfl, rfl, rfl⟩).trans H1.out.2, H1.out.2.size (by exact HX.out.2.1)⟩
        refine wpAnyZ_one' (i := 7) (by kernel_rfl) rfl (fun K hK => ?_)
        go_simp
        refine hK.out _ _ (fun _ h => grown_blk (World.grownBy_alloc _ _ _) h) ?_
        clear hK K
        try simp only [Act.put, List.setIfInBounds_toArray, List.set_cons_zero, List.set_cons_succ]
        have H3 : Hid (Ex B X (w1.alloc (.cells #[.int .i64 c, .int .i64 s] 3))) := H2.out.1.alloc H2.out.2 _
        refine wpAnyZ_one' (i := 8) (by kernel_rfl) rfl (fun K hK => ?_)
        go_simp
        go_at_call 18
        refine (addNumbers_out (B := B) (zs := zs ++ ns) (H1.out.1.alloc _) 58 (by decide) w1.heap.size [c, s] (heap_alloc_new w1 _) (i64s2 HI.out.1 HI.out.2) (by simp) (by simp) (by have := H2.out.2; simp; omega) (by rw [List.length_append]; omega) (HO.out.2.2.2.2.2.1.on (HX.out.1.trans H3.out).below)).mono ?_
        rintro e w3 ⟨v3, rfl, hO3, hE3⟩
        have H4 : Hid (Out B w3 v3 (zs ++ ns ++ numB 58 [c, s]) ∧ Ex B X w3) := ⟨hO3, H3.out.trans hE3⟩
        go_wp2_with fail
        refine hK.out _ _ (fun _ h => hE3.blk h (by decide)) ?_
        clear hK K
        try simp only [Act.put, List.setIfInBounds_toArray, List.set_cons_zero, List.set_cons_succ]
        refine wpAnyZ_one' (i := 9) (by kernel_rfl) rfl (fun K hK => ?_)
        go_simp
        refine hK.out _ _ (fun _ h => h) ?_
        clear hK K
        try simp only [Act.put, List.setIfInBounds_toArray, List.set_cons_zero, List.set_cons_succ]
        refine wpAnyZ_done (by kernel_rfl) ?_ _
        go_wp2_with fail
        go_meet
        case rel => exact H4.out
      · go_simp
        refine hK.out _ _ (fun _ h => grown_blk (World.grownBy_alloc _ _ _) h) ?_
        clear hK K
        try simp only [Act.put, List.setIfInBounds_toArray, List.set_cons_zero, List.set_cons_succ]
        have H2 : Hid (Ex B X (X.drew.alloc (.cells #[.int .i64 c, .int .i64 s] 3)) ∧ B ≤ (X.drew.alloc (.cells #[.int .i64 c, .int .i64 s] 3)).heap.size) := ⟨((Ex.refl B X).same (x := X.drew) ⟨rfl, rfl, rfl, rfl⟩).alloc (by exact HX.out.2.1) _, by have := HX.out.2.1; simp; omega⟩
        refine wpAnyZ_one' (i := 2) (by kernel_rfl) rfl (fun K hK => ?_)
        (refine step_out_s (by rfl) (.tmp 7) (.tmp 8) (by rfl) (B := B) (zs := zs) (by rfl) (by exact (HX.out.2.2.1.heap (x := X.drew) rfl).alloc _) ns (by rfl) HO.out.2.1 HO.out.2.2.1 (by omega) (by exact H2.out.2) ?_; intro v1 w1 H1)
        refine hK.out _ _ (fun _ h => H1.out.2.blk h (by decide)) ?_
        clear hK K
        simp only [Act.put, List.setIfInBounds_toArray, List.set_cons_zero, List.set_cons_succ]
        have H3 : Hid (Ex B X w1) := H2.out.1.trans H1.out.2
        refine wpAnyZ_one' (i := 8) (by kernel_rfl) rfl (fun K hK => ?_)
        go_simp
        go_at_call 18
        refine (addNumbers_out (B := B) (zs := zs ++ ns) H1.out.1 58 (by decide) X.heap.size [c, s] (H1.out.2.blk (heap_alloc_new X.drew _) (by decide)) (i64s2 HI.out.1 HI.out.2) (by simp) (by simp) (H3.out.size HX.out.2.1) (by rw [List.length_append]; omega) (HO.out.2.2.2.2.2.1.on (HX.out.1.trans H3.out).below)).mono ?_
        rintro e w3 ⟨v3, rfl, hO3, hE3⟩
        have H4 : Hid (Out B w3 v3 (zs ++ ns ++ numB 58 [c, s]) ∧ Ex B X w3) := ⟨hO3, H3.out.trans hE3⟩
        go_wp2_with fail
        refine hK.out _ _ (fun _ h => hE3.blk h (by decide)) ?_
        clear hK K
        try simp only [Act.put, List.setIfInBounds_toArray, List.set_cons_zero, List.set_cons_succ]
        refine wpAnyZ_one' (i := 9) (by kernel_rfl) rfl (fun K hK => ?_)
        go_simp
        refine hK.out _ _ (fun _ h => h) ?_
        clear hK K
        try simp only [Act.put, List.setIfInBounds_toArray, List.set_cons_zero, List.set_cons_succ]
        refine wpAnyZ_done (by kernel_rfl) ?_ _
        go_wp2_with fail
        go_meet
        case rel => exact H4.out
  case rest =>
    obtain ⟨hO1, hE1⟩ := hcut
    have H5 : Hid (Out B wc u0 (zs ++ ns ++ numB 58 [c, s]) ∧ Ex B w wc ∧ B ≤ wc.heap.size ∧ (zs ++ ns ++ numB 58 [c, s]).length ≤ zs.length + 8 + 44) := ⟨hO1, HX.out.1.trans hE1, (HX.out.1.trans hE1).size HO.out.2.2.2.2.1, by have := numB_len (mark := 58) (i64s2 HI.out.1 HI.out.2); rw [List.length_append, List.length_append]; simp at this ⊢; omega⟩
    have hS : wc.drew.heap[w.heap.size]? = some (.cells #[.int .i64 c, .int .i64 s, .slice oa n p] 40 (0, 0)) := hE1.blk HX.out.2.2.2 (by decide)
    clear hO1 hE1 HX
    go_wp2
    refine wp_region_Z (fun W => W.heap[w.heap.size]? = some (.cells #[.int .i64 c, .int .i64 s, .slice oa n p] 40 (0, 0))) (fun _ => false) (by kernel_rfl) ?_
    refine wpAnyZ_take' (i := 0) (v := ?vz23) rfl (by kernel_rfl) (by kernel_rfl) (by kernel_rfl) (fun _ _ _ h => h) (Or.inl ⟨by rfl, ?yz23⟩) ?rz23
    case yz23 => (intro w _; go_simp; first | done | with_reducible rfl)
    simp only [Act.put, List.setIfInBounds_toArray, List.set_cons_zero, List.set_cons_succ]
    refine wpAnyZ_take' (i := 3) (v := ?vz24) rfl (by kernel_rfl) (by kernel_rfl) (by kernel_rfl) (fun _ _ _ h => h) (Or.inl ⟨by rfl, ?yz24⟩) ?rz24
    case yz24 => (intro w _; go_simp; first | done | with_reducible rfl)
    simp only [Act.put, List.setIfInBounds_toArray, List.set_cons_zero, List.set_cons_succ]
    refine wpAnyZ_loadS (i := 4) (v := ?vz25) rfl (by kernel_rfl) (by kernel_rfl) (by kernel_rfl) (fun _ _ _ h => h) (fun _ => rfl) (Or.inl ⟨by rfl, ?yz25⟩) hS ?rz25
    case yz25 => (intro W hW; have c0 : W.cell? ⟨w.heap.size, 2, none⟩ = some (.slice oa n p) := (cell_of_row W _ _ _ _ _ hW).trans rfl; go_simp; first | done | with_reducible rfl)
    simp only [Act.put, List.setIfInBounds_toArray, List.set_cons_zero, List.set_cons_succ]
    refine wpAnyZ_one' (i := 1) (by kernel_rfl) rfl (fun K hK => ?_)
    go_simp
    refine hK.out _ _ (fun _ h => grown_blk (World.grownBy_alloc _ _ _) h) ?_
    clear hK K
    try simp only [Act.put, List.setIfInBounds_toArray, List.set_cons_zero, List.set_cons_succ]
    refine wpAnyZ_one' (i := 2) (by kernel_rfl) rfl (fun K hK => ?_)
    (refine step_out_b (by rfl) (.tmp 16) (.tmp 17) (by rfl) (B := B) (zs := zs ++ ns ++ numB 58 [c, s]) (by rfl) (by exact (H5.out.1.heap (x := wc.drew) rfl).alloc _) (oa := some ⟨wc.heap.size, 0, none⟩) (m := 1) (c := 1) (ys := [58]) (by rfl) (by exact one_byte wc.drew 58 (by decide) _) (by decide) (by have := H5.out.2.2.2; omega) (by have := H5.out.2.2.1; simp; omega) ?_; intro v1 w1 H1)
    refine hK.out _ _ (fun _ h => H1.out.2.blk h (by decide)) ?_
    clear hK K
    simp only [Act.put, List.setIfInBounds_toArray, List.set_cons_zero, List.set_cons_succ]
    have H6 : Hid (Ex B w w1) := ((H5.out.2.1.same (x := wc.drew) ⟨rfl, rfl, rfl, rfl⟩).alloc H5.out.2.2.1 _).trans H1.out.2
    refine wpAnyZ_one' (i := 5) (by kernel_rfl) rfl (fun K hK => ?_)
    go_simp
    go_at_call 42
    refine calls_argsT (args := #[v1, .slice oa d.length p]) (by rw [HN.out]) ?_
    refine (addHex_out (B := B) H1.out.1 oa d p (HO.out.2.2.2.1.on H6.out.below) (H6.out.size HO.out.2.2.2.2.1) (by have := H5.out.2.2.2; rw [List.length_append]; simp at this ⊢; omega) HO.out.2.2.2.2.2.2).mono ?_
    rintro e w3 ⟨v3, rfl, hO3, hE3⟩
    have H4 : Hid (Out B w3 v3 (zs ++ itemT ns c s d) ∧ Ex B w w3) := ⟨by simpa [itemT] using hO3, H6.out.trans hE3⟩
    go_wp2_with fail
    refine hK.out _ _ (fun _ h => hE3.blk h (by decide)) ?_
    clear hK K
    try simp only [Act.put, List.setIfInBounds_toArray, List.set_cons_zero, List.set_cons_succ]
    refine wpAnyZ_one' (i := 6) (by kernel_rfl) rfl (fun K hK => ?_)
    go_simp
    refine hK.out _ _ (fun _ h => h) ?_
    clear hK K
    try simp only [Act.put, List.setIfInBounds_toArray, List.set_cons_zero, List.set_cons_succ]
    refine wpAnyZ_done (by kernel_rfl) ?_ _
    go_wp2
    go_ret
    exact ⟨_, rfl, H4.out⟩
end Go.Proofs.YtkjjglnbbahbkaaDoor
