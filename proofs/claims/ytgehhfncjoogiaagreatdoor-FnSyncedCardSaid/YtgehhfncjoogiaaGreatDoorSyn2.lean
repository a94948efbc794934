/-
  Dk8, Dk9, Dk10, Dk11, Dk12, Dk13, Dk14, Cl, Dk15
-/
import Derived.Test.YtgehhfncjoogiaaGreatDoorSyn1
import Derived.LaidEqlPtr
import Derived.Maps.RangeWalk
import Derived.Maps.Ext
import Derived.Sort.MapsRangeIn
namespace Go.Proofs.YtgehhfncjoogiaaGreatDoor
open Go.RowKit Go.Maps

theorem Tryz.infoChg : (Tryz.prog.info? 104).map (fun i => (i.zero, i.size, i.bytes)) = some (some .nilIface, 1, 16) := by kernel_rfl
theorem Tryz.infoBody : (Tryz.prog.info? 93).map (fun i => i.size) = some 3 := by kernel_rfl
theorem infoB : ∃ j, Tryz.prog.info? 93 = some j ∧ j.size ≠ 0 := by
  have h := Tryz.infoBody
  rcases hj : Tryz.prog.info? 93 with _ | j
  · rw [hj] at h; cases h
  · rw [hj] at h; have h9 : j.size = 3 := Option.some.inj h; exact ⟨j, rfl, by omega⟩
theorem eqB_same (w : World) (b : Nat) : (binOp .eql 91 (.pointer (some ⟨b, 0, none⟩)) (.pointer (some ⟨b, 0, none⟩))).run Tryz.prog w = .ok (.bool true) w := by
  obtain ⟨j, hj, -⟩ := infoB; exact run_eql_ptr_same w _ Tryz.underlying91 hj
theorem eqB_other {w : World} {B : Nat} {ms : List Bd} (h : Bods w B ms) {a b : Nat} (ha : Has ms a) (hb : Has ms b) (hne : a ≠ b) : (binOp .eql 91 (.pointer (some ⟨a, 0, none⟩)) (.pointer (some ⟨b, 0, none⟩))).run Tryz.prog w = .ok (.bool false) w := by
  obtain ⟨j, hj, hs⟩ := infoB; obtain ⟨x, hx, rfl⟩ := ha.get; obtain ⟨y, hy, rfl⟩ := hb.get; exact run_eql_ptr_other w Tryz.underlying91 hj hs (fun hc => hne (congrArg Addr.block hc)) (h.each x hx).1.box (h.each y hy).1.box
theorem eqB_none (w : World) (b : Nat) : (binOp .eql 91 (.pointer none) (.pointer (some ⟨b, 0, none⟩))).run Tryz.prog w = .ok (.bool false) w := by
  have h : ∀ d : Nat, (Op.equalIn (d + 1) 91 (.pointer none) (.pointer (some ⟨b, 0, none⟩))).run Tryz.prog w = .ok false w := fun d => by
    simp [Op.equalIn, run_underlying Tryz.underlying91]
  simp only [binOp]
  simp [Op.equal, Op.maxDepth, h 9999]
theorem nilA1 (c : Nat) (w : World) : (nilAhead 315 155 (.pointer (some ⟨c, 0, none⟩)) "loop.example/s01723/impl.makeSynced").run Tryz.prog w = .ok (some false) w := by kernel_rfl
theorem nilA2 (c : Nat) (w : World) : (nilAhead 315 158 (.pointer (some ⟨c, 0, none⟩)) "loop.example/s01723/impl.makeSynced").run Tryz.prog w = .ok (some false) w := by kernel_rfl
theorem nilA3 (c : Nat) (w : World) : (nilAhead 315 151 (.pointer (some ⟨c, 0, none⟩)) "loop.example/s01723/impl.makeSynced").run Tryz.prog w = .ok (some false) w := by kernel_rfl
theorem meth1 (c : Nat) (w : World) : (method 315 155 (.pointer (some ⟨c, 0, none⟩)) "loop.example/s01723/impl.makeSynced").run Tryz.prog w = .ok (134, .pointer (some ⟨c, 0, none⟩)) w := by kernel_rfl
theorem meth2 (c : Nat) (w : World) : (method 315 158 (.pointer (some ⟨c, 0, none⟩)) "loop.example/s01723/impl.makeSynced").run Tryz.prog w = .ok (138, .pointer (some ⟨c, 0, none⟩)) w := by kernel_rfl
theorem meth3 (c : Nat) (w : World) : (method 315 151 (.pointer (some ⟨c, 0, none⟩)) "loop.example/s01723/impl.makeSynced").run Tryz.prog w = .ok (130, .pointer (some ⟨c, 0, none⟩)) w := by kernel_rfl
theorem own1_addr {w : World} {B e n c : Nat} {oa : Option Addr} {xs : List Value} (h : w.ownsRow B e 1 (.slice oa n c) n xs) (hn : 0 < n) : ∃ g, oa = some ⟨g, 0, none⟩ := by
  rcases h.2 with ⟨h1, h0⟩ | ⟨g, cap, cur, h1, -⟩
  · omega
  · simp only [Value.slice.injEq] at h1; exact ⟨g, h1.1⟩
theorem DRef.syncs {ms : List Bd} (o : Option Nat) : ∀ (xs : List Ch) {D : DataW Unit}, DRef ms D → IsMap D → (∀ x ∈ xs, ChRef ms x) → DRef ms (syncsD o xs D) ∧ IsMap (syncsD o xs D)
  | [], _, h, hm, _ => ⟨h, hm⟩
  | x :: xs, D, h, hm, hr => by
    show DRef ms (syncsD o xs (if mineC o x then syncD x D else D)) ∧ IsMap (syncsD o xs (if mineC o x then syncD x D else D))
    have hx := hr x (by simp)
    have h2 : DRef ms (if mineC o x then syncD x D else D) ∧ IsMap (if mineC o x then syncD x D else D) := by
      split
      · unfold syncD
        split
        · rename_i hk
          exact ⟨h.bind hm _ (hx.2 hk), isMap_bind hm _⟩
        · exact ⟨h, hm⟩
      · exact ⟨h, hm⟩
    exact DRef.syncs o xs h2.1 h2.2 (fun y hy => hr y (List.mem_cons_of_mem _ hy))
theorem ChRef.to {ms ms' : List Bd} {x : Ch} (h : ChRef ms x) (hT : ∀ b, Has ms b → Has ms' b) : ChRef ms' x := ⟨fun hk => hT _ (h.1 hk), fun hk y hy b hb => hT b (h.2 hk y hy b hb)⟩
theorem DRef.to {ms ms' : List Bd} {D : DataW Unit} (h : DRef ms D) (hT : ∀ b, Has ms b → Has ms' b) : DRef ms' D := ⟨fun k b hk => hT b (h.1 k b hk), h.2⟩
theorem own1_moves {w w' : World} {B B' e n : Nat} {v : Value} {xs : List Value} {mp : List Nat} {ts : List TypeId} (ho : w.ownsRow B e 1 v n xs) (hB : B' ≤ B) (hM : Moves mp ts w w') (ht : e ∉ ts) (hmp : ∀ k ∈ mp, ∃ es ck, w.heap[k]? = some (.map es ck)) : w'.ownsRow B' e 1 v n xs := by
  obtain ⟨hl, h1' | ⟨g', cap', cur', h1', hb', hg', h2'⟩⟩ := ho
  · exact ⟨hl, .inl h1'⟩
  · refine ⟨hl, .inr ⟨g', cap', cur', h1', Nat.le_trans hB hb', hM.cells hg' ht (fun hc => ?_), h2'⟩⟩; obtain ⟨es, ck, g1⟩ := hmp g' hc; rw [g1] at hg'
    cases hg'
theorem Moves.wide {ms ms' : List Nat} {ts ts' : List TypeId} {w w' : World} (h : Moves ms ts w w') (hm : ∀ k ∈ ms, k ∈ ms') (ht : ∀ t ∈ ts, t ∈ ts') : Moves ms' ts' w w' :=
  ⟨h.os, h.tape, h.output, h.size, fun k hk hc => h.block k hk (fun h9 => hc (h9.imp (hm k) (fun ⟨cur, t, f, g1, g2⟩ => ⟨cur, t, f, g1, ht t g2⟩)))⟩
theorem moves_new {ms : List Nat} {ts : List TypeId} {w a b : World} (h : Moves ms ts w a) (ho : b.os = a.os) (ht : b.tape = a.tape) (hu : b.output = a.output) (hs : a.heap.size ≤ b.heap.size) (hb : ∀ k, k < w.heap.size → b.heap[k]? = a.heap[k]?) : Moves ms ts w b :=
  ⟨ho.trans h.os, ht.trans h.tape, hu.trans h.output, Nat.le_trans h.size hs, fun k hk hT => (hb k hk).trans (h.block k hk hT)⟩
set_option maxRecDepth 20000 in
set_option maxHeartbeats 4000000 in
theorem sync_any (o : Option Nat) (d : Nat) (M : Dk) (ms : List Bd) (B : Nat) (w : World) (h : DkAt w B d M ms) (hq : M.queue.length ≤ 100000) (hN : M.N + tots M.queue ≤ 1000000) (ho : ∀ b, o = some b → Has ms b) :
    Calls Tryz.prog 69 #[.pointer (some ⟨d, 0, none⟩), bP o] w fun e w' => e = .returned (.tuple #[]) ∧ ∃ ms' qv', DkAt w' B d { M with N := M.N + tots M.queue, SD := syncsD o M.queue M.SD, qv := qv', queue := M.queue.filter (fun x => !(mineC o x)) } ms' ∧ ms'.map Bd.tell = syncsP o M.queue (ms.map Bd.tell) ∧ Moves [M.sb] [93, 5, 90] w w' ∧ ∀ k, k < B → w'.heap[k]? = w.heap[k]? := by
  obtain ⟨qn, hqn⟩ : ∃ x, M.queue.length = x := ⟨_, rfl⟩; obtain ⟨qa, qc, hqv⟩ := own1_is h.q; rw [hqn] at hqv
  have hbx : w.heap[d]? = some (.cells #[.map (some M.lb), .map (some M.sb), .slice qa qn qc, .int .i64 M.cap, .int .i64 M.fuse, .bool M.off, .int .i64 M.cnt] 90 (0, 0)) := by rw [h.box, Dk.box, hqv]
  have HD : Hid (DkAt w B d M ms ∧ M.queue.length = qn ∧ M.qv = .slice qa qn qc ∧ M.N + tots M.queue ≤ 1000000 ∧ ∀ b, o = some b → Has ms b) := ⟨h, hqn, hqv, hN, ho⟩; rw [hqn] at hq; obtain ⟨pv, hpv⟩ : ∃ x, bP o = x := ⟨_, rfl⟩; have HPV : Hid (bP o = pv) := hpv; rw [hpv]; have c2 : w.cell? ⟨d, 2, none⟩ = some (.slice qa qn qc) := (zCr hbx).trans rfl
  have HS0 : Hid ((w.heap[d]? = some (.cells #[.map (some M.lb), .map (some M.sb), .slice qa qn qc, .int .i64 M.cap, .int .i64 M.fuse, .bool M.off, .int .i64 M.cnt] 90 (0, 0)) ∧ NMap w M.lb M.N M.LD ∧ w.ownsRow B 104 1 (.slice qa qn qc) qn (M.queue.map Ch.cell) ∧ (∀ x ∈ M.queue, ChAt w B x) ∧ Moves [M.sb] [93, 5] w w ∧ (∀ k, k < B → w.heap[k]? = w.heap[k]?)) ∧ ((∃ ms', Bods w B ms' ∧ ms'.map Bd.tell = syncsP o (M.queue.take (0)) (ms.map Bd.tell)) ∧ NMap w M.sb (M.N + tots (M.queue.take (0))) (syncsD o (M.queue.take (0)) M.SD))) := by
    refine ⟨⟨hbx, h.dl, by rw [← hqv, ← hqn]; exact h.q, h.chs, Moves.refl _ _ _, fun _ _ => rfl⟩, ⟨ms, h.bods, rfl⟩, ?_⟩; exact h.ds
  have HQB : Hid (∀ g, (Value.slice qa qn qc).ownBlock = some g → g < w.heap.size) := fun g hg => by
    have h9 := HS0.out.1.2.2.1
    rcases h9.2 with ⟨h1, -⟩ | ⟨g', cap, cur, h1, -, h2, -⟩
    · rw [h1] at hg; cases hg
    · rw [h1] at hg; cases hg; exact (Array.getElem?_eq_some_iff.1 h2).1
  have hBw : B ≤ w.heap.size := Nat.le_trans h.low.2.2 (Nat.le_of_lt (Array.getElem?_eq_some_iff.1 hbx).1); clear h hqn hqv hN hbx hpv ho
  go_enter Tryz.func69, Tryz.ntmps69
  go_wp2
  go_loopw [4, 12] (fun rv i wr => ∃ k, k ≤ qn ∧ i = .int .i64 (k : Int) ∧ (wr.heap[d]? = some (.cells #[.map (some M.lb), .map (some M.sb), .slice qa qn qc, .int .i64 M.cap, .int .i64 M.fuse, .bool M.off, .int .i64 M.cnt] 90 (0, 0)) ∧ NMap wr M.lb M.N M.LD ∧ wr.ownsRow B 104 1 (.slice qa qn qc) qn (M.queue.map Ch.cell) ∧ (∀ x ∈ M.queue, ChAt wr B x) ∧ Moves [M.sb] [93, 5] w wr ∧ (∀ k, k < B → wr.heap[k]? = w.heap[k]?)) ∧ ((∃ ms', Bods wr B ms' ∧ ms'.map Bd.tell = syncsP o (M.queue.take (k)) (ms.map Bd.tell)) ∧ NMap wr M.sb (M.N + tots (M.queue.take (k))) (syncsD o (M.queue.take (k)) M.SD)) ∧ wr.ownsRow w.heap.size 104 1 rv ((M.queue.take (k)).filter (fun x => !(mineC o x))).length (((M.queue.take (k)).filter (fun x => !(mineC o x))).map Ch.cell)) (fun _ i _ => qn - (intOf i).toNat)
  case atStart => exact ⟨0, Nat.zero_le _, rfl, ⟨HS0.out.1.1, HS0.out.1.2.1, HS0.out.1.2.2.1, HS0.out.1.2.2.2.1, HS0.out.1.2.2.2.2.1, fun _ _ => rfl⟩, HS0.out.2, by simp; exact World.ownsRow_nil _ _ _ _⟩
  case round =>
    obtain ⟨k, hk, rfl, hco, hst, hre⟩ := hrel; have HR : Hid ((wr.heap[d]? = some (.cells #[.map (some M.lb), .map (some M.sb), .slice qa qn qc, .int .i64 M.cap, .int .i64 M.fuse, .bool M.off, .int .i64 M.cnt] 90 (0, 0)) ∧ NMap wr M.lb M.N M.LD ∧ wr.ownsRow B 104 1 (.slice qa qn qc) qn (M.queue.map Ch.cell) ∧ (∀ x ∈ M.queue, ChAt wr B x) ∧ Moves [M.sb] [93, 5] w wr ∧ (∀ k, k < B → wr.heap[k]? = w.heap[k]?)) ∧ ((∃ ms', Bods wr B ms' ∧ ms'.map Bd.tell = syncsP o (M.queue.take (k)) (ms.map Bd.tell)) ∧ NMap wr M.sb (M.N + tots (M.queue.take (k))) (syncsD o (M.queue.take (k)) M.SD)) ∧ wr.ownsRow w.heap.size 104 1 u4 ((M.queue.take (k)).filter (fun x => !(mineC o x))).length (((M.queue.take (k)).filter (fun x => !(mineC o x))).map Ch.cell)) := ⟨hco, hst, hre⟩; clear hco hst hre c2
    by_cases hlt : k < qn
    · obtain ⟨x, hx⟩ : ∃ x, M.queue[k]? = some x := ⟨_, List.getElem?_eq_getElem (by rw [HD.out.2.1]; exact hlt)⟩; have hxm := List.mem_of_getElem? hx
      have HTK : Hid (M.queue.take (k + 1) = M.queue.take k ++ [x]) := by
        show _ = _
        rw [List.take_add_one, hx]
        rfl
      obtain ⟨ga, rfl⟩ := own1_addr HR.out.1.2.2.1 (by omega)
      have hkI : (k : Int) < (qn : Int) := by omega
      have v1 : IntKind.i64.wrap ((k : Int) + 1) = (k : Int) + 1 := IntWalk.i64_in _ (by omega); have HRK := HR
      have HRF : Hid (ChRef ms x ∧ M.N + tots (M.queue.take k) + x.bs.length ≤ 1000000) := by
        refine ⟨HD.out.1.refs x hxm, ?_⟩; have h9 := tots_le (xs := M.queue) (k + 1); rw [HTK.out, tots_snoc] at h9; have := HD.out.2.2.2.1
        omega
      clear HR
      rcases HRK.out.1.2.2.2.1 x hxm with ⟨hkd, hc, hs, hl1, hl2, hl3, hl4⟩ | ⟨hkd, hc⟩ | ⟨hkd, hc, hbn⟩
      · skip
        have HCELL : Hid (x.cell = .iface 155 (.pointer (some ⟨x.c, 0, none⟩))) := by show _ = _; simp [Ch.cell, hkd]
        have cq : wr.cell? ⟨ga, k, none⟩ = some (.iface 155 (.pointer (some ⟨x.c, 0, none⟩))) := by rw [← HCELL.out]; exact own1_at HRK.out.1.2.2.1 (by simp [hx])
        have HOW : Hid (Calls _ _ _ _ _) := writeOwner_any x.c x.b x.at_ x.D.length x.dc x.da wr hc
        obtain HO | ⟨b, HO⟩ : Hid (o = none) ∨ ∃ b, Hid (o = some b) := by
          cases o with
          | none => exact .inl (show _ = _ from rfl)
          | some b => exact .inr ⟨b, (show _ = _ from rfl)⟩
        · obtain rfl : pv = .pointer none := by rw [← HPV.out, HO.out]; rfl
          have HNM : Hid (mineC o x = false) := by show _ = _; simp [HO.out, mineC, hkd]
          clear HPV; go_wp2_with fail; refine HOW.out.mono ?_; rintro e wz ⟨rfl, hwz⟩; obtain rfl := hwz.symm; clear hwz; obtain ⟨i0, hi, hz0, hz1, hz2'⟩ := info_parts Tryz.infoChg; obtain ⟨rn, hrn⟩ : ∃ y, ((M.queue.take k).filter (fun x => !(mineC o x))).length = y := ⟨_, rfl⟩
          have hrb : rn ≤ 100000 := by
            rw [← hrn]; exact Nat.le_trans (List.length_filter_le _ _) (by rw [List.length_take]; omega)
          have HRE : Hid (wr.ownsRow w.heap.size 104 1 u4 rn (((M.queue.take k).filter (fun x => !(mineC o x))).map Ch.cell)) := by rw [← hrn]; exact HRK.out.2.2
          have hwsz := HRK.out.1.2.2.2.2.1.size
          go_wp2_with (at_builtin; refine wpList_append_own _ rfl _ _ 88 rfl w.heap.size 104 i0 .nilIface 1 16 Tryz.underlying88 hi hz0 hz1 hz2' rfl (by decide) u4 rn (((M.queue.take k).filter (fun x => !(mineC o x))).map Ch.cell) rfl (by exact own1_grown HRE.out (World.grownBy_alloc _ _ _)) ⟨wr.heap.size, 0, none⟩ 1 1 [.iface 155 (.pointer (some ⟨x.c, 0, none⟩))] rfl rfl ?e1t1 ?e2t1 ?e3t1 ?e4t1 ?e5t1 ?_)
          case e1t1 =>
            intro j u hj; have hX : (wr.alloc (.cells #[.iface 155 (.pointer (some ⟨x.c, 0, none⟩))] 104)).heap[wr.heap.size]? = some (.cells #[.iface 155 (.pointer (some ⟨x.c, 0, none⟩))] 104 (0, 0)) := heap_alloc_new wr _
            match j, hj with
            | 0, hj => simp at hj; subst hj; exact (zCr hX).trans rfl
          case e2t1 => first | rfl | (intro u hu; simp at hu; subst hu; rfl)
          case e3t1 => first | omega | (unfold maxLen; omega)
          case e4t1 => omega
          case e5t1 => simp; omega
          intro v4 w4 hown4 hgrow4 _; have hA := World.grownBy_alloc wr (.cells #[.iface 155 (.pointer (some ⟨x.c, 0, none⟩))] 104) none; have oA := own1_grown HRE.out hA
          have hTY : ∀ g, u4.ownBlock = some g → w.heap.size ≤ g ∧ ∃ cur, (wr.alloc (.cells #[.iface 155 (.pointer (some ⟨x.c, 0, none⟩))] 104)).heap[g]? = some (.cells cur 104 (0, 0)) := fun g hg => by
            refine ⟨own1_base oA hg, ?_⟩
            rcases oA.2 with ⟨h1, -⟩ | ⟨g', cap, cur, h1, -, h2, -⟩
            · rw [h1] at hg; cases hg
            · rw [h1] at hg; cases hg; exact ⟨cur, h2⟩
          have hM1 : Moves [] [104] wr (wr.alloc (.cells #[.iface 155 (.pointer (some ⟨x.c, 0, none⟩))] 104)) := Moves.of_grown0 hA
          have hM2 : Moves [] [104] (wr.alloc (.cells #[.iface 155 (.pointer (some ⟨x.c, 0, none⟩))] 104)) w4 := Moves.of_turn (Turn.of_grown (T := fun k => u4.ownBlock = some k) hgrow4 (fun g hg => hg)) (fun k _ hk => .inr (by
            obtain ⟨-, cur, h9⟩ := hTY k hk
            exact ⟨cur, _, _, h9, by simp⟩))
          have hM := hM1.trans hM2
          have hOLD : ∀ k, k < w.heap.size → w4.heap[k]? = wr.heap[k]? := fun k hk => (hgrow4.block k (by simp; omega) (fun hc => by have := (hTY k hc.symm).1; omega)).trans (heap_alloc_old wr _ (by omega))
          have HF : Hid ((w4.heap[d]? = some (.cells #[.map (some M.lb), .map (some M.sb), .slice (some ⟨ga, 0, none⟩) qn qc, .int .i64 M.cap, .int .i64 M.fuse, .bool M.off, .int .i64 M.cnt] 90 (0, 0)) ∧ NMap w4 M.lb M.N M.LD ∧ w4.ownsRow B 104 1 (.slice (some ⟨ga, 0, none⟩) qn qc) qn (M.queue.map Ch.cell) ∧ (∀ x ∈ M.queue, ChAt w4 B x) ∧ Moves [M.sb] [93, 5] w w4 ∧ (∀ k, k < B → w4.heap[k]? = w.heap[k]?)) ∧ ((∃ ms', Bods w4 B ms' ∧ ms'.map Bd.tell = syncsP o (M.queue.take (k + 1)) (ms.map Bd.tell)) ∧ NMap w4 M.sb (M.N + tots (M.queue.take (k + 1))) (syncsD o (M.queue.take (k + 1)) M.SD)) ∧ w4.ownsRow w.heap.size 104 1 v4 ((M.queue.take (k + 1)).filter (fun x => !(mineC o x))).length (((M.queue.take (k + 1)).filter (fun x => !(mineC o x))).map Ch.cell)) := by
            obtain ⟨⟨h1, h2, h3, h4, h5, h6⟩, ⟨⟨ms1, h7, h8⟩, h9⟩, -⟩ := HRK.out; have e1 : M.queue.take (k + 1) = M.queue.take k ++ [x] := HTK.out; refine ⟨⟨hM.cells h1 (by decide) (by simp), hM.map h2 (by simp), ?_, fun y hy => (h4 y hy).moves hM (by simp) (by simp) (fun j hj => hOLD j (Nat.lt_of_lt_of_le hj hBw)), moves_new h5 (hgrow4.os.trans hA.os) (hgrow4.tape.trans hA.tape) (hgrow4.output.trans hA.output) (Nat.le_trans hA.size hgrow4.size) hOLD, fun j hj => (hOLD j (Nat.lt_of_lt_of_le hj hBw)).trans (h6 j hj)⟩, ⟨⟨ms1, h7.moves hM (by decide) (by decide) (by simp), ?_⟩, ?_⟩, ?_⟩
            · obtain ⟨hl, h1' | ⟨g', cap', cur', h1', hb', hg', h2'⟩⟩ := h3
              · exact ⟨hl, .inl h1'⟩
              · exact ⟨hl, .inr ⟨g', cap', cur', h1', hb', (hOLD g' (HQB.out g' (by rw [h1']; rfl))).trans hg', h2'⟩⟩
            · rw [e1, syncsP_snoc, HNM.out, h8]
              rfl
            · rw [e1, syncsD_snoc, HNM.out, tots_snoc]; exact (hM.map h9 (by simp)).mono (by omega)
            · rw [e1, List.filter_append, List.map_append]
              have e2 : [x].filter (fun x => !(mineC o x)) = [x] := by simp [HNM.out]
              rw [e2, List.length_append, hrn]
              have e3 : [x].map Ch.cell = [.iface 155 (.pointer (some ⟨x.c, 0, none⟩))] := by simp [HCELL.out]
              rw [e3]; exact hown4
          clear HRK; go_wp2; go_roundw
          case rel => exact ⟨k + 1, hlt, by go_num, HF.out.1, HF.out.2.1, HF.out.2.2⟩
          case measure => simp [intOf]; omega
        · obtain rfl : pv = .pointer (some ⟨b, 0, none⟩) := by rw [← HPV.out, HO.out]; rfl
          clear HPV
          rcases Classical.em (x.b = b) with hxb | hxb
          · have HMI : Hid (mineC o x = true) := by show _ = _; simp [HO.out, mineC, hkd, hxb]
            subst hxb; have e9 := eqB_same wr x.b
            have HCALL : Hid (∀ X : World, wr.grownBy X none → Calls Tryz.prog 134 #[.pointer (some ⟨x.c, 0, none⟩), .map (some M.sb)] X fun e w' => e = .returned (.tuple #[]) ∧ SyncOut X w' B M.sb (M.N + tots (M.queue.take k) + x.bs.length) (syncD x (syncsD o (M.queue.take k) M.SD)) (syncP x (syncsP o (M.queue.take k) (ms.map Bd.tell)))) := fun X hX => by
              obtain ⟨⟨h1, h2, h3, h4, h5, h6⟩, ⟨⟨ms1, h7, h8⟩, h9⟩, -⟩ := HRK.out; have hBr : B ≤ wr.heap.size := Nat.le_trans hBw h5.size; have h7X := h7.grown0 hX; have hM0 : Moves [] [] wr X := Moves.of_grown0 hX; have h9X := hM0.map h9 (by simp); have hcX : ChAt X B x := (h4 x hxm).moves hM0 (by simp) (by simp) (fun j hj => hX.block j (Nat.lt_of_lt_of_le hj hBr) (by simp))
              rcases hcX with ⟨-, hcX, hsX, g1, g2, g3, g4⟩ | ⟨hkX, -⟩ | ⟨hkX, -, -⟩
              rotate_left
              · omega
              · omega
              obtain ⟨m, hm, hmb⟩ := (has_of_tell (ms' := ms1) (by rw [h8, syncsP_fst]) (HRF.out.1.1 (by omega))).get; have hmX := h7X.each m hm; refine (writeSync_any m x.c x.at_ x.D.length x.dc x.da x.D _ B X hmX.1 (by rw [hmb]; exact hcX) hsX g2 (fun b off hb hc => ?_) ⟨by omega, by omega⟩ (Nat.le_trans hBr hX.size)).mono ?_
              · have := g4 b off hb; have := (hmX.1.syn.base hc).1
                omega
              rintro e w' ⟨rfl, sv', a1, a2, a3⟩; refine ⟨rfl, ?_⟩; rw [show syncP x (syncsP o (M.queue.take k) (ms.map Bd.tell)) = onB m.b (fun S => ov S x.at_ x.D) (ms1.map Bd.tell) from by rw [h8, hmb]; simp [syncP, hkd], show syncD x (syncsD o (M.queue.take k) M.SD) = syncsD o (M.queue.take k) M.SD from by simp [syncD, hkd]]; exact sync_of_turn h7X hm (h9X.mono (by omega)) a2 a1 rfl rfl rfl rfl a3 (ov_le hmX.2.2 g3)
            go_wp2_with fail; refine HOW.out.mono ?_; rintro e wz ⟨rfl, hwz⟩; obtain rfl := hwz.symm; clear hwz
            go_upto_region 5 with fail
            refine wp_region_Z (fun Y => Y.heap[d]? = some (.cells #[.map (some M.lb), .map (some M.sb), .slice (some ⟨ga, 0, none⟩) qn qc, .int .i64 M.cap, .int .i64 M.fuse, .bool M.off, .int .i64 M.cnt] 90 (0, 0))) (fun _ => false) (by kernel_rfl) ?_; have hS : wr.drew.heap[d]? = some (.cells #[.map (some M.lb), .map (some M.sb), .slice (some ⟨ga, 0, none⟩) qn qc, .int .i64 M.cap, .int .i64 M.fuse, .bool M.off, .int .i64 M.cnt] 90 (0, 0)) := HRK.out.1.1; refine zTk 0 ?_; simp only [Act.put, zq1, zq2, zq3]; refine zTk 1 ?_; simp only [Act.put, zq1, zq2, zq3]; refine zTk 2 ?_; simp only [Act.put, zq1, zq2, zq3]; refine zTk 3 ?_; simp only [Act.put, zq1, zq2, zq3]; refine zLs 4 rfl hS (by intro W hW; have c0 : W.cell? ⟨d, 1, none⟩ = some (.map (some M.sb)) := (zCr hW).trans rfl; go_simp; first | done | with_reducible rfl) ?_; simp only [Act.put, zq1, zq2, zq3]; refine zTk 5 ?_; simp only [Act.put, zq1, zq2, zq3]; refine wpAnyZ_take' (i := 6) (v := ?vz7) rfl (by kernel_rfl) (by kernel_rfl) (by kernel_rfl) (fun _ _ _ h => h) (Or.inl ⟨by rfl, ?yz7⟩) ?rz7
            case yz7 => (intro w _; go_simp; simp only [nilA1, Result.andThen]; rfl)
            simp only [Act.put, zq1, zq2, zq3]; refine zTk 7 ?_; simp only [Act.put, zq1, zq2, zq3]; clear hS; refine wpAnyZ_one' (i := 8) (by kernel_rfl) rfl (fun K hK => ?_); go_simp; rw [meth1, Result.andThen_ok]; go_simp; go_at_call 134; refine (HCALL.out wr.drew (grownBy_drew (grownBy_refl _ _))).mono ?_; rintro e w5 ⟨rfl, hso⟩; have hb5 : w5.heap[d]? = some (.cells #[.map (some M.lb), .map (some M.sb), .slice (some ⟨ga, 0, none⟩) qn qc, .int .i64 M.cap, .int .i64 M.fuse, .bool M.off, .int .i64 M.cnt] 90 (0, 0)) := hso.2.2.1.cells (k := d) HRK.out.1.1 (by decide) (by intro hc; simp only [List.mem_cons, List.not_mem_nil, or_false] at hc; have h8 := HRK.out.1.1; obtain ⟨es, ck, h9, -⟩ := HRK.out.2.1.2; rw [← hc, h8] at h9; cases h9); refine hK.out _ _ (fun _ _ => hb5) ?_; clear hK K; (try simp only [Act.put, zq1, zq2, zq3])
            have HSO : Hid (SyncOut wr w5 B M.sb (M.N + tots (M.queue.take (k + 1))) (syncsD o (M.queue.take (k + 1)) M.SD) (syncsP o (M.queue.take (k + 1)) (ms.map Bd.tell)) ∧ w5.heap[d]? = some (.cells #[.map (some M.lb), .map (some M.sb), .slice (some ⟨ga, 0, none⟩) qn qc, .int .i64 M.cap, .int .i64 M.fuse, .bool M.off, .int .i64 M.cnt] 90 (0, 0))) := by
              refine ⟨?_, hb5⟩; rw [HTK.out, syncsP_snoc, syncsD_snoc, HMI.out, tots_snoc, if_pos rfl, if_pos rfl, ← Nat.add_assoc]; obtain ⟨s1, s2, s3, s4⟩ := hso; exact ⟨s1, s2, ⟨s3.os, s3.tape, s3.output, s3.size, s3.block⟩, s4⟩
            clear hso hb5; refine wpAnyZ_done (by kernel_rfl) ?_ _
            have HF : Hid ((w5.heap[d]? = some (.cells #[.map (some M.lb), .map (some M.sb), .slice (some ⟨ga, 0, none⟩) qn qc, .int .i64 M.cap, .int .i64 M.fuse, .bool M.off, .int .i64 M.cnt] 90 (0, 0)) ∧ NMap w5 M.lb M.N M.LD ∧ w5.ownsRow B 104 1 (.slice (some ⟨ga, 0, none⟩) qn qc) qn (M.queue.map Ch.cell) ∧ (∀ x ∈ M.queue, ChAt w5 B x) ∧ Moves [M.sb] [93, 5] w w5 ∧ (∀ k, k < B → w5.heap[k]? = w.heap[k]?)) ∧ ((∃ ms', Bods w5 B ms' ∧ ms'.map Bd.tell = syncsP o (M.queue.take (k + 1)) (ms.map Bd.tell)) ∧ NMap w5 M.sb (M.N + tots (M.queue.take (k + 1))) (syncsD o (M.queue.take (k + 1)) M.SD)) ∧ w5.ownsRow w.heap.size 104 1 u4 ((M.queue.take (k + 1)).filter (fun x => !(mineC o x))).length (((M.queue.take (k + 1)).filter (fun x => !(mineC o x))).map Ch.cell)) := by
              obtain ⟨⟨h1, h2, h3, h4, h5, h6⟩, ⟨-, h9⟩, h10⟩ := HRK.out; obtain ⟨⟨s1, s2, s3, s4⟩, s5⟩ := HSO.out; have e1 : M.queue.take (k + 1) = M.queue.take k ++ [x] := HTK.out
              have hsbm : ∀ j ∈ [M.sb], ∃ es ck, wr.heap[j]? = some (.map es ck) := fun j hj => by
                simp only [List.mem_cons, List.not_mem_nil, or_false] at hj; subst hj; obtain ⟨es, ck, g1, -⟩ := h9; exact ⟨es, ck, g1⟩
              have hrowk : ∀ {BB n : Nat} {v : Value} {xs : List Value}, wr.ownsRow BB 104 1 v n xs → w5.ownsRow BB 104 1 v n xs := fun ho => by
                obtain ⟨hl, h1' | ⟨g', cap', cur', h1', hb', hg', h2'⟩⟩ := ho
                · exact ⟨hl, .inl h1'⟩
                · refine ⟨hl, .inr ⟨g', cap', cur', h1', hb', s3.cells hg' (by decide) (fun hc => ?_), h2'⟩⟩; obtain ⟨es, ck, g1⟩ := hsbm g' hc; rw [g1] at hg'
                  cases hg'
              refine ⟨⟨s5, s3.map h2 (by simpa using HD.out.1.ne), hrowk h3, fun y hy => (h4 y hy).moves s3 (by decide) hsbm s4, h5.trans s3, fun j hj => (s4 j hj).trans (h6 j hj)⟩, ⟨s1, s2⟩, ?_⟩; rw [e1, List.filter_append]
              have e2 : [x].filter (fun x => !(mineC o x)) = [] := by simp [HMI.out]
              rw [e2, List.append_nil]; exact hrowk h10
            clear HRK; go_wp2; go_roundw
            case rel => exact ⟨k + 1, hlt, by go_num, HF.out.1, HF.out.2.1, HF.out.2.2⟩
            case measure => simp [intOf]; omega
          · have HNM : Hid (mineC o x = false) := by show _ = _; simp [HO.out, mineC, hkd, hxb]
            have e9 : (binOp .eql 91 (.pointer (some ⟨x.b, 0, none⟩)) (.pointer (some ⟨b, 0, none⟩))).run Tryz.prog wr = .ok (.bool false) wr := by
              obtain ⟨-, ⟨⟨ms1, h7, h8⟩, -⟩, -⟩ := HRK.out
              have hT : (ms1.map Bd.tell).map (·.1) = (ms.map Bd.tell).map (·.1) := by rw [h8, syncsP_fst]
              exact eqB_other h7 (has_of_tell hT (HRF.out.1.1 (by omega))) (has_of_tell hT (HD.out.2.2.2.2 b HO.out)) hxb
            go_wp2_with fail; refine HOW.out.mono ?_; rintro e wz ⟨rfl, hwz⟩; obtain rfl := hwz.symm; clear hwz; obtain ⟨i0, hi, hz0, hz1, hz2'⟩ := info_parts Tryz.infoChg; obtain ⟨rn, hrn⟩ : ∃ y, ((M.queue.take k).filter (fun x => !(mineC o x))).length = y := ⟨_, rfl⟩
            have hrb : rn ≤ 100000 := by
              rw [← hrn]; exact Nat.le_trans (List.length_filter_le _ _) (by rw [List.length_take]; omega)
            have HRE : Hid (wr.ownsRow w.heap.size 104 1 u4 rn (((M.queue.take k).filter (fun x => !(mineC o x))).map Ch.cell)) := by rw [← hrn]; exact HRK.out.2.2
            have hwsz := HRK.out.1.2.2.2.2.1.size
            go_wp2_with (at_builtin; refine wpList_append_own _ rfl _ _ 88 rfl w.heap.size 104 i0 .nilIface 1 16 Tryz.underlying88 hi hz0 hz1 hz2' rfl (by decide) u4 rn (((M.queue.take k).filter (fun x => !(mineC o x))).map Ch.cell) rfl (by exact own1_grown HRE.out (World.grownBy_alloc _ _ _)) ⟨wr.heap.size, 0, none⟩ 1 1 [.iface 155 (.pointer (some ⟨x.c, 0, none⟩))] rfl rfl ?e1t2 ?e2t2 ?e3t2 ?e4t2 ?e5t2 ?_)
            case e1t2 =>
              intro j u hj; have hX : (wr.alloc (.cells #[.iface 155 (.pointer (some ⟨x.c, 0, none⟩))] 104)).heap[wr.heap.size]? = some (.cells #[.iface 155 (.pointer (some ⟨x.c, 0, none⟩))] 104 (0, 0)) := heap_alloc_new wr _
              match j, hj with
              | 0, hj => simp at hj; subst hj; exact (zCr hX).trans rfl
            case e2t2 => first | rfl | (intro u hu; simp at hu; subst hu; rfl)
            case e3t2 => first | omega | (unfold maxLen; omega)
            case e4t2 => omega
            case e5t2 => simp; omega
            intro v4 w4 hown4 hgrow4 _; have hA := World.grownBy_alloc wr (.cells #[.iface 155 (.pointer (some ⟨x.c, 0, none⟩))] 104) none; have oA := own1_grown HRE.out hA
            have hTY : ∀ g, u4.ownBlock = some g → w.heap.size ≤ g ∧ ∃ cur, (wr.alloc (.cells #[.iface 155 (.pointer (some ⟨x.c, 0, none⟩))] 104)).heap[g]? = some (.cells cur 104 (0, 0)) := fun g hg => by
              refine ⟨own1_base oA hg, ?_⟩
              rcases oA.2 with ⟨h1, -⟩ | ⟨g', cap, cur, h1, -, h2, -⟩
              · rw [h1] at hg; cases hg
              · rw [h1] at hg; cases hg; exact ⟨cur, h2⟩
            have hM1 : Moves [] [104] wr (wr.alloc (.cells #[.iface 155 (.pointer (some ⟨x.c, 0, none⟩))] 104)) := Moves.of_grown0 hA
            have hM2 : Moves [] [104] (wr.alloc (.cells #[.iface 155 (.pointer (some ⟨x.c, 0, none⟩))] 104)) w4 := Moves.of_turn (Turn.of_grown (T := fun k => u4.ownBlock = some k) hgrow4 (fun g hg => hg)) (fun k _ hk => .inr (by
              obtain ⟨-, cur, h9⟩ := hTY k hk
              exact ⟨cur, _, _, h9, by simp⟩))
            have hM := hM1.trans hM2
            have hOLD : ∀ k, k < w.heap.size → w4.heap[k]? = wr.heap[k]? := fun k hk => (hgrow4.block k (by simp; omega) (fun hc => by have := (hTY k hc.symm).1; omega)).trans (heap_alloc_old wr _ (by omega))
            have HF : Hid ((w4.heap[d]? = some (.cells #[.map (some M.lb), .map (some M.sb), .slice (some ⟨ga, 0, none⟩) qn qc, .int .i64 M.cap, .int .i64 M.fuse, .bool M.off, .int .i64 M.cnt] 90 (0, 0)) ∧ NMap w4 M.lb M.N M.LD ∧ w4.ownsRow B 104 1 (.slice (some ⟨ga, 0, none⟩) qn qc) qn (M.queue.map Ch.cell) ∧ (∀ x ∈ M.queue, ChAt w4 B x) ∧ Moves [M.sb] [93, 5] w w4 ∧ (∀ k, k < B → w4.heap[k]? = w.heap[k]?)) ∧ ((∃ ms', Bods w4 B ms' ∧ ms'.map Bd.tell = syncsP o (M.queue.take (k + 1)) (ms.map Bd.tell)) ∧ NMap w4 M.sb (M.N + tots (M.queue.take (k + 1))) (syncsD o (M.queue.take (k + 1)) M.SD)) ∧ w4.ownsRow w.heap.size 104 1 v4 ((M.queue.take (k + 1)).filter (fun x => !(mineC o x))).length (((M.queue.take (k + 1)).filter (fun x => !(mineC o x))).map Ch.cell)) := by
              obtain ⟨⟨h1, h2, h3, h4, h5, h6⟩, ⟨⟨ms1, h7, h8⟩, h9⟩, -⟩ := HRK.out; have e1 : M.queue.take (k + 1) = M.queue.take k ++ [x] := HTK.out; refine ⟨⟨hM.cells h1 (by decide) (by simp), hM.map h2 (by simp), ?_, fun y hy => (h4 y hy).moves hM (by simp) (by simp) (fun j hj => hOLD j (Nat.lt_of_lt_of_le hj hBw)), moves_new h5 (hgrow4.os.trans hA.os) (hgrow4.tape.trans hA.tape) (hgrow4.output.trans hA.output) (Nat.le_trans hA.size hgrow4.size) hOLD, fun j hj => (hOLD j (Nat.lt_of_lt_of_le hj hBw)).trans (h6 j hj)⟩, ⟨⟨ms1, h7.moves hM (by decide) (by decide) (by simp), ?_⟩, ?_⟩, ?_⟩
              · obtain ⟨hl, h1' | ⟨g', cap', cur', h1', hb', hg', h2'⟩⟩ := h3
                · exact ⟨hl, .inl h1'⟩
                · exact ⟨hl, .inr ⟨g', cap', cur', h1', hb', (hOLD g' (HQB.out g' (by rw [h1']; rfl))).trans hg', h2'⟩⟩
              · rw [e1, syncsP_snoc, HNM.out, h8]
                rfl
              · rw [e1, syncsD_snoc, HNM.out, tots_snoc]; exact (hM.map h9 (by simp)).mono (by omega)
              · rw [e1, List.filter_append, List.map_append]
                have e2 : [x].filter (fun x => !(mineC o x)) = [x] := by simp [HNM.out]
                rw [e2, List.length_append, hrn]
                have e3 : [x].map Ch.cell = [.iface 155 (.pointer (some ⟨x.c, 0, none⟩))] := by simp [HCELL.out]
                rw [e3]; exact hown4
            clear HRK; go_wp2; go_roundw
            case rel => exact ⟨k + 1, hlt, by go_num, HF.out.1, HF.out.2.1, HF.out.2.2⟩
            case measure => simp [intOf]; omega
      · skip
        have HCELL : Hid (x.cell = .iface 158 (.pointer (some ⟨x.c, 0, none⟩))) := by show _ = _; simp [Ch.cell, hkd]
        have cq : wr.cell? ⟨ga, k, none⟩ = some (.iface 158 (.pointer (some ⟨x.c, 0, none⟩))) := by rw [← HCELL.out]; exact own1_at HRK.out.1.2.2.1 (by simp [hx])
        have HOW : Hid (Calls _ _ _ _ _) := cutOwner_any x.c x.b x.at_ wr hc
        obtain HO | ⟨b, HO⟩ : Hid (o = none) ∨ ∃ b, Hid (o = some b) := by
          cases o with
          | none => exact .inl (show _ = _ from rfl)
          | some b => exact .inr ⟨b, (show _ = _ from rfl)⟩
        · obtain rfl : pv = .pointer none := by rw [← HPV.out, HO.out]; rfl
          have HNM : Hid (mineC o x = false) := by show _ = _; simp [HO.out, mineC, hkd]
          clear HPV; go_wp2_with fail; refine HOW.out.mono ?_; rintro e wz ⟨rfl, hwz⟩; obtain rfl := hwz.symm; clear hwz; obtain ⟨i0, hi, hz0, hz1, hz2'⟩ := info_parts Tryz.infoChg; obtain ⟨rn, hrn⟩ : ∃ y, ((M.queue.take k).filter (fun x => !(mineC o x))).length = y := ⟨_, rfl⟩
          have hrb : rn ≤ 100000 := by
            rw [← hrn]; exact Nat.le_trans (List.length_filter_le _ _) (by rw [List.length_take]; omega)
          have HRE : Hid (wr.ownsRow w.heap.size 104 1 u4 rn (((M.queue.take k).filter (fun x => !(mineC o x))).map Ch.cell)) := by rw [← hrn]; exact HRK.out.2.2
          have hwsz := HRK.out.1.2.2.2.2.1.size
          go_wp2_with (at_builtin; refine wpList_append_own _ rfl _ _ 88 rfl w.heap.size 104 i0 .nilIface 1 16 Tryz.underlying88 hi hz0 hz1 hz2' rfl (by decide) u4 rn (((M.queue.take k).filter (fun x => !(mineC o x))).map Ch.cell) rfl (by exact own1_grown HRE.out (World.grownBy_alloc _ _ _)) ⟨wr.heap.size, 0, none⟩ 1 1 [.iface 158 (.pointer (some ⟨x.c, 0, none⟩))] rfl rfl ?e1t3 ?e2t3 ?e3t3 ?e4t3 ?e5t3 ?_)
          case e1t3 =>
            intro j u hj; have hX : (wr.alloc (.cells #[.iface 158 (.pointer (some ⟨x.c, 0, none⟩))] 104)).heap[wr.heap.size]? = some (.cells #[.iface 158 (.pointer (some ⟨x.c, 0, none⟩))] 104 (0, 0)) := heap_alloc_new wr _
            match j, hj with
            | 0, hj => simp at hj; subst hj; exact (zCr hX).trans rfl
          case e2t3 => first | rfl | (intro u hu; simp at hu; subst hu; rfl)
          case e3t3 => first | omega | (unfold maxLen; omega)
          case e4t3 => omega
          case e5t3 => simp; omega
          intro v4 w4 hown4 hgrow4 _; have hA := World.grownBy_alloc wr (.cells #[.iface 158 (.pointer (some ⟨x.c, 0, none⟩))] 104) none; have oA := own1_grown HRE.out hA
          have hTY : ∀ g, u4.ownBlock = some g → w.heap.size ≤ g ∧ ∃ cur, (wr.alloc (.cells #[.iface 158 (.pointer (some ⟨x.c, 0, none⟩))] 104)).heap[g]? = some (.cells cur 104 (0, 0)) := fun g hg => by
            refine ⟨own1_base oA hg, ?_⟩
            rcases oA.2 with ⟨h1, -⟩ | ⟨g', cap, cur, h1, -, h2, -⟩
            · rw [h1] at hg; cases hg
            · rw [h1] at hg; cases hg; exact ⟨cur, h2⟩
          have hM1 : Moves [] [104] wr (wr.alloc (.cells #[.iface 158 (.pointer (some ⟨x.c, 0, none⟩))] 104)) := Moves.of_grown0 hA
          have hM2 : Moves [] [104] (wr.alloc (.cells #[.iface 158 (.pointer (some ⟨x.c, 0, none⟩))] 104)) w4 := Moves.of_turn (Turn.of_grown (T := fun k => u4.ownBlock = some k) hgrow4 (fun g hg => hg)) (fun k _ hk => .inr (by
            obtain ⟨-, cur, h9⟩ := hTY k hk
            exact ⟨cur, _, _, h9, by simp⟩))
          have hM := hM1.trans hM2
          have hOLD : ∀ k, k < w.heap.size → w4.heap[k]? = wr.heap[k]? := fun k hk => (hgrow4.block k (by simp; omega) (fun hc => by have := (hTY k hc.symm).1; omega)).trans (heap_alloc_old wr _ (by omega))
          have HF : Hid ((w4.heap[d]? = some (.cells #[.map (some M.lb), .map (some M.sb), .slice (some ⟨ga, 0, none⟩) qn qc, .int .i64 M.cap, .int .i64 M.fuse, .bool M.off, .int .i64 M.cnt] 90 (0, 0)) ∧ NMap w4 M.lb M.N M.LD ∧ w4.ownsRow B 104 1 (.slice (some ⟨ga, 0, none⟩) qn qc) qn (M.queue.map Ch.cell) ∧ (∀ x ∈ M.queue, ChAt w4 B x) ∧ Moves [M.sb] [93, 5] w w4 ∧ (∀ k, k < B → w4.heap[k]? = w.heap[k]?)) ∧ ((∃ ms', Bods w4 B ms' ∧ ms'.map Bd.tell = syncsP o (M.queue.take (k + 1)) (ms.map Bd.tell)) ∧ NMap w4 M.sb (M.N + tots (M.queue.take (k + 1))) (syncsD o (M.queue.take (k + 1)) M.SD)) ∧ w4.ownsRow w.heap.size 104 1 v4 ((M.queue.take (k + 1)).filter (fun x => !(mineC o x))).length (((M.queue.take (k + 1)).filter (fun x => !(mineC o x))).map Ch.cell)) := by
            obtain ⟨⟨h1, h2, h3, h4, h5, h6⟩, ⟨⟨ms1, h7, h8⟩, h9⟩, -⟩ := HRK.out; have e1 : M.queue.take (k + 1) = M.queue.take k ++ [x] := HTK.out; refine ⟨⟨hM.cells h1 (by decide) (by simp), hM.map h2 (by simp), ?_, fun y hy => (h4 y hy).moves hM (by simp) (by simp) (fun j hj => hOLD j (Nat.lt_of_lt_of_le hj hBw)), moves_new h5 (hgrow4.os.trans hA.os) (hgrow4.tape.trans hA.tape) (hgrow4.output.trans hA.output) (Nat.le_trans hA.size hgrow4.size) hOLD, fun j hj => (hOLD j (Nat.lt_of_lt_of_le hj hBw)).trans (h6 j hj)⟩, ⟨⟨ms1, h7.moves hM (by decide) (by decide) (by simp), ?_⟩, ?_⟩, ?_⟩
            · obtain ⟨hl, h1' | ⟨g', cap', cur', h1', hb', hg', h2'⟩⟩ := h3
              · exact ⟨hl, .inl h1'⟩
              · exact ⟨hl, .inr ⟨g', cap', cur', h1', hb', (hOLD g' (HQB.out g' (by rw [h1']; rfl))).trans hg', h2'⟩⟩
            · rw [e1, syncsP_snoc, HNM.out, h8]
              rfl
            · rw [e1, syncsD_snoc, HNM.out, tots_snoc]; exact (hM.map h9 (by simp)).mono (by omega)
            · rw [e1, List.filter_append, List.map_append]
              have e2 : [x].filter (fun x => !(mineC o x)) = [x] := by simp [HNM.out]
              rw [e2, List.length_append, hrn]
              have e3 : [x].map Ch.cell = [.iface 158 (.pointer (some ⟨x.c, 0, none⟩))] := by simp [HCELL.out]
              rw [e3]; exact hown4
          clear HRK; go_wp2; go_roundw
          case rel => exact ⟨k + 1, hlt, by go_num, HF.out.1, HF.out.2.1, HF.out.2.2⟩
          case measure => simp [intOf]; omega
        · obtain rfl : pv = .pointer (some ⟨b, 0, none⟩) := by rw [← HPV.out, HO.out]; rfl
          clear HPV
          rcases Classical.em (x.b = b) with hxb | hxb
          · have HMI : Hid (mineC o x = true) := by show _ = _; simp [HO.out, mineC, hkd, hxb]
            subst hxb; have e9 := eqB_same wr x.b
            have HCALL : Hid (∀ X : World, wr.grownBy X none → Calls Tryz.prog 138 #[.pointer (some ⟨x.c, 0, none⟩), .map (some M.sb)] X fun e w' => e = .returned (.tuple #[]) ∧ SyncOut X w' B M.sb (M.N + tots (M.queue.take k) + x.bs.length) (syncD x (syncsD o (M.queue.take k) M.SD)) (syncP x (syncsP o (M.queue.take k) (ms.map Bd.tell)))) := fun X hX => by
              obtain ⟨⟨h1, h2, h3, h4, h5, h6⟩, ⟨⟨ms1, h7, h8⟩, h9⟩, -⟩ := HRK.out; have hBr : B ≤ wr.heap.size := Nat.le_trans hBw h5.size; have h7X := h7.grown0 hX; have hM0 : Moves [] [] wr X := Moves.of_grown0 hX; have h9X := hM0.map h9 (by simp); have hcX : ChAt X B x := (h4 x hxm).moves hM0 (by simp) (by simp) (fun j hj => hX.block j (Nat.lt_of_lt_of_le hj hBr) (by simp))
              rcases hcX with ⟨hkX, -⟩ | ⟨-, hcX⟩ | ⟨hkX, -, -⟩
              · omega
              rotate_left
              · omega
              obtain ⟨m, hm, hmb⟩ := (has_of_tell (ms' := ms1) (by rw [h8, syncsP_fst]) (HRF.out.1.1 (by omega))).get; have hmX := h7X.each m hm; refine (cutSync_any m x.c x.at_ _ B X hmX.1 (by rw [hmb]; exact hcX)).mono ?_; rintro e w' ⟨rfl, sv', a1, a2, a3⟩; refine ⟨rfl, ?_⟩; rw [show syncP x (syncsP o (M.queue.take k) (ms.map Bd.tell)) = onB m.b (fun S => S.take x.at_) (ms1.map Bd.tell) from by rw [h8, hmb]; simp [syncP, hkd], show syncD x (syncsD o (M.queue.take k) M.SD) = syncsD o (M.queue.take k) M.SD from by simp [syncD, hkd]]
              exact sync_of_turn h7X hm (h9X.mono (by omega)) ⟨a2.os, a2.tape, a2.output, a2.size, fun i hi hc => a2.block i hi (fun h => hc (.inl h))⟩ a1 rfl rfl rfl rfl (fun g hg => .inl (a3 g hg)) (by
                have := hmX.2.2; simp only [List.length_take]
                omega)
            go_wp2_with fail; refine HOW.out.mono ?_; rintro e wz ⟨rfl, hwz⟩; obtain rfl := hwz.symm; clear hwz
            go_upto_region 5 with fail
            refine wp_region_Z (fun Y => Y.heap[d]? = some (.cells #[.map (some M.lb), .map (some M.sb), .slice (some ⟨ga, 0, none⟩) qn qc, .int .i64 M.cap, .int .i64 M.fuse, .bool M.off, .int .i64 M.cnt] 90 (0, 0))) (fun _ => false) (by kernel_rfl) ?_; have hS : wr.drew.heap[d]? = some (.cells #[.map (some M.lb), .map (some M.sb), .slice (some ⟨ga, 0, none⟩) qn qc, .int .i64 M.cap, .int .i64 M.fuse, .bool M.off, .int .i64 M.cnt] 90 (0, 0)) := HRK.out.1.1; refine zTk 0 ?_; simp only [Act.put, zq1, zq2, zq3]; refine zTk 1 ?_; simp only [Act.put, zq1, zq2, zq3]; refine zTk 2 ?_; simp only [Act.put, zq1, zq2, zq3]; refine zTk 3 ?_; simp only [Act.put, zq1, zq2, zq3]; refine zLs 4 rfl hS (by intro W hW; have c0 : W.cell? ⟨d, 1, none⟩ = some (.map (some M.sb)) := (zCr hW).trans rfl; go_simp; first | done | with_reducible rfl) ?_; simp only [Act.put, zq1, zq2, zq3]; refine zTk 5 ?_; simp only [Act.put, zq1, zq2, zq3]; refine wpAnyZ_take' (i := 6) (v := ?vz15) rfl (by kernel_rfl) (by kernel_rfl) (by kernel_rfl) (fun _ _ _ h => h) (Or.inl ⟨by rfl, ?yz15⟩) ?rz15
            case yz15 => (intro w _; go_simp; simp only [nilA2, Result.andThen]; rfl)
            simp only [Act.put, zq1, zq2, zq3]; refine zTk 7 ?_; simp only [Act.put, zq1, zq2, zq3]; clear hS; refine wpAnyZ_one' (i := 8) (by kernel_rfl) rfl (fun K hK => ?_); go_simp; rw [meth2, Result.andThen_ok]; go_simp; go_at_call 138; refine (HCALL.out wr.drew (grownBy_drew (grownBy_refl _ _))).mono ?_; rintro e w5 ⟨rfl, hso⟩; have hb5 : w5.heap[d]? = some (.cells #[.map (some M.lb), .map (some M.sb), .slice (some ⟨ga, 0, none⟩) qn qc, .int .i64 M.cap, .int .i64 M.fuse, .bool M.off, .int .i64 M.cnt] 90 (0, 0)) := hso.2.2.1.cells (k := d) HRK.out.1.1 (by decide) (by intro hc; simp only [List.mem_cons, List.not_mem_nil, or_false] at hc; have h8 := HRK.out.1.1; obtain ⟨es, ck, h9, -⟩ := HRK.out.2.1.2; rw [← hc, h8] at h9; cases h9); refine hK.out _ _ (fun _ _ => hb5) ?_; clear hK K; (try simp only [Act.put, zq1, zq2, zq3])
            have HSO : Hid (SyncOut wr w5 B M.sb (M.N + tots (M.queue.take (k + 1))) (syncsD o (M.queue.take (k + 1)) M.SD) (syncsP o (M.queue.take (k + 1)) (ms.map Bd.tell)) ∧ w5.heap[d]? = some (.cells #[.map (some M.lb), .map (some M.sb), .slice (some ⟨ga, 0, none⟩) qn qc, .int .i64 M.cap, .int .i64 M.fuse, .bool M.off, .int .i64 M.cnt] 90 (0, 0))) := by
              refine ⟨?_, hb5⟩; rw [HTK.out, syncsP_snoc, syncsD_snoc, HMI.out, tots_snoc, if_pos rfl, if_pos rfl, ← Nat.add_assoc]; obtain ⟨s1, s2, s3, s4⟩ := hso; exact ⟨s1, s2, ⟨s3.os, s3.tape, s3.output, s3.size, s3.block⟩, s4⟩
            clear hso hb5; refine wpAnyZ_done (by kernel_rfl) ?_ _
            have HF : Hid ((w5.heap[d]? = some (.cells #[.map (some M.lb), .map (some M.sb), .slice (some ⟨ga, 0, none⟩) qn qc, .int .i64 M.cap, .int .i64 M.fuse, .bool M.off, .int .i64 M.cnt] 90 (0, 0)) ∧ NMap w5 M.lb M.N M.LD ∧ w5.ownsRow B 104 1 (.slice (some ⟨ga, 0, none⟩) qn qc) qn (M.queue.map Ch.cell) ∧ (∀ x ∈ M.queue, ChAt w5 B x) ∧ Moves [M.sb] [93, 5] w w5 ∧ (∀ k, k < B → w5.heap[k]? = w.heap[k]?)) ∧ ((∃ ms', Bods w5 B ms' ∧ ms'.map Bd.tell = syncsP o (M.queue.take (k + 1)) (ms.map Bd.tell)) ∧ NMap w5 M.sb (M.N + tots (M.queue.take (k + 1))) (syncsD o (M.queue.take (k + 1)) M.SD)) ∧ w5.ownsRow w.heap.size 104 1 u4 ((M.queue.take (k + 1)).filter (fun x => !(mineC o x))).length (((M.queue.take (k + 1)).filter (fun x => !(mineC o x))).map Ch.cell)) := by
              obtain ⟨⟨h1, h2, h3, h4, h5, h6⟩, ⟨-, h9⟩, h10⟩ := HRK.out; obtain ⟨⟨s1, s2, s3, s4⟩, s5⟩ := HSO.out; have e1 : M.queue.take (k + 1) = M.queue.take k ++ [x] := HTK.out
              have hsbm : ∀ j ∈ [M.sb], ∃ es ck, wr.heap[j]? = some (.map es ck) := fun j hj => by
                simp only [List.mem_cons, List.not_mem_nil, or_false] at hj; subst hj; obtain ⟨es, ck, g1, -⟩ := h9; exact ⟨es, ck, g1⟩
              have hrowk : ∀ {BB n : Nat} {v : Value} {xs : List Value}, wr.ownsRow BB 104 1 v n xs → w5.ownsRow BB 104 1 v n xs := fun ho => by
                obtain ⟨hl, h1' | ⟨g', cap', cur', h1', hb', hg', h2'⟩⟩ := ho
                · exact ⟨hl, .inl h1'⟩
                · refine ⟨hl, .inr ⟨g', cap', cur', h1', hb', s3.cells hg' (by decide) (fun hc => ?_), h2'⟩⟩; obtain ⟨es, ck, g1⟩ := hsbm g' hc; rw [g1] at hg'
                  cases hg'
              refine ⟨⟨s5, s3.map h2 (by simpa using HD.out.1.ne), hrowk h3, fun y hy => (h4 y hy).moves s3 (by decide) hsbm s4, h5.trans s3, fun j hj => (s4 j hj).trans (h6 j hj)⟩, ⟨s1, s2⟩, ?_⟩; rw [e1, List.filter_append]
              have e2 : [x].filter (fun x => !(mineC o x)) = [] := by simp [HMI.out]
              rw [e2, List.append_nil]; exact hrowk h10
            clear HRK; go_wp2; go_roundw
            case rel => exact ⟨k + 1, hlt, by go_num, HF.out.1, HF.out.2.1, HF.out.2.2⟩
            case measure => simp [intOf]; omega
          · have HNM : Hid (mineC o x = false) := by show _ = _; simp [HO.out, mineC, hkd, hxb]
            have e9 : (binOp .eql 91 (.pointer (some ⟨x.b, 0, none⟩)) (.pointer (some ⟨b, 0, none⟩))).run Tryz.prog wr = .ok (.bool false) wr := by
              obtain ⟨-, ⟨⟨ms1, h7, h8⟩, -⟩, -⟩ := HRK.out
              have hT : (ms1.map Bd.tell).map (·.1) = (ms.map Bd.tell).map (·.1) := by rw [h8, syncsP_fst]
              exact eqB_other h7 (has_of_tell hT (HRF.out.1.1 (by omega))) (has_of_tell hT (HD.out.2.2.2.2 b HO.out)) hxb
            go_wp2_with fail; refine HOW.out.mono ?_; rintro e wz ⟨rfl, hwz⟩; obtain rfl := hwz.symm; clear hwz; obtain ⟨i0, hi, hz0, hz1, hz2'⟩ := info_parts Tryz.infoChg; obtain ⟨rn, hrn⟩ : ∃ y, ((M.queue.take k).filter (fun x => !(mineC o x))).length = y := ⟨_, rfl⟩
            have hrb : rn ≤ 100000 := by
              rw [← hrn]; exact Nat.le_trans (List.length_filter_le _ _) (by rw [List.length_take]; omega)
            have HRE : Hid (wr.ownsRow w.heap.size 104 1 u4 rn (((M.queue.take k).filter (fun x => !(mineC o x))).map Ch.cell)) := by rw [← hrn]; exact HRK.out.2.2
            have hwsz := HRK.out.1.2.2.2.2.1.size
            go_wp2_with (at_builtin; refine wpList_append_own _ rfl _ _ 88 rfl w.heap.size 104 i0 .nilIface 1 16 Tryz.underlying88 hi hz0 hz1 hz2' rfl (by decide) u4 rn (((M.queue.take k).filter (fun x => !(mineC o x))).map Ch.cell) rfl (by exact own1_grown HRE.out (World.grownBy_alloc _ _ _)) ⟨wr.heap.size, 0, none⟩ 1 1 [.iface 158 (.pointer (some ⟨x.c, 0, none⟩))] rfl rfl ?e1t4 ?e2t4 ?e3t4 ?e4t4 ?e5t4 ?_)
            case e1t4 =>
              intro j u hj; have hX : (wr.alloc (.cells #[.iface 158 (.pointer (some ⟨x.c, 0, none⟩))] 104)).heap[wr.heap.size]? = some (.cells #[.iface 158 (.pointer (some ⟨x.c, 0, none⟩))] 104 (0, 0)) := heap_alloc_new wr _
              match j, hj with
              | 0, hj => simp at hj; subst hj; exact (zCr hX).trans rfl
            case e2t4 => first | rfl | (intro u hu; simp at hu; subst hu; rfl)
            case e3t4 => first | omega | (unfold maxLen; omega)
            case e4t4 => omega
            case e5t4 => simp; omega
            intro v4 w4 hown4 hgrow4 _; have hA := World.grownBy_alloc wr (.cells #[.iface 158 (.pointer (some ⟨x.c, 0, none⟩))] 104) none; have oA := own1_grown HRE.out hA
            have hTY : ∀ g, u4.ownBlock = some g → w.heap.size ≤ g ∧ ∃ cur, (wr.alloc (.cells #[.iface 158 (.pointer (some ⟨x.c, 0, none⟩))] 104)).heap[g]? = some (.cells cur 104 (0, 0)) := fun g hg => by
              refine ⟨own1_base oA hg, ?_⟩
              rcases oA.2 with ⟨h1, -⟩ | ⟨g', cap, cur, h1, -, h2, -⟩
              · rw [h1] at hg; cases hg
              · rw [h1] at hg; cases hg; exact ⟨cur, h2⟩
            have hM1 : Moves [] [104] wr (wr.alloc (.cells #[.iface 158 (.pointer (some ⟨x.c, 0, none⟩))] 104)) := Moves.of_grown0 hA
            have hM2 : Moves [] [104] (wr.alloc (.cells #[.iface 158 (.pointer (some ⟨x.c, 0, none⟩))] 104)) w4 := Moves.of_turn (Turn.of_grown (T := fun k => u4.ownBlock = some k) hgrow4 (fun g hg => hg)) (fun k _ hk => .inr (by
              obtain ⟨-, cur, h9⟩ := hTY k hk
              exact ⟨cur, _, _, h9, by simp⟩))
            have hM := hM1.trans hM2
            have hOLD : ∀ k, k < w.heap.size → w4.heap[k]? = wr.heap[k]? := fun k hk => (hgrow4.block k (by simp; omega) (fun hc => by have := (hTY k hc.symm).1; omega)).trans (heap_alloc_old wr _ (by omega))
            have HF : Hid ((w4.heap[d]? = some (.cells #[.map (some M.lb), .map (some M.sb), .slice (some ⟨ga, 0, none⟩) qn qc, .int .i64 M.cap, .int .i64 M.fuse, .bool M.off, .int .i64 M.cnt] 90 (0, 0)) ∧ NMap w4 M.lb M.N M.LD ∧ w4.ownsRow B 104 1 (.slice (some ⟨ga, 0, none⟩) qn qc) qn (M.queue.map Ch.cell) ∧ (∀ x ∈ M.queue, ChAt w4 B x) ∧ Moves [M.sb] [93, 5] w w4 ∧ (∀ k, k < B → w4.heap[k]? = w.heap[k]?)) ∧ ((∃ ms', Bods w4 B ms' ∧ ms'.map Bd.tell = syncsP o (M.queue.take (k + 1)) (ms.map Bd.tell)) ∧ NMap w4 M.sb (M.N + tots (M.queue.take (k + 1))) (syncsD o (M.queue.take (k + 1)) M.SD)) ∧ w4.ownsRow w.heap.size 104 1 v4 ((M.queue.take (k + 1)).filter (fun x => !(mineC o x))).length (((M.queue.take (k + 1)).filter (fun x => !(mineC o x))).map Ch.cell)) := by
              obtain ⟨⟨h1, h2, h3, h4, h5, h6⟩, ⟨⟨ms1, h7, h8⟩, h9⟩, -⟩ := HRK.out; have e1 : M.queue.take (k + 1) = M.queue.take k ++ [x] := HTK.out; refine ⟨⟨hM.cells h1 (by decide) (by simp), hM.map h2 (by simp), ?_, fun y hy => (h4 y hy).moves hM (by simp) (by simp) (fun j hj => hOLD j (Nat.lt_of_lt_of_le hj hBw)), moves_new h5 (hgrow4.os.trans hA.os) (hgrow4.tape.trans hA.tape) (hgrow4.output.trans hA.output) (Nat.le_trans hA.size hgrow4.size) hOLD, fun j hj => (hOLD j (Nat.lt_of_lt_of_le hj hBw)).trans (h6 j hj)⟩, ⟨⟨ms1, h7.moves hM (by decide) (by decide) (by simp), ?_⟩, ?_⟩, ?_⟩
              · obtain ⟨hl, h1' | ⟨g', cap', cur', h1', hb', hg', h2'⟩⟩ := h3
                · exact ⟨hl, .inl h1'⟩
                · exact ⟨hl, .inr ⟨g', cap', cur', h1', hb', (hOLD g' (HQB.out g' (by rw [h1']; rfl))).trans hg', h2'⟩⟩
              · rw [e1, syncsP_snoc, HNM.out, h8]
                rfl
              · rw [e1, syncsD_snoc, HNM.out, tots_snoc]; exact (hM.map h9 (by simp)).mono (by omega)
              · rw [e1, List.filter_append, List.map_append]
                have e2 : [x].filter (fun x => !(mineC o x)) = [x] := by simp [HNM.out]
                rw [e2, List.length_append, hrn]
                have e3 : [x].map Ch.cell = [.iface 158 (.pointer (some ⟨x.c, 0, none⟩))] := by simp [HCELL.out]
                rw [e3]; exact hown4
            clear HRK; go_wp2; go_roundw
            case rel => exact ⟨k + 1, hlt, by go_num, HF.out.1, HF.out.2.1, HF.out.2.2⟩
            case measure => simp [intOf]; omega
      · skip
        have HCELL : Hid (x.cell = .iface 151 (.pointer (some ⟨x.c, 0, none⟩))) := by show _ = _; simp [Ch.cell, hkd]
        have cq : wr.cell? ⟨ga, k, none⟩ = some (.iface 151 (.pointer (some ⟨x.c, 0, none⟩))) := by rw [← HCELL.out]; exact own1_at HRK.out.1.2.2.1 (by simp [hx])
        have HOW : Hid (Calls _ _ _ _ _) := namesOwner_any (.pointer (some ⟨x.c, 0, none⟩)) wr
        obtain HO | ⟨b, HO⟩ : Hid (o = none) ∨ ∃ b, Hid (o = some b) := by
          cases o with
          | none => exact .inl (show _ = _ from rfl)
          | some b => exact .inr ⟨b, (show _ = _ from rfl)⟩
        · obtain rfl : pv = .pointer none := by rw [← HPV.out, HO.out]; rfl
          clear HPV
          have HMI : Hid (mineC o x = true) := by show _ = _; simp [HO.out, mineC, hkd]
          have HCALL : Hid (∀ X : World, wr.grownBy X none → Calls Tryz.prog 130 #[.pointer (some ⟨x.c, 0, none⟩), .map (some M.sb)] X fun e w' => e = .returned (.tuple #[]) ∧ SyncOut X w' B M.sb (M.N + tots (M.queue.take k) + x.bs.length) (syncD x (syncsD o (M.queue.take k) M.SD)) (syncP x (syncsP o (M.queue.take k) (ms.map Bd.tell)))) := fun X hX => by
            obtain ⟨⟨h1, h2, h3, h4, h5, h6⟩, ⟨⟨ms1, h7, h8⟩, h9⟩, -⟩ := HRK.out; have hBr : B ≤ wr.heap.size := Nat.le_trans hBw h5.size; have h7X := h7.grown0 hX; have hM0 : Moves [] [] wr X := Moves.of_grown0 hX; have h9X := hM0.map h9 (by simp); have hcX : ChAt X B x := (h4 x hxm).moves hM0 (by simp) (by simp) (fun j hj => hX.block j (Nat.lt_of_lt_of_le hj hBr) (by simp))
            rcases hcX with ⟨hkX, -⟩ | ⟨hkX, -⟩ | ⟨-, hcX, hbX⟩
            · omega
            · omega
            refine (namesSync_any x.c x.da x.dc x.bs M.sb _ _ X hcX hbX h9X HRF.out.2).mono ?_; rintro e w' ⟨rfl, a1, a2⟩; refine ⟨rfl, ?_⟩; rw [show syncP x (syncsP o (M.queue.take k) (ms.map Bd.tell)) = ms1.map Bd.tell from by rw [h8]; simp [syncP, hkd], show syncD x (syncsD o (M.queue.take k) M.SD) = bindD (syncsD o (M.queue.take k) M.SD) x.bs from by simp [syncD, hkd]]; exact sync_names h7X h9X HD.out.1.low.2.1 a1 a2
          go_wp2_with fail; refine HOW.out.mono ?_; rintro e wz ⟨rfl, hwz⟩; obtain rfl := hwz.symm; clear hwz
          go_upto_region 5 with fail
          refine wp_region_Z (fun Y => Y.heap[d]? = some (.cells #[.map (some M.lb), .map (some M.sb), .slice (some ⟨ga, 0, none⟩) qn qc, .int .i64 M.cap, .int .i64 M.fuse, .bool M.off, .int .i64 M.cnt] 90 (0, 0))) (fun _ => false) (by kernel_rfl) ?_; have hS : wr.drew.heap[d]? = some (.cells #[.map (some M.lb), .map (some M.sb), .slice (some ⟨ga, 0, none⟩) qn qc, .int .i64 M.cap, .int .i64 M.fuse, .bool M.off, .int .i64 M.cnt] 90 (0, 0)) := HRK.out.1.1; refine zTk 0 ?_; simp only [Act.put, zq1, zq2, zq3]; refine zTk 1 ?_; simp only [Act.put, zq1, zq2, zq3]; refine zTk 2 ?_; simp only [Act.put, zq1, zq2, zq3]; refine zTk 3 ?_; simp only [Act.put, zq1, zq2, zq3]; refine zLs 4 rfl hS (by intro W hW; have c0 : W.cell? ⟨d, 1, none⟩ = some (.map (some M.sb)) := (zCr hW).trans rfl; go_simp; first | done | with_reducible rfl) ?_; simp only [Act.put, zq1, zq2, zq3]; refine zTk 5 ?_; simp only [Act.put, zq1, zq2, zq3]; refine wpAnyZ_take' (i := 6) (v := ?vz23) rfl (by kernel_rfl) (by kernel_rfl) (by kernel_rfl) (fun _ _ _ h => h) (Or.inl ⟨by rfl, ?yz23⟩) ?rz23
          case yz23 => (intro w _; go_simp; simp only [nilA3, Result.andThen]; rfl)
          simp only [Act.put, zq1, zq2, zq3]; refine zTk 7 ?_; simp only [Act.put, zq1, zq2, zq3]; clear hS; refine wpAnyZ_one' (i := 8) (by kernel_rfl) rfl (fun K hK => ?_); go_simp; rw [meth3, Result.andThen_ok]; go_simp; go_at_call 130; refine (HCALL.out wr.drew (grownBy_drew (grownBy_refl _ _))).mono ?_; rintro e w5 ⟨rfl, hso⟩; have hb5 : w5.heap[d]? = some (.cells #[.map (some M.lb), .map (some M.sb), .slice (some ⟨ga, 0, none⟩) qn qc, .int .i64 M.cap, .int .i64 M.fuse, .bool M.off, .int .i64 M.cnt] 90 (0, 0)) := hso.2.2.1.cells (k := d) HRK.out.1.1 (by decide) (by intro hc; simp only [List.mem_cons, List.not_mem_nil, or_false] at hc; have h8 := HRK.out.1.1; obtain ⟨es, ck, h9, -⟩ := HRK.out.2.1.2; rw [← hc, h8] at h9; cases h9); refine hK.out _ _ (fun _ _ => hb5) ?_; clear hK K; (try simp only [Act.put, zq1, zq2, zq3])
          have HSO : Hid (SyncOut wr w5 B M.sb (M.N + tots (M.queue.take (k + 1))) (syncsD o (M.queue.take (k + 1)) M.SD) (syncsP o (M.queue.take (k + 1)) (ms.map Bd.tell)) ∧ w5.heap[d]? = some (.cells #[.map (some M.lb), .map (some M.sb), .slice (some ⟨ga, 0, none⟩) qn qc, .int .i64 M.cap, .int .i64 M.fuse, .bool M.off, .int .i64 M.cnt] 90 (0, 0))) := by
            refine ⟨?_, hb5⟩; rw [HTK.out, syncsP_snoc, syncsD_snoc, HMI.out, tots_snoc, if_pos rfl, if_pos rfl, ← Nat.add_assoc]; obtain ⟨s1, s2, s3, s4⟩ := hso; exact ⟨s1, s2, ⟨s3.os, s3.tape, s3.output, s3.size, s3.block⟩, s4⟩
          clear hso hb5; refine wpAnyZ_done (by kernel_rfl) ?_ _
          have HF : Hid ((w5.heap[d]? = some (.cells #[.map (some M.lb), .map (some M.sb), .slice (some ⟨ga, 0, none⟩) qn qc, .int .i64 M.cap, .int .i64 M.fuse, .bool M.off, .int .i64 M.cnt] 90 (0, 0)) ∧ NMap w5 M.lb M.N M.LD ∧ w5.ownsRow B 104 1 (.slice (some ⟨ga, 0, none⟩) qn qc) qn (M.queue.map Ch.cell) ∧ (∀ x ∈ M.queue, ChAt w5 B x) ∧ Moves [M.sb] [93, 5] w w5 ∧ (∀ k, k < B → w5.heap[k]? = w.heap[k]?)) ∧ ((∃ ms', Bods w5 B ms' ∧ ms'.map Bd.tell = syncsP o (M.queue.take (k + 1)) (ms.map Bd.tell)) ∧ NMap w5 M.sb (M.N + tots (M.queue.take (k + 1))) (syncsD o (M.queue.take (k + 1)) M.SD)) ∧ w5.ownsRow w.heap.size 104 1 u4 ((M.queue.take (k + 1)).filter (fun x => !(mineC o x))).length (((M.queue.take (k + 1)).filter (fun x => !(mineC o x))).map Ch.cell)) := by
            obtain ⟨⟨h1, h2, h3, h4, h5, h6⟩, ⟨-, h9⟩, h10⟩ := HRK.out; obtain ⟨⟨s1, s2, s3, s4⟩, s5⟩ := HSO.out; have e1 : M.queue.take (k + 1) = M.queue.take k ++ [x] := HTK.out
            have hsbm : ∀ j ∈ [M.sb], ∃ es ck, wr.heap[j]? = some (.map es ck) := fun j hj => by
              simp only [List.mem_cons, List.not_mem_nil, or_false] at hj; subst hj; obtain ⟨es, ck, g1, -⟩ := h9; exact ⟨es, ck, g1⟩
            have hrowk : ∀ {BB n : Nat} {v : Value} {xs : List Value}, wr.ownsRow BB 104 1 v n xs → w5.ownsRow BB 104 1 v n xs := fun ho => by
              obtain ⟨hl, h1' | ⟨g', cap', cur', h1', hb', hg', h2'⟩⟩ := ho
              · exact ⟨hl, .inl h1'⟩
              · refine ⟨hl, .inr ⟨g', cap', cur', h1', hb', s3.cells hg' (by decide) (fun hc => ?_), h2'⟩⟩; obtain ⟨es, ck, g1⟩ := hsbm g' hc; rw [g1] at hg'
                cases hg'
            refine ⟨⟨s5, s3.map h2 (by simpa using HD.out.1.ne), hrowk h3, fun y hy => (h4 y hy).moves s3 (by decide) hsbm s4, h5.trans s3, fun j hj => (s4 j hj).trans (h6 j hj)⟩, ⟨s1, s2⟩, ?_⟩; rw [e1, List.filter_append]
            have e2 : [x].filter (fun x => !(mineC o x)) = [] := by simp [HMI.out]
            rw [e2, List.append_nil]; exact hrowk h10
          clear HRK; go_wp2; go_roundw
          case rel => exact ⟨k + 1, hlt, by go_num, HF.out.1, HF.out.2.1, HF.out.2.2⟩
          case measure => simp [intOf]; omega
        · obtain rfl : pv = .pointer (some ⟨b, 0, none⟩) := by rw [← HPV.out, HO.out]; rfl
          clear HPV
          have HNM : Hid (mineC o x = false) := by show _ = _; simp [HO.out, mineC, hkd]
          have e9 := eqB_none wr b; go_wp2_with fail; refine HOW.out.mono ?_; rintro e wz ⟨rfl, hwz⟩; obtain rfl := hwz.symm; clear hwz; obtain ⟨i0, hi, hz0, hz1, hz2'⟩ := info_parts Tryz.infoChg; obtain ⟨rn, hrn⟩ : ∃ y, ((M.queue.take k).filter (fun x => !(mineC o x))).length = y := ⟨_, rfl⟩
          have hrb : rn ≤ 100000 := by
            rw [← hrn]; exact Nat.le_trans (List.length_filter_le _ _) (by rw [List.length_take]; omega)
          have HRE : Hid (wr.ownsRow w.heap.size 104 1 u4 rn (((M.queue.take k).filter (fun x => !(mineC o x))).map Ch.cell)) := by rw [← hrn]; exact HRK.out.2.2
          have hwsz := HRK.out.1.2.2.2.2.1.size
          go_wp2_with (at_builtin; refine wpList_append_own _ rfl _ _ 88 rfl w.heap.size 104 i0 .nilIface 1 16 Tryz.underlying88 hi hz0 hz1 hz2' rfl (by decide) u4 rn (((M.queue.take k).filter (fun x => !(mineC o x))).map Ch.cell) rfl (by exact own1_grown HRE.out (World.grownBy_alloc _ _ _)) ⟨wr.heap.size, 0, none⟩ 1 1 [.iface 151 (.pointer (some ⟨x.c, 0, none⟩))] rfl rfl ?e1t5 ?e2t5 ?e3t5 ?e4t5 ?e5t5 ?_)
          case e1t5 =>
            intro j u hj; have hX : (wr.alloc (.cells #[.iface 151 (.pointer (some ⟨x.c, 0, none⟩))] 104)).heap[wr.heap.size]? = some (.cells #[.iface 151 (.pointer (some ⟨x.c, 0, none⟩))] 104 (0, 0)) := heap_alloc_new wr _
            match j, hj with
            | 0, hj => simp at hj; subst hj; exact (zCr hX).trans rfl
          case e2t5 => first | rfl | (intro u hu; simp at hu; subst hu; rfl)
          case e3t5 => first | omega | (unfold maxLen; omega)
          case e4t5 => omega
          case e5t5 => simp; omega
          intro v4 w4 hown4 hgrow4 _; have hA := World.grownBy_alloc wr (.cells #[.iface 151 (.pointer (some ⟨x.c, 0, none⟩))] 104) none; have oA := own1_grown HRE.out hA
          have hTY : ∀ g, u4.ownBlock = some g → w.heap.size ≤ g ∧ ∃ cur, (wr.alloc (.cells #[.iface 151 (.pointer (some ⟨x.c, 0, none⟩))] 104)).heap[g]? = some (.cells cur 104 (0, 0)) := fun g hg => by
            refine ⟨own1_base oA hg, ?_⟩
            rcases oA.2 with ⟨h1, -⟩ | ⟨g', cap, cur, h1, -, h2, -⟩
            · rw [h1] at hg; cases hg
            · rw [h1] at hg; cases hg; exact ⟨cur, h2⟩
          have hM1 : Moves [] [104] wr (wr.alloc (.cells #[.iface 151 (.pointer (some ⟨x.c, 0, none⟩))] 104)) := Moves.of_grown0 hA
          have hM2 : Moves [] [104] (wr.alloc (.cells #[.iface 151 (.pointer (some ⟨x.c, 0, none⟩))] 104)) w4 := Moves.of_turn (Turn.of_grown (T := fun k => u4.ownBlock = some k) hgrow4 (fun g hg => hg)) (fun k _ hk => .inr (by
            obtain ⟨-, cur, h9⟩ := hTY k hk
            exact ⟨cur, _, _, h9, by simp⟩))
          have hM := hM1.trans hM2
          have hOLD : ∀ k, k < w.heap.size → w4.heap[k]? = wr.heap[k]? := fun k hk => (hgrow4.block k (by simp; omega) (fun hc => by have := (hTY k hc.symm).1; omega)).trans (heap_alloc_old wr _ (by omega))
          have HF : Hid ((w4.heap[d]? = some (.cells #[.map (some M.lb), .map (some M.sb), .slice (some ⟨ga, 0, none⟩) qn qc, .int .i64 M.cap, .int .i64 M.fuse, .bool M.off, .int .i64 M.cnt] 90 (0, 0)) ∧ NMap w4 M.lb M.N M.LD ∧ w4.ownsRow B 104 1 (.slice (some ⟨ga, 0, none⟩) qn qc) qn (M.queue.map Ch.cell) ∧ (∀ x ∈ M.queue, ChAt w4 B x) ∧ Moves [M.sb] [93, 5] w w4 ∧ (∀ k, k < B → w4.heap[k]? = w.heap[k]?)) ∧ ((∃ ms', Bods w4 B ms' ∧ ms'.map Bd.tell = syncsP o (M.queue.take (k + 1)) (ms.map Bd.tell)) ∧ NMap w4 M.sb (M.N + tots (M.queue.take (k + 1))) (syncsD o (M.queue.take (k + 1)) M.SD)) ∧ w4.ownsRow w.heap.size 104 1 v4 ((M.queue.take (k + 1)).filter (fun x => !(mineC o x))).length (((M.queue.take (k + 1)).filter (fun x => !(mineC o x))).map Ch.cell)) := by
            obtain ⟨⟨h1, h2, h3, h4, h5, h6⟩, ⟨⟨ms1, h7, h8⟩, h9⟩, -⟩ := HRK.out; have e1 : M.queue.take (k + 1) = M.queue.take k ++ [x] := HTK.out; refine ⟨⟨hM.cells h1 (by decide) (by simp), hM.map h2 (by simp), ?_, fun y hy => (h4 y hy).moves hM (by simp) (by simp) (fun j hj => hOLD j (Nat.lt_of_lt_of_le hj hBw)), moves_new h5 (hgrow4.os.trans hA.os) (hgrow4.tape.trans hA.tape) (hgrow4.output.trans hA.output) (Nat.le_trans hA.size hgrow4.size) hOLD, fun j hj => (hOLD j (Nat.lt_of_lt_of_le hj hBw)).trans (h6 j hj)⟩, ⟨⟨ms1, h7.moves hM (by decide) (by decide) (by simp), ?_⟩, ?_⟩, ?_⟩
            · obtain ⟨hl, h1' | ⟨g', cap', cur', h1', hb', hg', h2'⟩⟩ := h3
              · exact ⟨hl, .inl h1'⟩
              · exact ⟨hl, .inr ⟨g', cap', cur', h1', hb', (hOLD g' (HQB.out g' (by rw [h1']; rfl))).trans hg', h2'⟩⟩
            · rw [e1, syncsP_snoc, HNM.out, h8]
              rfl
            · rw [e1, syncsD_snoc, HNM.out, tots_snoc]; exact (hM.map h9 (by simp)).mono (by omega)
            · rw [e1, List.filter_append, List.map_append]
              have e2 : [x].filter (fun x => !(mineC o x)) = [x] := by simp [HNM.out]
              rw [e2, List.length_append, hrn]
              have e3 : [x].map Ch.cell = [.iface 151 (.pointer (some ⟨x.c, 0, none⟩))] := by simp [HCELL.out]
              rw [e3]; exact hown4
          clear HRK; go_wp2; go_roundw
          case rel => exact ⟨k + 1, hlt, by go_num, HF.out.1, HF.out.2.1, HF.out.2.2⟩
          case measure => simp [intOf]; omega
    · obtain rfl : qn = k := by omega
      obtain ⟨rn, hrn⟩ : ∃ y, ((M.queue.take qn).filter (fun x => !(mineC o x))).length = y := ⟨_, rfl⟩; obtain ⟨ra, rc, hu4⟩ := own1_is HR.out.2.2; rw [hrn] at hu4; subst hu4
      have hkI : ¬ (qn : Int) < (qn : Int) := by omega
      have c2 : wr.cell? ⟨d, 2, none⟩ = some (.slice qa qn qc) := (zCr HR.out.1.1).trans rfl
      have HF : Hid (∃ ms' qv', DkAt (wr.setCell ⟨d, 2, none⟩ (.slice ra rn rc)) B d { M with N := M.N + tots M.queue, SD := syncsD o M.queue M.SD, qv := qv', queue := M.queue.filter (fun x => !(mineC o x)) } ms' ∧ ms'.map Bd.tell = syncsP o M.queue (ms.map Bd.tell) ∧ Moves [M.sb] [93, 5, 90] w (wr.setCell ⟨d, 2, none⟩ (.slice ra rn rc)) ∧ ∀ k, k < B → (wr.setCell ⟨d, 2, none⟩ (.slice ra rn rc)).heap[k]? = w.heap[k]?) := by
        obtain ⟨⟨h1, h2, h3, h4, h5, h6⟩, ⟨⟨ms1, h7, h8⟩, h9⟩, h10⟩ := HR.out; have hD := HD.out.1; have e1 : M.queue.take qn = M.queue := List.take_of_length_le (by rw [HD.out.2.1]; exact Nat.le_refl _); rw [e1] at h8 h9 h10; have hM : Moves [] [90] wr (wr.setCell ⟨d, 2, none⟩ (.slice ra rn rc)) := Moves.of_turn ((Turn.refl (fun k => k = d) wr).set (a := ⟨d, 2, none⟩) (show d = d from rfl) _) (fun k _ hk => .inr (by obtain rfl : k = d := hk; exact ⟨_, _, _, h1, by simp⟩))
        have hlow : ∀ k, k < B → (wr.setCell ⟨d, 2, none⟩ (.slice ra rn rc)).heap[k]? = wr.heap[k]? := fun k hk => heap_setCell_other wr ⟨d, 2, none⟩ k _ (by have := hD.low.2.2; show k ≠ d; omega)
        have hT : ∀ b, Has ms b → Has ms1 b := fun b hb => has_of_tell (by rw [h8, syncsP_fst]) hb
        refine ⟨ms1, .slice ra rn rc, ⟨?_, (hM.map h2 (by simp)).mono (by show M.N ≤ M.N + _; omega), hM.map h9 (by simp), hD.ne, hD.low, h7.moves hM (by decide) (by decide) (by simp), own1_moves h10 hBw hM (by decide) (by simp), ?_, ?_, hD.refL.to hT, ?_⟩, h8, ?_, fun k hk => (hlow k hk).trans (h6 k hk)⟩
        · exact (heap_setCell_same wr d 2 _ _ _ h1).trans rfl
        · exact fun y hy => (h4 y (List.mem_filter.1 hy).1).moves hM (by decide) (by simp) hlow
        · exact fun y hy => (hD.refs y (List.mem_filter.1 hy).1).to hT
        · exact ((DRef.syncs o M.queue hD.refS hD.ds.isMap hD.refs).1).to hT
        · have h5' : Moves [M.sb] [93, 5, 90] w wr := h5.wide (by simp) (by intro t ht; simp only [List.mem_cons, List.not_mem_nil, or_false] at ht; rcases ht with h | h <;> simp [h]); exact h5'.trans (hM.wide (by simp) (by intro t ht; simp only [List.mem_cons, List.not_mem_nil, or_false] at ht; simp [ht]))
      have kf : wr.frozen? ⟨d, 2, none⟩ = false := by simp [World.frozen?, HR.out.1.1]
      clear HR; go_wp2; obtain ⟨ms1, qv1, g1, g2, g3, g4⟩ := HF.out; exact bodyPost_end (results_none rfl _ _ _) rfl ⟨rfl, ms1, ⟨qv1, g1⟩, g2, g3, g4⟩
theorem cutKept_any (m : Bd) (c ln p ch : Nat) (mp : Value) (B : Nat) (w : World) (hm : BdAt w B m) (hc : w.heap[c]? = some (.cells #[.pointer (some ⟨m.b, 0, none⟩), .int .i64 (ln : Int)] 160 (0, 0))) (hch : ch < 256) :
    Calls Tryz.prog 137 #[.pointer (some ⟨c, 0, none⟩), mp, .int .i64 (p : Int), .int .u8 (ch : Int)] w fun e w' => e = .returned (.tuple #[]) ∧ ∃ sv', BdAt w' B { m with sv := sv', S := if ch % 2 = 1 then m.S.take ln else m.S } ∧ Turn (fun k => k = m.b) w w' ∧ ∀ g, rowBlk sv' = some g → rowBlk m.sv = some g := by
  have HC : Hid (Calls _ _ _ _ _) := cutSync_any m c ln mp B w hm hc
  have v1 : IntKind.u8.wrap (Int.tmod (ch : Int) 2) = ((ch % 2 : Nat) : Int) := by
    rw [show Int.tmod (ch : Int) 2 = ((ch % 2 : Nat) : Int) from rfl]; exact IntWalk.u8_in _ (by omega)
  obtain ⟨r, hr⟩ : ∃ r, ch % 2 = r := ⟨_, rfl⟩; rw [hr] at v1 ⊢; have HM : Hid (BdAt w B m) := hm; clear hm hc
  have hr2 : r < 2 := by omega
  by_cases h1 : r = 1
  · subst h1
    go_enter Tryz.func137, Tryz.ntmps137
    go_wp2_with fail; refine HC.out.mono ?_; rintro e w1 ⟨rfl, sv', g1, g2, g3⟩; have HF : Hid (∃ sv', BdAt w1 B { m with sv := sv', S := m.S.take ln } ∧ Turn (fun k => k = m.b) w w1 ∧ ∀ g, rowBlk sv' = some g → rowBlk m.sv = some g) := ⟨sv', g1, g2, g3⟩; clear HC g1 g2 g3; go_wp2; exact bodyPost_end (results_none rfl _ _ _) rfl ⟨rfl, HF.out⟩
  · obtain rfl : r = 0 := by omega
    go_enter Tryz.func137, Tryz.ntmps137
    clear HC; go_wp2; exact bodyPost_end (results_none rfl _ _ _) rfl ⟨rfl, m.sv, HM.out, Turn.refl _ _, fun _ h => h⟩
theorem namesKept_any (c : Nat) (oa : Option Addr) (cp p ch : Nat) (bs : List (ByteArray × Option Nat)) (mb N : Nat) (D : DataW Unit) (w : World) (hc : w.heap[c]? = some (.cells #[.slice oa bs.length cp] 153 (0, 0))) (h : BnS w oa bs) (hm : NMap w mb N D) (hn : N + bs.length ≤ 1000000) (hch : ch < 256) :
    Calls Tryz.prog 129 #[.pointer (some ⟨c, 0, none⟩), .map (some mb), .int .i64 (p : Int), .int .u8 (ch : Int)] w fun e w' => e = .returned (.tuple #[]) ∧ NMap w' mb (N + bs.length) (if ch % 2 = 1 then bindD D bs else D) ∧ w.grownBy w' (some mb) := by
  have HC : Hid (Calls _ _ _ _ _) := namesSync_any c oa cp bs mb N D w hc h hm hn
  have v1 : IntKind.u8.wrap (Int.tmod (ch : Int) 2) = ((ch % 2 : Nat) : Int) := by
    rw [show Int.tmod (ch : Int) 2 = ((ch % 2 : Nat) : Int) from rfl]; exact IntWalk.u8_in _ (by omega)
  obtain ⟨r, hr⟩ : ∃ r, ch % 2 = r := ⟨_, rfl⟩; rw [hr] at v1 ⊢; have HM : Hid (NMap w mb N D) := hm; clear hm hc h hn
  have hr2 : r < 2 := by omega
  by_cases h1 : r = 1
  · subst h1
    go_enter Tryz.func129, Tryz.ntmps129
    go_wp2_with fail; refine HC.out.mono ?_; rintro e w1 ⟨rfl, g1, g2⟩; have HF : Hid (NMap w1 mb (N + bs.length) (bindD D bs) ∧ w.grownBy w1 (some mb)) := ⟨g1, g2⟩; clear HC g1 g2; go_wp2; exact bodyPost_end (results_none rfl _ _ _) rfl ⟨rfl, HF.out.1, HF.out.2⟩
  · obtain rfl : r = 0 := by omega
    go_enter Tryz.func129, Tryz.ntmps129
    clear HC; go_wp2; exact bodyPost_end (results_none rfl _ _ _) rfl ⟨rfl, HM.out.mono (by omega), grownBy_refl _ _⟩
theorem wkept_le {S D : List Nat} {at_ p ch : Nat} (hS : S.length ≤ 65536) (h1 : 1 ≤ D.length) (h3 : at_ + D.length ≤ 65536) (hp : p < npc at_ D.length) : (wkept S at_ D p ch).length ≤ 65536 := by
  obtain ⟨h4, h5, h6, -⟩ := pc_lt h1 hp
  have key : ∀ tt, tt ≤ pcTo at_ D.length p → (if pcFrom at_ p < tt then ov S (pcFrom at_ p) ((D.drop (pcFrom at_ p - at_)).take (tt - pcFrom at_ p)) else S).length ≤ 65536 := fun tt ht => by
    split
    · refine ov_le hS ?_; rw [List.length_take]
      omega
    · exact hS
  refine key _ ?_
  split
  · exact Nat.le_refl _
  · have := Nat.mod_lt ch (show pcTo at_ D.length p - pcFrom at_ p > 0 by omega)
    omega
def keptP (x : Ch) (p ch : Nat) (P : Pb) : Pb := if x.kind = 1 then onB x.b (fun S => wkept S x.at_ x.D p ch) P else if x.kind = 2 then onB x.b (fun S => if ch % 2 = 1 then S.take x.at_ else S) P else P
def keptD (x : Ch) (ch : Nat) (D : DataW Unit) : DataW Unit := if x.kind = 3 then (if ch % 2 = 1 then bindD D x.bs else D) else D
def npcs (x : Ch) : Nat := if x.kind = 1 then npc x.at_ x.D.length else 1
def keptF (x : Ch) : Nat := if x.kind = 1 then 133 else if x.kind = 2 then 137 else 129
theorem kept_any (x : Ch) (p ch B sb N : Nat) (D : DataW Unit) (ms : List Bd) (w : World) (hB : B ≤ w.heap.size) (hx : ChAt w B x) (hr : ChRef ms x) (hb : Bods w B ms) (hm : NMap w sb N D) (hsb : B ≤ sb) (hn : N + x.bs.length ≤ 1000000) (hch : ch < 256) (hp : p < npcs x) :
    Calls Tryz.prog (keptF x) #[.pointer (some ⟨x.c, 0, none⟩), .map (some sb), .int .i64 (p : Int), .int .u8 (ch : Int)] w fun e w' => e = .returned (.tuple #[]) ∧ SyncOut w w' B sb (N + x.bs.length) (keptD x ch D) (keptP x p ch (ms.map Bd.tell)) := by
  rcases hx with ⟨hkd, hc, hs, g1, g2, g3, g4⟩ | ⟨hkd, hc⟩ | ⟨hkd, hc, hbn⟩
  · obtain ⟨m, hm1, hmb⟩ := (hr.1 (by omega)).get; have hmX := hb.each m hm1; rw [show keptF x = 133 from by simp [keptF, hkd], show keptD x ch D = D from by simp [keptD, hkd], show keptP x p ch (ms.map Bd.tell) = onB m.b (fun S => wkept S x.at_ x.D p ch) (ms.map Bd.tell) from by simp [keptP, hkd, hmb]]; rw [show npcs x = npc x.at_ x.D.length from by simp [npcs, hkd]] at hp; refine (writeKept_any m x.c x.at_ x.D.length x.dc p ch x.da x.D _ B w hmX.1 (by rw [hmb]; exact hc) hs g2 (fun b off hb1 hc1 => ?_) ⟨by omega, by omega⟩ hB g1 hp hch).mono ?_
    · have := g4 b off hb1; have := (hmX.1.syn.base hc1).1
      omega
    rintro e w' ⟨rfl, sv', a1, a2, a3⟩; exact ⟨rfl, sync_of_turn hb hm1 (hm.mono (by omega)) a2 a1 rfl rfl rfl rfl a3 (wkept_le hmX.2.2 g1 g3 hp)⟩
  · obtain ⟨m, hm1, hmb⟩ := (hr.1 (by omega)).get; have hmX := hb.each m hm1; rw [show keptF x = 137 from by simp [keptF, hkd], show keptD x ch D = D from by simp [keptD, hkd], show keptP x p ch (ms.map Bd.tell) = onB m.b (fun S => if ch % 2 = 1 then S.take x.at_ else S) (ms.map Bd.tell) from by simp [keptP, hkd, hmb]]; refine (cutKept_any m x.c x.at_ p ch _ B w hmX.1 (by rw [hmb]; exact hc) hch).mono ?_; rintro e w' ⟨rfl, sv', a1, a2, a3⟩; refine ⟨rfl, sync_of_turn hb hm1 (hm.mono (by omega)) ⟨a2.os, a2.tape, a2.output, a2.size, fun i hi hc => a2.block i hi (fun h => hc (.inl h))⟩ a1 rfl rfl rfl rfl (fun g hg => .inl (a3 g hg)) ?_⟩; have := hmX.2.2
    show (if ch % 2 = 1 then m.S.take x.at_ else m.S).length ≤ 65536
    split
    · simp only [List.length_take]; omega
    · exact this
  · rw [show keptF x = 129 from by simp [keptF, hkd], show keptD x ch D = (if ch % 2 = 1 then bindD D x.bs else D) from by simp [keptD, hkd], show keptP x p ch (ms.map Bd.tell) = ms.map Bd.tell from by simp [keptP, hkd]]; refine (namesKept_any x.c x.da x.dc p ch x.bs sb N D w hc hbn hm hn hch).mono ?_; rintro e w' ⟨rfl, a1, a2⟩; exact ⟨rfl, sync_names hb hm hsb a1 a2⟩
def onL (b : Nat) (f : List Nat → List Nat) (P : Pb) : Pb := P.map (fun y => if y.1 = b then (y.1, f y.2.1, y.2.2) else y)
theorem putB_tellL {ms : List Bd} {m m' : Bd} {f : List Nat → List Nat} (h1 : m'.b = m.b) (hL : m'.L = f m.L) (hS : m'.S = m.S) (hu : ∀ x ∈ ms, x.b = m.b → x = m) : (putB m' ms).map Bd.tell = onL m.b f (ms.map Bd.tell) := by
  rw [putB, onL, List.map_map, List.map_map]; refine List.map_congr_left (fun x hx => ?_)
  show Bd.tell (if x.b = m'.b then m' else x) = if x.b = m.b then (x.b, f x.L, x.S) else (x.b, x.L, x.S)
  rw [h1]
  split
  · rename_i h
    obtain rfl := hu x hx h
    simp [Bd.tell, h1, hL, hS]
  · rfl
theorem onL_same {ms : List Bd} {m : Bd} {f : List Nat → List Nat} (hu : ∀ x ∈ ms, x.b = m.b → x = m) (hf : f m.L = m.L) : onL m.b f (ms.map Bd.tell) = ms.map Bd.tell := by
  rw [onL, List.map_map]; refine List.map_congr_left (fun x hx => ?_)
  show (if x.b = m.b then (x.b, f x.L, x.S) else (x.b, x.L, x.S)) = (x.b, x.L, x.S)
  split
  · rename_i h
    obtain rfl := hu x hx h; rw [hf]
  · rfl
theorem onL_fst (b : Nat) (f : List Nat → List Nat) (P : Pb) : (onL b f P).map (·.1) = P.map (·.1) := by
  rw [onL, List.map_map]; refine List.map_congr_left (fun y _ => ?_)
  show (if y.1 = b then (y.1, f y.2.1, y.2.2) else y).1 = y.1
  split <;> rfl
theorem DkAt.sizeB {w : World} {B d : Nat} {M : Dk} {ms : List Bd} (h : DkAt w B d M ms) : B ≤ w.heap.size := Nat.le_trans h.low.2.2 (Nat.le_of_lt (Array.getElem?_eq_some_iff.1 h.box).1)
def StepOut (w w' : World) (B d : Nat) (M : Dk) (N : Nat) (LD : DataW Unit) (P : Pb) (alt : List Ch → Prop) : Prop :=
  ∃ ms' qv' q', DkAt w' B d { M with qv := qv', queue := M.queue ++ q', LD := LD, N := N } ms' ∧ ms'.map Bd.tell = P ∧ alt q' ∧ Moves [M.lb] [93, 5, 104, 90] w w' ∧ ∀ k, k < B → w'.heap[k]? = w.heap[k]?
theorem DkAt.bods1 {w w1 : World} {B d : Nat} {M : Dk} {ms ms1 : List Bd} (h : DkAt w B d M ms) (hb : Bods w1 B ms1) (hT : (ms1.map Bd.tell).map (·.1) = (ms.map Bd.tell).map (·.1)) (hM : Moves [] [93, 5] w w1) (hlow : ∀ k, k < B → w1.heap[k]? = w.heap[k]?) : DkAt w1 B d M ms1 :=
  have hH : ∀ b, Has ms b → Has ms1 b := fun b hb => has_of_tell hT hb
  ⟨hM.cells h.box (by decide) (by simp), hM.map h.dl (by simp), hM.map h.ds (by simp), h.ne, h.low, hb, own1_moves h.q (Nat.le_refl _) hM (by decide) (by simp), fun x hx => (h.chs x hx).moves hM (by decide) (by simp) hlow, fun x hx => (h.refs x hx).to hH, h.refL.to hH, h.refS.to hH⟩
theorem DkAt.push {W1 X w4 : World} {B d : Nat} {M : Dk} {ms : List Bd} (x : Ch) {v4 : Value} (h : DkAt W1 B d M ms) (hX : W1.grownBy X none) (hown : w4.ownsRow B 104 1 v4 (M.queue.length + 1) (M.queue.map Ch.cell ++ [x.cell])) (hg : X.grownBy w4 M.qv.ownBlock) (hx : ChAt X B x) (hr : ChRef ms x) :
    w4.heap[d]? = some M.box ∧ DkAt (w4.setCell ⟨d, 2, none⟩ v4) B d { M with qv := v4, queue := M.queue ++ [x] } ms ∧ Moves [] [104, 90] W1 (w4.setCell ⟨d, 2, none⟩ v4) ∧ ∀ k, k < B → (w4.setCell ⟨d, 2, none⟩ v4).heap[k]? = W1.heap[k]? := by
  have hB := h.sizeB; have hqX := own1_grown h.q hX; have m1 : Moves [] [104] W1 X := Moves.of_grown0 hX
  have m2 : Moves [] [104] X w4 := Moves.of_turn (Turn.of_grown (T := fun k => M.qv.ownBlock = some k) hg (fun g hg => hg)) (fun k _ hk => .inr (by
    rcases hqX.2 with ⟨h1, -⟩ | ⟨g', cap, cur, h1, -, h2, -⟩
    · rw [h1] at hk; cases hk
    · rw [h1] at hk; cases hk
      exact ⟨cur, _, _, h2, by simp⟩))
  have box4 := (m1.trans m2).cells h.box (by decide) (by simp); have m3 : Moves [] [90] w4 (w4.setCell ⟨d, 2, none⟩ v4) := Moves.of_turn ((Turn.refl (fun k => k = d) w4).set (a := ⟨d, 2, none⟩) (show d = d from rfl) _) (fun k _ hk => .inr (by obtain rfl : k = d := hk; exact ⟨_, _, _, box4, by simp⟩)); have w3 : Moves [] [104, 90] w4 (w4.setCell ⟨d, 2, none⟩ v4) := m3.wide (by simp) (by simp); have w2 : Moves [] [104, 90] X w4 := m2.wide (by simp) (by simp); have w1 : Moves [] [104, 90] W1 X := m1.wide (by simp) (by simp); have hMX := w2.trans w3; have hM := w1.trans hMX
  have hlowX : ∀ k, k < B → (w4.setCell ⟨d, 2, none⟩ v4).heap[k]? = X.heap[k]? := fun k hk => by
    have h9 := h.low.2.2; refine (heap_setCell_other w4 ⟨d, 2, none⟩ k _ (by show k ≠ d; omega)).trans (hg.block k (Nat.lt_of_lt_of_le hk (Nat.le_trans hB hX.size)) (fun hc => ?_)); have := own1_base hqX hc.symm
    omega
  have hlow : ∀ k, k < B → (w4.setCell ⟨d, 2, none⟩ v4).heap[k]? = W1.heap[k]? := fun k hk => (hlowX k hk).trans (hX.block k (Nat.lt_of_lt_of_le hk hB) (by simp))
  refine ⟨box4, ⟨?_, hM.map h.dl (by simp), hM.map h.ds (by simp), h.ne, h.low, h.bods.moves hM (by decide) (by decide) (by simp), ?_, ?_, ?_, h.refL, h.refS⟩, hM, hlow⟩
  · exact (heap_setCell_same w4 d 2 _ _ _ box4).trans rfl
  · have h8 := own1_moves hown (Nat.le_refl _) m3 (by decide) (by simp)
    show (w4.setCell ⟨d, 2, none⟩ v4).ownsRow B 104 1 v4 (M.queue ++ [x]).length ((M.queue ++ [x]).map Ch.cell)
    rw [List.length_append, List.map_append]; exact h8
  · intro y hy
    rcases List.mem_append.1 hy with h9 | h9
    · exact (h.chs y h9).moves hM (by decide) (by simp) hlow
    · obtain rfl : y = x := by simpa using h9
      exact hx.moves hMX (by decide) (by simp) hlowX
  · intro y hy
    rcases List.mem_append.1 hy with h9 | h9
    · exact h.refs y h9
    · obtain rfl : y = x := by simpa using h9
      exact hr
set_option maxRecDepth 20000 in
set_option maxHeartbeats 4000000 in
theorem cut_any (d : Nat) (M : Dk) (ms : List Bd) (B : Nat) (m : Bd) (ln : Nat) (w : World) (h : DkAt w B d M ms) (hm : m ∈ ms) (hl : ln ≤ m.L.length) (hq : M.queue.length ≤ 100000) :
    Calls Tryz.prog 68 #[.pointer (some ⟨d, 0, none⟩), .pointer (some ⟨m.b, 0, none⟩), .int .i64 (ln : Int)] w fun e w' => e = .returned (.tuple #[]) ∧ StepOut w w' B d M M.N M.LD (onL m.b (fun L => L.take ln) (ms.map Bd.tell)) (fun q' => ((q' = [] ∧ ln = m.L.length) ∨ ∃ x : Ch, q' = [x] ∧ x.kind = 2 ∧ x.b = m.b ∧ x.at_ = ln ∧ x.bs = [] ∧ ln < m.L.length)) := by
  have hma := (h.bods.each m hm).1; obtain ⟨la, lc, hlv, hcp⟩ := hma.live.is; obtain ⟨lnn, hlnn⟩ : ∃ x, m.L.length = x := ⟨_, rfl⟩; rw [hlnn] at hlv hcp; have hlb := (h.bods.each m hm).2.1; rw [hlnn] at hlb
  have hbx : w.heap[m.b]? = some (.cells #[.slice la lnn lc, m.sv, .int .i64 m.k] 93 (0, 0)) := by rw [hma.box, Bd.blk, hlv]
  have c0 : w.cell? ⟨m.b, 0, none⟩ = some (.slice la lnn lc) := (zCr hbx).trans rfl
  have kf : w.frozen? ⟨m.b, 0, none⟩ = false := by simp [World.frozen?, hbx]
  obtain ⟨qn, hqn⟩ : ∃ x, M.queue.length = x := ⟨_, rfl⟩; obtain ⟨qa, qc, hqv⟩ := own1_is h.q; rw [hqn] at hqv; have HQV : Hid (M.qv = .slice qa qn qc ∧ M.queue.length = qn) := ⟨hqv, hqn⟩; rw [hqn] at hq
  have HS : Hid (∀ x ∈ ms, x.b = m.b → x = m) := fun x hx hb => h.bods.same hx hm hb
  have HD : Hid (DkAt w B d M ms ∧ m ∈ ms ∧ m.lv = .slice la lnn lc ∧ m.L.length = lnn ∧ w.heap[m.b]? = some (.cells #[.slice la lnn lc, m.sv, .int .i64 m.k] 93 (0, 0))) := ⟨h, hm, hlv, hlnn, hbx⟩; rw [hlnn] at hl
  rcases Nat.lt_or_ge ln lnn with hlt | hge
  · have e1 : ¬ ((ln : Int) = (lnn : Int)) := by omega
    have e2 : ¬ (ln = lnn) := by omega
    have e3 : (ln : Int) ≤ (lc : Int) := by omega
    obtain ⟨ms1, HK, HK1, HT, HM⟩ : ∃ ms1, Hid (DkAt (w.setCell ⟨m.b, 0, none⟩ (.slice la ln lc)) B d M ms1) ∧ Hid (Has ms1 m.b) ∧ Hid (ms1.map Bd.tell = onL m.b (fun L => L.take ln) (ms.map Bd.tell)) ∧ Hid (Moves [] [93, 5] w (w.setCell ⟨m.b, 0, none⟩ (.slice la ln lc)) ∧ ∀ k, k < B → (w.setCell ⟨m.b, 0, none⟩ (.slice la ln lc)).heap[k]? = w.heap[k]?) := by
      have hct : BRow w B (.slice la ln lc) (m.L.take ln) ∧ ∀ g, rowBlk (.slice la ln lc) = some g → rowBlk m.lv = some g := by
        have h9 := hma.live; rw [hlv] at h9 ⊢; exact h9.cut ln hl
      have hT : Turn (fun k => k = m.b) w (w.setCell ⟨m.b, 0, none⟩ (.slice la ln lc)) := (Turn.refl (fun k => k = m.b) w).set (a := ⟨m.b, 0, none⟩) (show m.b = m.b from rfl) _; have hm' : BdAt (w.setCell ⟨m.b, 0, none⟩ (.slice la ln lc)) B { m with lv := .slice la ln lc, L := m.L.take ln } := ⟨(heap_setCell_same w m.b 0 _ _ _ hbx).trans rfl, hct.1.turn hT (fun g hg hc => by subst hc; exact hct.1.ne hbx (by decide) hg), hma.syn.turn hT (fun g hg hc => by subst hc; exact hma.syn.ne hbx (by decide) hg), fun g hg hc => hma.apart g (hct.2 g hg) hc⟩; have hb1 := h.bods.put hm (m' := { m with lv := .slice la ln lc, L := m.L.take ln }) rfl ⟨hT.os, hT.tape, hT.output, hT.size, fun k hk hc => hT.block k hk (fun hc' => hc (.inl hc'))⟩ hm' (fun g hg => .inl (hg.imp (hct.2 g) id)) ⟨by simp only [List.length_take]; omega, (h.bods.each m hm).2.2⟩; have hte := putB_tellL (m := m) (m' := { m with lv := .slice la ln lc, L := m.L.take ln }) (f := fun L => L.take ln) rfl rfl rfl HS.out
      have hfst : ((putB { m with lv := .slice la ln lc, L := m.L.take ln } ms).map Bd.tell).map (·.1) = (ms.map Bd.tell).map (·.1) := by rw [hte, onL_fst]
      have hM : Moves [] [93, 5] w (w.setCell ⟨m.b, 0, none⟩ (.slice la ln lc)) := Moves.of_turn hT (fun k _ hk => .inr (by obtain rfl : k = m.b := hk; exact ⟨_, _, _, hbx, by simp⟩))
      have hlow : ∀ k, k < B → (w.setCell ⟨m.b, 0, none⟩ (.slice la ln lc)).heap[k]? = w.heap[k]? := fun k hk => heap_setCell_other w ⟨m.b, 0, none⟩ k _ (by have := h.bods.low m hm; show k ≠ m.b; omega)
      exact ⟨_, h.bods1 hb1 hfst hM hlow, has_of_tell hfst (List.mem_map_of_mem hm), hte, hM, hlow⟩
    have k2 : (w.setCell ⟨m.b, 0, none⟩ (.slice la ln lc)).cell? ⟨d, 2, none⟩ = some (.slice qa qn qc) := by
      have h8 := HK.out.box; rw [Dk.box, HQV.out.1] at h8; exact (zCr h8).trans rfl
    clear h hm hma hlv hlnn hbx hqn hqv HS
    go_enter Tryz.func68, Tryz.ntmps68
    obtain ⟨i0, hi, hz0, hz1, hz2'⟩ := info_parts Tryz.infoChg
    have HQ : Hid ((w.setCell ⟨m.b, 0, none⟩ (.slice la ln lc)).ownsRow B 104 1 (.slice qa qn qc) qn (M.queue.map Ch.cell) ∧ B ≤ (w.setCell ⟨m.b, 0, none⟩ (.slice la ln lc)).heap.size) := by
      refine ⟨?_, HK.out.sizeB⟩; have h9 := HK.out.q; rw [HQV.out.1, HQV.out.2] at h9; exact h9
    have HSZ : Hid ((w.setCell ⟨m.b, 0, none⟩ (.slice la ln lc)).heap.size = w.heap.size ∧ ((w.setCell ⟨m.b, 0, none⟩ (.slice la ln lc)).alloc (.cells #[.pointer (some ⟨m.b, 0, none⟩), .int .i64 (ln : Int)] 160)).heap.size = w.heap.size + 1) := ⟨by first | done | rfl | simp | simp [World.setCell], by first | rfl | simp | simp [World.setCell]⟩
    go_wp2_with (at_builtin; refine wpList_append_own _ rfl _ _ 88 rfl B 104 i0 .nilIface 1 16 Tryz.underlying88 hi hz0 hz1 hz2' rfl (by decide) (.slice qa qn qc) qn (M.queue.map Ch.cell) rfl (by exact own1_grown (own1_grown HQ.out.1 (World.grownBy_alloc _ _ _)) (World.grownBy_alloc _ _ _)) ⟨w.heap.size + 1, 0, none⟩ 1 1 [.iface 158 (.pointer (some ⟨w.heap.size, 0, none⟩))] rfl rfl ?e1c ?e2c ?e3c ?e4c ?e5c ?_)
    case e1c =>
      intro j u hj
      have hX : (((w.setCell ⟨m.b, 0, none⟩ (.slice la ln lc)).alloc (.cells #[.pointer (some ⟨m.b, 0, none⟩), .int .i64 (ln : Int)] 160)).alloc (.cells #[.iface 158 (.pointer (some ⟨w.heap.size, 0, none⟩))] 104)).heap[w.heap.size + 1]? = some (.cells #[.iface 158 (.pointer (some ⟨w.heap.size, 0, none⟩))] 104 (0, 0)) := by
        rw [← HSZ.out.2]; exact heap_alloc_new ((w.setCell ⟨m.b, 0, none⟩ (.slice la ln lc)).alloc (.cells #[.pointer (some ⟨m.b, 0, none⟩), .int .i64 (ln : Int)] 160)) _
      match j, hj with
      | 0, hj => simp at hj; subst hj; exact (zCr hX).trans rfl
    case e2c => first | rfl | (intro u hu; simp at hu; subst hu; rfl)
    case e3c => first | omega | (unfold maxLen; omega)
    case e4c => first | omega | (have := HQ.out.2; simp; omega)
    case e5c => have h8 := HQ.out.2; rw [HSZ.out.1] at h8; simp; omega
    intro v4 w4 hown4 hgrow4 _
    have HP : Hid (w4.heap[d]? = some (.cells #[.map (some M.lb), .map (some M.sb), .slice qa qn qc, .int .i64 M.cap, .int .i64 M.fuse, .bool M.off, .int .i64 M.cnt] 90 (0, 0)) ∧ ∃ x : Ch, x.cell = .iface 158 (.pointer (some ⟨w.heap.size, 0, none⟩)) ∧ (x.kind = 2 ∧ x.b = m.b ∧ x.at_ = ln ∧ x.bs = []) ∧ DkAt (w4.setCell ⟨d, 2, none⟩ v4) B d { M with qv := v4, queue := M.queue ++ [x] } ms1 ∧ Moves [] [104, 90] (w.setCell ⟨m.b, 0, none⟩ (.slice la ln lc)) (w4.setCell ⟨d, 2, none⟩ v4) ∧ ∀ k, k < B → (w4.setCell ⟨d, 2, none⟩ v4).heap[k]? = (w.setCell ⟨m.b, 0, none⟩ (.slice la ln lc)).heap[k]?) := by
      have hgA : (w.setCell ⟨m.b, 0, none⟩ (.slice la ln lc)).grownBy (((w.setCell ⟨m.b, 0, none⟩ (.slice la ln lc)).alloc (.cells #[.pointer (some ⟨m.b, 0, none⟩), .int .i64 (ln : Int)] 160)).alloc (.cells #[.iface 158 (.pointer (some ⟨w.heap.size, 0, none⟩))] 104)) none := grown_step (World.grownBy_alloc _ _ none) (World.grownBy_alloc _ _ none) (by simp)
      have hnb : (((w.setCell ⟨m.b, 0, none⟩ (.slice la ln lc)).alloc (.cells #[.pointer (some ⟨m.b, 0, none⟩), .int .i64 (ln : Int)] 160)).alloc (.cells #[.iface 158 (.pointer (some ⟨w.heap.size, 0, none⟩))] 104)).heap[w.heap.size]? = some (.cells #[.pointer (some ⟨m.b, 0, none⟩), .int .i64 (ln : Int)] 160 (0, 0)) := by
        rw [← HSZ.out.1]; exact (heap_alloc_old ((w.setCell ⟨m.b, 0, none⟩ (.slice la ln lc)).alloc (.cells #[.pointer (some ⟨m.b, 0, none⟩), .int .i64 (ln : Int)] 160)) _ (by simp)).trans (heap_alloc_new (w.setCell ⟨m.b, 0, none⟩ (.slice la ln lc)) _)
      have h9 := HK.out.push ((⟨2, w.heap.size, m.b, ln, [], none, 0, []⟩ : Ch)) hgA (v4 := v4) (by
        rw [HQV.out.2]
        exact hown4) (by rw [HQV.out.1]; exact hgrow4) (.inr (.inl ⟨rfl, hnb⟩)) (⟨fun _ => HK1.out, fun h3 => by cases h3⟩)
      refine ⟨?_, (⟨2, w.heap.size, m.b, ln, [], none, 0, []⟩ : Ch), rfl, ⟨rfl, rfl, rfl, rfl⟩, h9.2⟩; have h8 := h9.1; rw [Dk.box, HQV.out.1] at h8; exact h8
    obtain ⟨ra, rc, hv4⟩ := own1_is hown4; subst hv4; clear hown4 hgrow4; have kq : w4.cell? ⟨d, 2, none⟩ = some (.slice qa qn qc) := (zCr HP.out.1).trans rfl
    have kfq : w4.frozen? ⟨d, 2, none⟩ = false := by simp [World.frozen?, HP.out.1]
    go_wp2; refine bodyPost_end (results_none rfl _ _ _) rfl ⟨rfl, ?_⟩; obtain ⟨x, -, ⟨x1, x2, x3, x4⟩, g1, g2, g3⟩ := HP.out.2; refine ⟨ms1, _, [x], g1, HT.out, .inr ⟨x, rfl, x1, x2, x3, x4, by rw [HD.out.2.2.2.1]; exact hlt⟩, ?_, fun k hk => (g3 k hk).trans (HM.out.2 k hk)⟩; exact (HM.out.1.wide (by simp) (by intro t ht; simp only [List.mem_cons, List.not_mem_nil, or_false] at ht; rcases ht with h | h <;> simp [h])).trans (g2.wide (by simp) (by intro t ht; simp only [List.mem_cons, List.not_mem_nil, or_false] at ht; rcases ht with h | h <;> simp [h]))
  · obtain rfl : ln = lnn := by omega
    clear hma hlv hbx hqn hqv h hm
    go_enter Tryz.func68, Tryz.ntmps68
    go_wp2; refine bodyPost_ret (results_none rfl _ _ _) rfl ⟨rfl, ?_⟩; refine ⟨ms, M.qv, [], ?_, (onL_same HS.out ?_).symm, .inl ⟨rfl, hlnn.symm⟩, Moves.refl _ _ _, fun _ _ => rfl⟩
    · rw [List.append_nil]; exact HD.out.1
    · exact List.take_of_length_le (by omega)
set_option maxRecDepth 20000 in
set_option maxHeartbeats 4000000 in
theorem write_any (d : Nat) (M : Dk) (ms : List Bd) (B : Nat) (m : Bd) (at_ dn dc : Nat) (da : Option Addr) (D : List Nat) (w : World) (h : DkAt w B d M ms) (hm : m ∈ ms) (hs : SlB w da dn D) (hcap : dn ≤ dc) (hda : ∀ b off, da = some ⟨b, off, none⟩ → b < B) (hal : at_ ≤ m.L.length) (had : at_ + dn ≤ 65536) (hq : M.queue.length ≤ 100000) :
    Calls Tryz.prog 67 #[.pointer (some ⟨d, 0, none⟩), .pointer (some ⟨m.b, 0, none⟩), .int .i64 (at_ : Int), .slice da dn dc] w fun e w' => e = .returned (.tuple #[]) ∧ StepOut w w' B d M M.N M.LD (onL m.b (fun L => ov L at_ D) (ms.map Bd.tell)) (fun q' => ((q' = [] ∧ D = []) ∨ ∃ x : Ch, q' = [x] ∧ x.kind = 1 ∧ x.b = m.b ∧ x.at_ = at_ ∧ x.D = D ∧ x.bs = [] ∧ D ≠ [])) := by
  have hma := (h.bods.each m hm).1; obtain ⟨la, lc, hlv, hcp⟩ := hma.live.is; obtain ⟨lnn, hlnn⟩ : ∃ x, m.L.length = x := ⟨_, rfl⟩; rw [hlnn] at hlv hcp; have hlb := (h.bods.each m hm).2.1; rw [hlnn] at hlb
  have hbx : w.heap[m.b]? = some (.cells #[.slice la lnn lc, m.sv, .int .i64 m.k] 93 (0, 0)) := by rw [hma.box, Bd.blk, hlv]
  have c0 : w.cell? ⟨m.b, 0, none⟩ = some (.slice la lnn lc) := (zCr hbx).trans rfl
  have kf : w.frozen? ⟨m.b, 0, none⟩ = false := by simp [World.frozen?, hbx]
  obtain ⟨qn, hqn⟩ : ∃ x, M.queue.length = x := ⟨_, rfl⟩; obtain ⟨qa, qc, hqv⟩ := own1_is h.q; rw [hqn] at hqv; have HQV : Hid (M.qv = .slice qa qn qc ∧ M.queue.length = qn) := ⟨hqv, hqn⟩; rw [hqn] at hq
  have HS : Hid (∀ x ∈ ms, x.b = m.b → x = m) := fun x hx hb => h.bods.same hx hm hb
  have HD : Hid (DkAt w B d M ms ∧ m ∈ ms ∧ m.lv = .slice la lnn lc ∧ m.L.length = lnn ∧ w.heap[m.b]? = some (.cells #[.slice la lnn lc, m.sv, .int .i64 m.k] 93 (0, 0))) := ⟨h, hm, hlv, hlnn, hbx⟩; have HSL0 : Hid (SlB w da dn D ∧ dn ≤ dc ∧ ∀ b off, da = some ⟨b, off, none⟩ → b < B) := ⟨hs, hcap, hda⟩
  have HOV : Hid (∀ X : World, w.grownBy X none → Calls Tryz.prog 76 #[.slice la lnn lc, .int .i64 (at_ : Int), .slice da dn dc] X fun e w' => ∃ v', e = .returned v' ∧ BRow w' B v' (ov m.L at_ D) ∧ X.grownBy w' (rowBlk m.lv) ∧ ∀ g, rowBlk v' = some g → rowBlk m.lv = some g ∨ X.heap.size ≤ g) := fun X hX => by
    rw [← hlv]; exact overlay_any m.lv m.L at_ dn dc da D B X (hma.live.grown0 hX) (hs.grown0 hX) hcap (fun b off hb hc => by have := hda b off hb; have := (hma.live.base hc).1; omega) (by rw [hlnn]; omega) (Nat.le_trans h.sizeB hX.size)
  have hdl : D.length = dn := hs.1
  rcases Nat.eq_zero_or_pos dn with h0 | h0
  · subst h0; clear hma hlv hbx hqn hqv h hm hs hcap hda HOV HSL0
    go_enter Tryz.func67, Tryz.ntmps67
    go_wp2; refine bodyPost_ret (results_none rfl _ _ _) rfl ⟨rfl, ?_⟩; obtain rfl : D = [] := List.length_eq_zero_iff.1 hdl; refine ⟨ms, M.qv, [], ?_, (onL_same HS.out ?_).symm, .inl ⟨rfl, rfl⟩, Moves.refl _ _ _, fun _ _ => rfl⟩
    · rw [List.append_nil]; exact HD.out.1
    · unfold ov
      rw [show at_ - m.L.length = 0 by omega]
      simp
  · have e1 : ¬ ((dn : Int) = 0) := by omega
    have e2 : ¬ (dn = 0) := by omega
    clear hs hcap hda h hm hma hlv hlnn hbx hqn hqv
    go_enter Tryz.func67, Tryz.ntmps67
    go_wp2_with fail; refine (HOV.out w (grownBy_refl _ _)).mono ?_; rintro e w1 ⟨v1, rfl, hv1, hG, hf1⟩; obtain ⟨oa1, cap1, hv1e, -⟩ := hv1.is; obtain ⟨n1, hn1⟩ : ∃ x, (ov m.L at_ D).length = x := ⟨_, rfl⟩; rw [hn1] at hv1e; subst hv1e; have hb1 : w1.heap[m.b]? = some (.cells #[.slice la lnn lc, m.sv, .int .i64 m.k] 93 (0, 0)) := (hG.block m.b (Array.getElem?_eq_some_iff.1 HD.out.2.2.2.2).1 (fun e => (HD.out.1.bods.each m HD.out.2.1).1.live.ne HD.out.2.2.2.2 (by decide) e.symm)).trans HD.out.2.2.2.2
    obtain ⟨ms1, HK, HK1, HT, HM⟩ : ∃ ms1, Hid (DkAt (w1.setCell ⟨m.b, 0, none⟩ (.slice oa1 n1 cap1)) B d M ms1) ∧ Hid (Has ms1 m.b) ∧ Hid (ms1.map Bd.tell = onL m.b (fun L => ov L at_ D) (ms.map Bd.tell)) ∧ Hid (Moves [] [93, 5] w (w1.setCell ⟨m.b, 0, none⟩ (.slice oa1 n1 cap1)) ∧ ∀ k, k < B → (w1.setCell ⟨m.b, 0, none⟩ (.slice oa1 n1 cap1)).heap[k]? = w.heap[k]?) := by
      obtain ⟨h, hm, hlv, hlnn, hbx⟩ := HD.out; have hma := (h.bods.each m hm).1; have hT : Turn (fun k => k = m.b ∨ rowBlk m.lv = some k) w (w1.setCell ⟨m.b, 0, none⟩ (.slice oa1 n1 cap1)) := (Turn.of_grown hG (fun g hg => .inr hg)).set (.inl rfl) _
      have hm' : BdAt (w1.setCell ⟨m.b, 0, none⟩ (.slice oa1 n1 cap1)) B { m with lv := .slice oa1 n1 cap1, L := ov m.L at_ D } := ⟨(heap_setCell_same w1 m.b 0 _ _ _ hb1).trans rfl, hv1.turn (T := fun k => k = m.b) ((Turn.refl (fun k => k = m.b) w1).set (a := ⟨m.b, 0, none⟩) (show m.b = m.b from rfl) _) (fun g hg hc => by subst hc; exact hv1.ne hb1 (by decide) hg), hma.syn.turn hT (fun g hg hc => by
        rcases hc with rfl | hc
        · exact hma.syn.ne hbx (by decide) hg
        · exact hma.apart g hc hg), fun g hg hc => by
        rcases hf1 g hg with h9 | h9
        · exact hma.apart g h9 hc
        · have := (hma.syn.base hc).2.1
          omega⟩
      have hb2 := h.bods.put hm (m' := { m with lv := .slice oa1 n1 cap1, L := ov m.L at_ D }) rfl ⟨hT.os, hT.tape, hT.output, hT.size, fun k hk hc => hT.block k hk (fun hc' => hc (hc'.imp id .inl))⟩ hm' (fun g hg => by
        rcases hg with hg | hg
        · exact (hf1 g hg).imp .inl id
        · exact .inl (.inr hg)) ⟨ov_le (h.bods.each m hm).2.1 (by have := HSL0.out.1.1; omega), (h.bods.each m hm).2.2⟩
      have hte := putB_tellL (m := m) (m' := { m with lv := .slice oa1 n1 cap1, L := ov m.L at_ D }) (f := fun L => ov L at_ D) rfl rfl rfl HS.out
      have hfst : ((putB { m with lv := .slice oa1 n1 cap1, L := ov m.L at_ D } ms).map Bd.tell).map (·.1) = (ms.map Bd.tell).map (·.1) := by rw [hte, onL_fst]
      have hM : Moves [] [93, 5] w (w1.setCell ⟨m.b, 0, none⟩ (.slice oa1 n1 cap1)) := Moves.of_turn hT (fun k _ hk => .inr (by
        rcases hk with rfl | hk
        · exact ⟨_, _, _, hbx, by simp⟩
        · obtain ⟨-, -, cur, h9⟩ := hma.live.base hk
          exact ⟨cur, _, _, h9, by simp⟩))
      have hlow : ∀ k, k < B → (w1.setCell ⟨m.b, 0, none⟩ (.slice oa1 n1 cap1)).heap[k]? = w.heap[k]? := fun k hk => hT.block k (Nat.lt_of_lt_of_le hk h.sizeB) (by
        rintro (rfl | hc)
        · have := h.bods.low m hm; omega
        · have := (hma.live.base hc).1; omega)
      exact ⟨_, h.bods1 hb2 hfst hM hlow, has_of_tell hfst (List.mem_map_of_mem hm), hte, hM, hlow⟩
    have HSL : Hid (SlB (w1.setCell ⟨m.b, 0, none⟩ (.slice oa1 n1 cap1)) da dn D ∧ dn ≤ dc ∧ ∀ b off, da = some ⟨b, off, none⟩ → b < B) := by
      obtain ⟨hs, g2, g3⟩ := HSL0.out; refine ⟨⟨hs.1, hs.2.1, fun h0 => ?_⟩, g2, g3⟩; obtain ⟨b, off, hda, hcs⟩ := hs.2.2 h0; exact ⟨b, off, hda, fun i hi => (World.cell?_of_block (w := w) (a := ⟨b, off + i, none⟩) (HM.out.2 b (g3 b off hda))).trans (hcs i hi)⟩
    have k1 : w1.cell? ⟨m.b, 0, none⟩ = some (.slice la lnn lc) := (zCr hb1).trans rfl
    have kf1 : w1.frozen? ⟨m.b, 0, none⟩ = false := by simp [World.frozen?, hb1]
    have k2 : (w1.setCell ⟨m.b, 0, none⟩ (.slice oa1 n1 cap1)).cell? ⟨d, 2, none⟩ = some (.slice qa qn qc) := by
      have h8 := HK.out.box; rw [Dk.box, HQV.out.1] at h8; exact (zCr h8).trans rfl
    clear hv1 hG hf1 hb1 HOV HSL0 HS c0 kf hn1; obtain ⟨i0, hi, hz0, hz1, hz2'⟩ := info_parts Tryz.infoChg
    have HQ : Hid ((w1.setCell ⟨m.b, 0, none⟩ (.slice oa1 n1 cap1)).ownsRow B 104 1 (.slice qa qn qc) qn (M.queue.map Ch.cell) ∧ B ≤ (w1.setCell ⟨m.b, 0, none⟩ (.slice oa1 n1 cap1)).heap.size) := by
      refine ⟨?_, HK.out.sizeB⟩; have h9 := HK.out.q; rw [HQV.out.1, HQV.out.2] at h9; exact h9
    have HSZ : Hid ((w1.setCell ⟨m.b, 0, none⟩ (.slice oa1 n1 cap1)).heap.size = w1.heap.size ∧ ((w1.setCell ⟨m.b, 0, none⟩ (.slice oa1 n1 cap1)).alloc (.cells #[.pointer (some ⟨m.b, 0, none⟩), .int .i64 (at_ : Int), .slice da dn dc] 157)).heap.size = w1.heap.size + 1) := ⟨by first | done | rfl | simp | simp [World.setCell], by first | rfl | simp | simp [World.setCell]⟩
    go_wp2_with (at_builtin; refine wpList_append_own _ rfl _ _ 88 rfl B 104 i0 .nilIface 1 16 Tryz.underlying88 hi hz0 hz1 hz2' rfl (by decide) (.slice qa qn qc) qn (M.queue.map Ch.cell) rfl (by exact own1_grown (own1_grown HQ.out.1 (World.grownBy_alloc _ _ _)) (World.grownBy_alloc _ _ _)) ⟨w1.heap.size + 1, 0, none⟩ 1 1 [.iface 155 (.pointer (some ⟨w1.heap.size, 0, none⟩))] rfl rfl ?e1w ?e2w ?e3w ?e4w ?e5w ?_)
    case e1w =>
      intro j u hj
      have hX : (((w1.setCell ⟨m.b, 0, none⟩ (.slice oa1 n1 cap1)).alloc (.cells #[.pointer (some ⟨m.b, 0, none⟩), .int .i64 (at_ : Int), .slice da dn dc] 157)).alloc (.cells #[.iface 155 (.pointer (some ⟨w1.heap.size, 0, none⟩))] 104)).heap[w1.heap.size + 1]? = some (.cells #[.iface 155 (.pointer (some ⟨w1.heap.size, 0, none⟩))] 104 (0, 0)) := by
        rw [← HSZ.out.2]; exact heap_alloc_new ((w1.setCell ⟨m.b, 0, none⟩ (.slice oa1 n1 cap1)).alloc (.cells #[.pointer (some ⟨m.b, 0, none⟩), .int .i64 (at_ : Int), .slice da dn dc] 157)) _
      match j, hj with
      | 0, hj => simp at hj; subst hj; exact (zCr hX).trans rfl
    case e2w => first | rfl | (intro u hu; simp at hu; subst hu; rfl)
    case e3w => first | omega | (unfold maxLen; omega)
    case e4w => first | omega | (have := HQ.out.2; simp; omega)
    case e5w => have h8 := HQ.out.2; rw [HSZ.out.1] at h8; simp; omega
    intro v4 w4 hown4 hgrow4 _
    have HP : Hid (w4.heap[d]? = some (.cells #[.map (some M.lb), .map (some M.sb), .slice qa qn qc, .int .i64 M.cap, .int .i64 M.fuse, .bool M.off, .int .i64 M.cnt] 90 (0, 0)) ∧ ∃ x : Ch, x.cell = .iface 155 (.pointer (some ⟨w1.heap.size, 0, none⟩)) ∧ (x.kind = 1 ∧ x.b = m.b ∧ x.at_ = at_ ∧ x.D = D ∧ x.bs = []) ∧ DkAt (w4.setCell ⟨d, 2, none⟩ v4) B d { M with qv := v4, queue := M.queue ++ [x] } ms1 ∧ Moves [] [104, 90] (w1.setCell ⟨m.b, 0, none⟩ (.slice oa1 n1 cap1)) (w4.setCell ⟨d, 2, none⟩ v4) ∧ ∀ k, k < B → (w4.setCell ⟨d, 2, none⟩ v4).heap[k]? = (w1.setCell ⟨m.b, 0, none⟩ (.slice oa1 n1 cap1)).heap[k]?) := by
      have hgA : (w1.setCell ⟨m.b, 0, none⟩ (.slice oa1 n1 cap1)).grownBy (((w1.setCell ⟨m.b, 0, none⟩ (.slice oa1 n1 cap1)).alloc (.cells #[.pointer (some ⟨m.b, 0, none⟩), .int .i64 (at_ : Int), .slice da dn dc] 157)).alloc (.cells #[.iface 155 (.pointer (some ⟨w1.heap.size, 0, none⟩))] 104)) none := grown_step (World.grownBy_alloc _ _ none) (World.grownBy_alloc _ _ none) (by simp)
      have hnb : (((w1.setCell ⟨m.b, 0, none⟩ (.slice oa1 n1 cap1)).alloc (.cells #[.pointer (some ⟨m.b, 0, none⟩), .int .i64 (at_ : Int), .slice da dn dc] 157)).alloc (.cells #[.iface 155 (.pointer (some ⟨w1.heap.size, 0, none⟩))] 104)).heap[w1.heap.size]? = some (.cells #[.pointer (some ⟨m.b, 0, none⟩), .int .i64 (at_ : Int), .slice da dn dc] 157 (0, 0)) := by
        rw [← HSZ.out.1]; exact (heap_alloc_old ((w1.setCell ⟨m.b, 0, none⟩ (.slice oa1 n1 cap1)).alloc (.cells #[.pointer (some ⟨m.b, 0, none⟩), .int .i64 (at_ : Int), .slice da dn dc] 157)) _ (by simp)).trans (heap_alloc_new (w1.setCell ⟨m.b, 0, none⟩ (.slice oa1 n1 cap1)) _)
      have h9 := HK.out.push ((⟨1, w1.heap.size, m.b, at_, D, da, dc, []⟩ : Ch)) hgA (v4 := v4) (by
        rw [HQV.out.2]
        exact hown4) (by rw [HQV.out.1]; exact hgrow4) (by
          obtain ⟨hs1, hs2, hs3⟩ := HSL.out; refine .inl ⟨rfl, by rw [hs1.1]; exact hnb, ?_, by show 1 ≤ D.length; rw [hs1.1]; omega, by show D.length ≤ dc; rw [hs1.1]; exact hs2, by show at_ + D.length ≤ 65536; rw [hs1.1]; omega, hs3⟩
          show SlB _ da D.length D
          rw [hs1.1]
          exact hs1.grown0 hgA) (⟨fun _ => HK1.out, fun h3 => by cases h3⟩)
      refine ⟨?_, (⟨1, w1.heap.size, m.b, at_, D, da, dc, []⟩ : Ch), rfl, ⟨rfl, rfl, rfl, rfl, rfl⟩, h9.2⟩; have h8 := h9.1; rw [Dk.box, HQV.out.1] at h8; exact h8
    obtain ⟨ra, rc, hv4⟩ := own1_is hown4; subst hv4; clear hown4 hgrow4; have kq : w4.cell? ⟨d, 2, none⟩ = some (.slice qa qn qc) := (zCr HP.out.1).trans rfl
    have kfq : w4.frozen? ⟨d, 2, none⟩ = false := by simp [World.frozen?, HP.out.1]
    go_wp2; refine bodyPost_end (results_none rfl _ _ _) rfl ⟨rfl, ?_⟩; obtain ⟨x, -, ⟨x1, x2, x3, x4, x5⟩, g1, g2, g3⟩ := HP.out.2; refine ⟨ms1, _, [x], g1, HT.out, .inr ⟨x, rfl, x1, x2, x3, x4, x5, fun hc => by rw [hc] at hdl; simp at hdl; omega⟩, ?_, fun k hk => (g3 k hk).trans (HM.out.2 k hk)⟩; exact (HM.out.1.wide (by simp) (by intro t ht; simp only [List.mem_cons, List.not_mem_nil, or_false] at ht; rcases ht with h | h <;> simp [h])).trans (g2.wide (by simp) (by intro t ht; simp only [List.mem_cons, List.not_mem_nil, or_false] at ht; rcases ht with h | h <;> simp [h]))
theorem DkAt.names {w w1 : World} {B d : Nat} {M : Dk} {ms : List Bd} (bs : List (ByteArray × Option Nat)) (h : DkAt w B d M ms) (hm : NMap w1 M.lb (M.N + bs.length) (bindD M.LD bs)) (hg : w.grownBy w1 (some M.lb)) (hb : ∀ y ∈ bs, ∀ b, y.2 = some b → Has ms b) :
    DkAt w1 B d { M with LD := bindD M.LD bs, N := M.N + bs.length } ms ∧ Moves [M.lb] [] w w1 ∧ ∀ k, k < B → w1.heap[k]? = w.heap[k]? := by
  have hM : Moves [M.lb] [] w w1 := Moves.of_turn (Turn.of_grown (T := fun k => k = M.lb) hg (fun g hg => by cases hg; rfl)) (fun k _ hk => .inl (by simp [hk]))
  have hmp : ∀ k ∈ [M.lb], ∃ es ck, w.heap[k]? = some (.map es ck) := fun k hk => by
    simp only [List.mem_cons, List.not_mem_nil, or_false] at hk; subst hk; obtain ⟨es, ck, h1, -⟩ := h.dl; exact ⟨es, ck, h1⟩
  have hlow : ∀ k, k < B → w1.heap[k]? = w.heap[k]? := fun k hk => hg.block k (Nat.lt_of_lt_of_le hk h.sizeB) (by have := h.low.1; simp; omega)
  refine ⟨⟨hM.cells h.box (by simp) (fun hc => ?_), hm, ?_, h.ne, h.low, h.bods.moves hM (by simp) (by simp) hmp, own1_moves h.q (Nat.le_refl _) hM (by simp) hmp, fun x hx => (h.chs x hx).moves hM (by simp) hmp hlow, h.refs, h.refL.bind h.dl.isMap bs hb, h.refS⟩, hM, hlow⟩
  · obtain ⟨es, ck, h9⟩ := hmp d hc; have := h.box; rw [h9] at this
    cases this
  · exact (hM.map h.ds (by simpa using fun hc => h.ne hc.symm)).mono (by show M.N ≤ M.N + _; omega)
set_option maxRecDepth 20000 in
set_option maxHeartbeats 4000000 in
theorem changeNames_any (d : Nat) (M : Dk) (ms : List Bd) (B : Nat) (oa : Option Addr) (cp : Nat) (bs : List (ByteArray × Option Nat)) (w : World) (h : DkAt w B d M ms) (hbn : BnS w oa bs) (hb : ∀ y ∈ bs, ∀ b, y.2 = some b → Has ms b) (hn : M.N + bs.length ≤ 1000000) (hq : M.queue.length ≤ 100000) :
    Calls Tryz.prog 66 #[.pointer (some ⟨d, 0, none⟩), .slice oa bs.length cp] w fun e w' => e = .returned (.tuple #[]) ∧ StepOut w w' B d M (M.N + bs.length) (bindD M.LD bs) (ms.map Bd.tell) (fun q' => ∃ x : Ch, q' = [x] ∧ x.kind = 3 ∧ x.bs = bs) := by
  have HB : Hid (Calls _ _ _ _ _) := bind_any bs oa cp M.lb M.N M.LD w hbn h.dl hn; obtain ⟨bn, hbl⟩ : ∃ x, bs.length = x := ⟨_, rfl⟩; obtain ⟨qn, hqn⟩ : ∃ x, M.queue.length = x := ⟨_, rfl⟩; obtain ⟨qa, qc, hqv⟩ := own1_is h.q; rw [hqn] at hqv hq
  have hbx : w.heap[d]? = some (.cells #[.map (some M.lb), .map (some M.sb), .slice qa qn qc, .int .i64 M.cap, .int .i64 M.fuse, .bool M.off, .int .i64 M.cnt] 90 (0, 0)) := by rw [h.box, Dk.box, hqv]
  have c0 : w.cell? ⟨d, 0, none⟩ = some (.map (some M.lb)) := (zCr hbx).trans rfl; have HD : Hid (DkAt w B d M ms ∧ BnS w oa bs ∧ bs.length = bn ∧ M.qv = .slice qa qn qc ∧ M.queue.length = qn) := ⟨h, hbn, hbl, hqv, hqn⟩; have HRB : Hid (∀ y ∈ bs, ∀ b, y.2 = some b → Has ms b) := hb; have HBN : Hid (bs.length = bn) := hbl; rw [hbl] at HB ⊢; clear h hbn hb hn hbl hqn hqv hbx
  go_enter Tryz.func66, Tryz.ntmps66
  go_wp2_with fail; refine HB.out.mono ?_; rintro e w1 ⟨rfl, hN1, hG1⟩
  obtain ⟨M1, HM1, HQV, HK, HM, HBS⟩ : ∃ M1 : Dk, Hid (M1 = { M with LD := bindD M.LD bs, N := M.N + bn }) ∧ Hid (M1.qv = .slice qa qn qc ∧ M1.queue.length = qn) ∧ Hid (DkAt w1 B d M1 ms) ∧ Hid (Moves [M.lb] [] w w1 ∧ ∀ k, k < B → w1.heap[k]? = w.heap[k]?) ∧ Hid (BnS w1 oa bs ∧ bs.length = bn) := by
    obtain ⟨h, hbn, hbl, hqv, hqn⟩ := HD.out; have h9 := h.names bs (by rw [hbl]; exact hN1) hG1 HRB.out; rw [hbl] at h9; obtain ⟨es, ck, h8, -⟩ := h.dl; exact ⟨_, rfl, ⟨hqv, hqn⟩, h9.1, h9.2, hbn.kept hG1 h8, hbl⟩
  have k2 : w1.cell? ⟨d, 2, none⟩ = some (.slice qa qn qc) := by
    have h8 := HK.out.box; rw [Dk.box, HQV.out.1] at h8; exact (zCr h8).trans rfl
  clear hN1 hG1 HB c0; obtain ⟨i0, hi, hz0, hz1, hz2'⟩ := info_parts Tryz.infoChg
  have HQ : Hid (w1.ownsRow B 104 1 (.slice qa qn qc) qn (M1.queue.map Ch.cell) ∧ B ≤ w1.heap.size) := by
    refine ⟨?_, HK.out.sizeB⟩; have h9 := HK.out.q; rw [HQV.out.1, HQV.out.2] at h9; exact h9
  have HSZ : Hid (w1.heap.size = w1.heap.size ∧ (w1.alloc (.cells #[.slice oa bn cp] 153)).heap.size = w1.heap.size + 1) := ⟨by first | done | rfl | simp | simp [World.setCell], by first | rfl | simp | simp [World.setCell]⟩
  go_wp2_with (at_builtin; refine wpList_append_own _ rfl _ _ 88 rfl B 104 i0 .nilIface 1 16 Tryz.underlying88 hi hz0 hz1 hz2' rfl (by decide) (.slice qa qn qc) qn (M1.queue.map Ch.cell) rfl (by exact own1_grown (own1_grown HQ.out.1 (World.grownBy_alloc _ _ _)) (World.grownBy_alloc _ _ _)) ⟨w1.heap.size + 1, 0, none⟩ 1 1 [.iface 151 (.pointer (some ⟨w1.heap.size, 0, none⟩))] rfl rfl ?e1n ?e2n ?e3n ?e4n ?e5n ?_)
  case e1n =>
    intro j u hj
    have hX : ((w1.alloc (.cells #[.slice oa bn cp] 153)).alloc (.cells #[.iface 151 (.pointer (some ⟨w1.heap.size, 0, none⟩))] 104)).heap[w1.heap.size + 1]? = some (.cells #[.iface 151 (.pointer (some ⟨w1.heap.size, 0, none⟩))] 104 (0, 0)) := by
      rw [← HSZ.out.2]; exact heap_alloc_new (w1.alloc (.cells #[.slice oa bn cp] 153)) _
    match j, hj with
    | 0, hj => simp at hj; subst hj; exact (zCr hX).trans rfl
  case e2n => first | rfl | (intro u hu; simp at hu; subst hu; rfl)
  case e3n => first | omega | (unfold maxLen; omega)
  case e4n => first | omega | (have := HQ.out.2; simp; omega)
  case e5n => have h8 := HQ.out.2; simp; omega
  intro v4 w4 hown4 hgrow4 _
  have HP : Hid (w4.heap[d]? = some (.cells #[.map (some M1.lb), .map (some M1.sb), .slice qa qn qc, .int .i64 M1.cap, .int .i64 M1.fuse, .bool M1.off, .int .i64 M1.cnt] 90 (0, 0)) ∧ ∃ x : Ch, x.cell = .iface 151 (.pointer (some ⟨w1.heap.size, 0, none⟩)) ∧ (x.kind = 3 ∧ x.bs = bs) ∧ DkAt (w4.setCell ⟨d, 2, none⟩ v4) B d { M1 with qv := v4, queue := M1.queue ++ [x] } ms ∧ Moves [] [104, 90] w1 (w4.setCell ⟨d, 2, none⟩ v4) ∧ ∀ k, k < B → (w4.setCell ⟨d, 2, none⟩ v4).heap[k]? = w1.heap[k]?) := by
    have hgA : w1.grownBy ((w1.alloc (.cells #[.slice oa bn cp] 153)).alloc (.cells #[.iface 151 (.pointer (some ⟨w1.heap.size, 0, none⟩))] 104)) none := grown_step (World.grownBy_alloc _ _ none) (World.grownBy_alloc _ _ none) (by simp)
    have hnb : ((w1.alloc (.cells #[.slice oa bn cp] 153)).alloc (.cells #[.iface 151 (.pointer (some ⟨w1.heap.size, 0, none⟩))] 104)).heap[w1.heap.size]? = some (.cells #[.slice oa bn cp] 153 (0, 0)) := by
      exact (heap_alloc_old (w1.alloc (.cells #[.slice oa bn cp] 153)) _ (by simp)).trans (heap_alloc_new w1 _)
    have h9 := HK.out.push ((⟨3, w1.heap.size, 0, 0, [], oa, cp, bs⟩ : Ch)) hgA (v4 := v4) (by
      rw [HQV.out.2]
      exact hown4) (by rw [HQV.out.1]; exact hgrow4) (by
        refine .inr (.inr ⟨rfl, ?_, ?_⟩)
        · show _ = some (Obj.cells #[.slice oa bs.length cp] 153 (0, 0))
          rw [HBS.out.2]; exact hnb
        · intro i y hy; obtain ⟨a1, b, a2, a3, a4, cur, a5⟩ := HBS.out.1 i y hy; have a6 := grown_blk hgA a5; have a7 : _ = w1.heap[b]? := a6.trans a5.symm
          exact ⟨a1, b, a2, (World.cell?_of_block (w := w1) (a := ⟨b, i * 2, none⟩) a7).trans a3, (World.cell?_of_block (w := w1) (a := ⟨b, i * 2 + 1, none⟩) a7).trans a4, cur, a6⟩) (⟨fun h3 => absurd rfl h3, fun _ => HRB.out⟩)
    refine ⟨?_, (⟨3, w1.heap.size, 0, 0, [], oa, cp, bs⟩ : Ch), rfl, ⟨rfl, rfl⟩, h9.2⟩; have h8 := h9.1; rw [Dk.box, HQV.out.1] at h8; exact h8
  obtain ⟨ra, rc, hv4⟩ := own1_is hown4; subst hv4; clear hown4 hgrow4; have kq : w4.cell? ⟨d, 2, none⟩ = some (.slice qa qn qc) := (zCr HP.out.1).trans rfl
  have kfq : w4.frozen? ⟨d, 2, none⟩ = false := by simp [World.frozen?, HP.out.1]
  go_wp2; refine bodyPost_end (results_none rfl _ _ _) rfl ⟨rfl, ?_⟩; obtain ⟨x, -, ⟨x1, x2⟩, g1, g2, g3⟩ := HP.out.2; obtain rfl := HM1.out; refine ⟨ms, _, [x], g1, rfl, ⟨x, rfl, x1, x2⟩, ?_, fun k hk => (g3 k hk).trans (HM.out.2 k hk)⟩; exact (HM.out.1.wide (by simp) (by simp)).trans (g2.wide (by simp) (by intro t ht; simp only [List.mem_cons, List.not_mem_nil, or_false] at ht; rcases ht with h | h <;> simp [h]))
def npsum (xs : List Ch) : Nat := (xs.map npcs).sum
theorem npsum_snoc (xs : List Ch) (x : Ch) : npsum (xs ++ [x]) = npsum xs + npcs x := by simp [npsum]
theorem npcs_le {w : World} {B : Nat} {x : Ch} (h : ChAt w B x) : npcs x ≤ 3000 := by
  rcases h with ⟨hk, -, -, h1, -, h2, -⟩ | ⟨hk, -⟩ | ⟨hk, -⟩
  · simp only [npcs, hk, if_true, npc]
    omega
  · simp [npcs, hk]
  · simp [npcs, hk]
theorem npsum_le {w : World} {B : Nat} : ∀ (xs : List Ch), (∀ x ∈ xs, ChAt w B x) → npsum xs ≤ 3000 * xs.length
  | [], _ => by simp [npsum]
  | x :: xs, h => by
    have h1 := npcs_le (h x (by simp)); have h2 := npsum_le xs (fun y hy => h y (List.mem_cons_of_mem _ hy))
    show npcs x + npsum xs ≤ 3000 * (xs.length + 1)
    omega
def pieceF (x : Ch) : Nat := if x.kind = 1 then 136 else if x.kind = 2 then 140 else 132
theorem pieces_any (x : Ch) (B : Nat) (w : World) (h : ChAt w B x) : Calls Tryz.prog (pieceF x) #[.pointer (some ⟨x.c, 0, none⟩)] w fun e w' => e = .returned (.int .i64 (npcs x : Int)) ∧ w.grownBy w' none := by
  rcases h with ⟨hk, hc, -, h1, -, h2, -⟩ | ⟨hk, -⟩ | ⟨hk, -⟩
  · rw [show pieceF x = 136 from by simp [pieceF, hk], show npcs x = npc x.at_ x.D.length from by simp [npcs, hk]]; exact writePieces_any x.c x.b x.at_ x.D.length x.dc x.da w hc h1 (by omega)
  · rw [show pieceF x = 140 from by simp [pieceF, hk], show npcs x = 1 from by simp [npcs, hk]]; refine (cutPieces_any _ w).mono ?_; rintro e w' ⟨rfl, rfl⟩; exact ⟨rfl, grownBy_refl _ _⟩
  · rw [show pieceF x = 132 from by simp [pieceF, hk], show npcs x = 1 from by simp [npcs, hk]]; refine (namesPieces_any _ w).mono ?_; rintro e w' ⟨rfl, rfl⟩; exact ⟨rfl, grownBy_refl _ _⟩
theorem DkAt.grown0 {w w' : World} {B d : Nat} {M : Dk} {ms : List Bd} (h : DkAt w B d M ms) (hg : w.grownBy w' none) : DkAt w' B d M ms :=
  h.bods1 (h.bods.grown0 hg) rfl (Moves.of_grown0 hg) (fun k hk => hg.block k (Nat.lt_of_lt_of_le hk h.sizeB) (by simp))
set_option maxRecDepth 20000 in
set_option maxHeartbeats 4000000 in
theorem queued_any (d : Nat) (M : Dk) (ms : List Bd) (B : Nat) (w : World) (h : DkAt w B d M ms) (hq : M.queue.length ≤ 100000) :
    Calls Tryz.prog 36 #[.pointer (some ⟨d, 0, none⟩)] w fun e w' => e = .returned (.int .i64 (npsum M.queue : Int)) ∧ w.grownBy w' none := by
  obtain ⟨qn, hqn⟩ : ∃ x, M.queue.length = x := ⟨_, rfl⟩; obtain ⟨qa, qc, hqv⟩ := own1_is h.q; rw [hqn] at hqv hq; have hbx := h.box; rw [Dk.box, hqv] at hbx; have c2 : w.cell? ⟨d, 2, none⟩ = some (.slice qa qn qc) := (zCr hbx).trans rfl; have HD : Hid (DkAt w B d M ms ∧ M.queue.length = qn ∧ w.ownsRow B 104 1 (.slice qa qn qc) qn (M.queue.map Ch.cell)) := ⟨h, hqn, by have h9 := h.q; rw [hqv, hqn] at h9; exact h9⟩; clear h hqn hqv hbx
  go_enter Tryz.func36, Tryz.ntmps36
  go_wp2
  go_loopw [3, 11] (fun nv i wr => ∃ k, k ≤ qn ∧ i = .int .i64 (k : Int) ∧ nv = .int .i64 (npsum (M.queue.take k) : Int) ∧ w.grownBy wr none) (fun _ i _ => qn - (intOf i).toNat)
  case atStart => exact ⟨0, Nat.zero_le _, rfl, rfl, grownBy_refl _ _⟩
  case round =>
    obtain ⟨k, hk, rfl, rfl, hG⟩ := hrel
    by_cases hlt : k < qn
    · obtain ⟨x, hx⟩ : ∃ x, M.queue[k]? = some x := ⟨_, List.getElem?_eq_getElem (by rw [HD.out.2.1]; exact hlt)⟩; have hxm := List.mem_of_getElem? hx
      have HTK : Hid (M.queue.take (k + 1) = M.queue.take k ++ [x]) := by
        show _ = _
        rw [List.take_add_one, hx]
        rfl
      have HR : Hid (w.grownBy wr none ∧ wr.ownsRow B 104 1 (.slice qa qn qc) qn (M.queue.map Ch.cell) ∧ ChAt wr B x) := ⟨hG, own1_grown HD.out.2.2 hG, (HD.out.1.grown0 hG).chs x hxm⟩; obtain ⟨ga, rfl⟩ := own1_addr HD.out.2.2 (by omega)
      have hkI : (k : Int) < (qn : Int) := by omega
      have v1 : IntKind.i64.wrap ((k : Int) + 1) = (k : Int) + 1 := IntWalk.i64_in _ (by omega); obtain ⟨sn, hsn⟩ : ∃ y, npsum (M.queue.take k) = y := ⟨_, rfl⟩; obtain ⟨pn, hpn⟩ : ∃ y, npcs x = y := ⟨_, rfl⟩
      have hs1 : sn ≤ 300000000 := by
        have h9 := npsum_le (w := w) (B := B) (M.queue.take k) (fun y hy => HD.out.1.chs y (List.mem_of_mem_take hy)); rw [hsn, List.length_take] at h9
        omega
      have hp1 : pn ≤ 3000 := by rw [← hpn]; exact npcs_le HR.out.2.2
      have v2 : IntKind.i64.wrap ((sn : Int) + (pn : Int)) = (sn : Int) + (pn : Int) := IntWalk.i64_in _ (by omega); clear hG c2
      have hkk : x.kind = 1 ∨ x.kind = 2 ∨ x.kind = 3 := by
        rcases HR.out.2.2 with ⟨h1, -⟩ | ⟨h1, -⟩ | ⟨h1, -⟩
        · exact .inl h1
        · exact .inr (.inl h1)
        · exact .inr (.inr h1)
      rcases hkk with hkd | hkd | hkd
      · skip
        have hp : pieceF x = 136 := by simp [pieceF, hkd]
        have HC : Hid (Calls _ _ _ _ _) := pieces_any x B wr HR.out.2.2; rw [hp] at HC
        have cq : wr.cell? ⟨ga, k, none⟩ = some (.iface 155 (.pointer (some ⟨x.c, 0, none⟩))) := by
          have h9 : x.cell = .iface 155 (.pointer (some ⟨x.c, 0, none⟩)) := by simp [Ch.cell, hkd]
          rw [← h9]; exact own1_at HR.out.2.1 (by simp [hx])
        clear hkd hp; go_wp2_with fail; refine HC.out.mono ?_; rintro e w1 ⟨rfl, hg1⟩; have HG : Hid (w.grownBy w1 none) := grownBy_trans HR.out.1 hg1; clear HC hg1 HR; go_wp2; go_roundw
        case rel => exact ⟨k + 1, hlt, by go_num, by rw [HTK.out, npsum_snoc, hpn]; go_num, HG.out⟩
        case measure => simp [intOf]; omega
      · skip
        have hp : pieceF x = 140 := by simp [pieceF, hkd]
        have HC : Hid (Calls _ _ _ _ _) := pieces_any x B wr HR.out.2.2; rw [hp] at HC
        have cq : wr.cell? ⟨ga, k, none⟩ = some (.iface 158 (.pointer (some ⟨x.c, 0, none⟩))) := by
          have h9 : x.cell = .iface 158 (.pointer (some ⟨x.c, 0, none⟩)) := by simp [Ch.cell, hkd]
          rw [← h9]; exact own1_at HR.out.2.1 (by simp [hx])
        clear hkd hp; go_wp2_with fail; refine HC.out.mono ?_; rintro e w1 ⟨rfl, hg1⟩; have HG : Hid (w.grownBy w1 none) := grownBy_trans HR.out.1 hg1; clear HC hg1 HR; go_wp2; go_roundw
        case rel => exact ⟨k + 1, hlt, by go_num, by rw [HTK.out, npsum_snoc, hpn]; go_num, HG.out⟩
        case measure => simp [intOf]; omega
      · skip
        have hp : pieceF x = 132 := by simp [pieceF, hkd]
        have HC : Hid (Calls _ _ _ _ _) := pieces_any x B wr HR.out.2.2; rw [hp] at HC
        have cq : wr.cell? ⟨ga, k, none⟩ = some (.iface 151 (.pointer (some ⟨x.c, 0, none⟩))) := by
          have h9 : x.cell = .iface 151 (.pointer (some ⟨x.c, 0, none⟩)) := by simp [Ch.cell, hkd]
          rw [← h9]; exact own1_at HR.out.2.1 (by simp [hx])
        clear hkd hp; go_wp2_with fail; refine HC.out.mono ?_; rintro e w1 ⟨rfl, hg1⟩; have HG : Hid (w.grownBy w1 none) := grownBy_trans HR.out.1 hg1; clear HC hg1 HR; go_wp2; go_roundw
        case rel => exact ⟨k + 1, hlt, by go_num, by rw [HTK.out, npsum_snoc, hpn]; go_num, HG.out⟩
        case measure => simp [intOf]; omega
    · obtain rfl : qn = k := by omega
      have hkI : ¬ (qn : Int) < (qn : Int) := by omega
      have HF : Hid (w.grownBy wr none) := hG; have e1 : M.queue.take qn = M.queue := List.take_of_length_le (by rw [HD.out.2.1]; exact Nat.le_refl _); rw [e1]; clear hG e1 c2; go_wp2; go_ret; exact ⟨rfl, HF.out⟩
def keptX (C : List Nat) (x : Ch) (pl : Nat) : Nat → Pb → Pb
  | 0, P => P
  | n + 1, P => match C[pl + n]? with
    | none => keptX C x pl n P
    | some ch => keptP x n ch (keptX C x pl n P)
def keptXD (C : List Nat) (x : Ch) (pl : Nat) : Nat → DataW Unit → DataW Unit
  | 0, D => D
  | n + 1, D => match C[pl + n]? with
    | none => keptXD C x pl n D
    | some ch => keptD x ch (keptXD C x pl n D)
def crashP (C : List Nat) : List Ch → Nat → Pb → Pb
  | [], _, P => P
  | x :: xs, pl, P => crashP C xs (pl + npcs x) (keptX C x pl (npcs x) P)
def crashD (C : List Nat) : List Ch → Nat → DataW Unit → DataW Unit
  | [], _, D => D
  | x :: xs, pl, D => crashD C xs (pl + npcs x) (keptXD C x pl (npcs x) D)
theorem crashP_snoc (C : List Nat) : ∀ (xs : List Ch) (x : Ch) (pl : Nat) (P : Pb), crashP C (xs ++ [x]) pl P = keptX C x (pl + npsum xs) (npcs x) (crashP C xs pl P)
  | [], x, pl, P => rfl
  | y :: xs, x, pl, P => by
    show crashP C (xs ++ [x]) (pl + npcs y) _ = keptX C x (pl + (npcs y + npsum xs)) (npcs x) (crashP C xs (pl + npcs y) _)
    rw [crashP_snoc C xs, Nat.add_assoc]
theorem crashD_snoc (C : List Nat) : ∀ (xs : List Ch) (x : Ch) (pl : Nat) (D : DataW Unit), crashD C (xs ++ [x]) pl D = keptXD C x (pl + npsum xs) (npcs x) (crashD C xs pl D)
  | [], x, pl, D => rfl
  | y :: xs, x, pl, D => by
    show crashD C (xs ++ [x]) (pl + npcs y) _ = keptXD C x (pl + (npcs y + npsum xs)) (npcs x) (crashD C xs (pl + npcs y) _)
    rw [crashD_snoc C xs, Nat.add_assoc]
def totk (xs : List Ch) : Nat := (xs.map (fun x => npcs x * x.bs.length)).sum
theorem totk_snoc (xs : List Ch) (x : Ch) : totk (xs ++ [x]) = totk xs + npcs x * x.bs.length := by simp [totk]
theorem totk_le {xs : List Ch} (k : Nat) : totk (xs.take k) ≤ totk xs := by
  have e : totk xs = totk (xs.take k) + totk (xs.drop k) := by
    conv => lhs; rw [← List.take_append_drop k xs]
    unfold totk
    rw [List.map_append, List.sum_append]
  omega
theorem keptP_fst (x : Ch) (p ch : Nat) (P : Pb) : (keptP x p ch P).map (·.1) = P.map (·.1) := by
  unfold keptP
  split
  · exact onB_fst _ _ _
  · split
    · exact onB_fst _ _ _
    · rfl
theorem keptX_fst (C : List Nat) (x : Ch) (pl : Nat) : ∀ (n : Nat) (P : Pb), (keptX C x pl n P).map (·.1) = P.map (·.1)
  | 0, _ => rfl
  | n + 1, P => by
    unfold keptX
    split
    · exact keptX_fst C x pl n P
    · rw [keptP_fst, keptX_fst C x pl n P]
theorem crashP_fst (C : List Nat) : ∀ (xs : List Ch) (pl : Nat) (P : Pb), (crashP C xs pl P).map (·.1) = P.map (·.1)
  | [], _, _ => rfl
  | x :: xs, pl, P => by
    show (crashP C xs _ _).map (·.1) = _
    rw [crashP_fst C xs, keptX_fst]
theorem DRef.kept {ms : List Bd} {x : Ch} {ch : Nat} {D : DataW Unit} (h : DRef ms D) (hm : IsMap D) (hr : ChRef ms x) : DRef ms (keptD x ch D) ∧ IsMap (keptD x ch D) := by
  unfold keptD
  split
  · rename_i hk
    split
    · exact ⟨h.bind hm _ (hr.2 hk), isMap_bind hm _⟩
    · exact ⟨h, hm⟩
  · exact ⟨h, hm⟩
theorem DRef.keptX {ms : List Bd} {C : List Nat} {x : Ch} {pl : Nat} (hr : ChRef ms x) : ∀ (n : Nat) {D : DataW Unit}, DRef ms D → IsMap D → DRef ms (keptXD C x pl n D) ∧ IsMap (keptXD C x pl n D)
  | 0, _, h, hm => ⟨h, hm⟩
  | n + 1, D, h, hm => by
    have h2 := DRef.keptX (C := C) (pl := pl) hr n h hm
    unfold keptXD
    split
    · exact h2
    · exact h2.1.kept h2.2 hr
theorem DRef.crash {ms : List Bd} {C : List Nat} : ∀ (xs : List Ch) (pl : Nat) {D : DataW Unit}, DRef ms D → IsMap D → (∀ x ∈ xs, ChRef ms x) → DRef ms (crashD C xs pl D) ∧ IsMap (crashD C xs pl D)
  | [], _, _, h, hm, _ => ⟨h, hm⟩
  | x :: xs, pl, D, h, hm, hr => by
    have h2 := DRef.keptX (C := C) (pl := pl) (hr x (by simp)) (npcs x) h hm; exact DRef.crash xs _ h2.1 h2.2 (fun y hy => hr y (List.mem_cons_of_mem _ hy))
theorem Tryz.nilK1 (c : Nat) (w : World) : (nilAhead 315 155 (.pointer (some ⟨c, 0, none⟩)) "loop.example/s01723/impl.makeKept").run Tryz.prog w = .ok (some false) w := by kernel_rfl
theorem Tryz.nilK2 (c : Nat) (w : World) : (nilAhead 315 158 (.pointer (some ⟨c, 0, none⟩)) "loop.example/s01723/impl.makeKept").run Tryz.prog w = .ok (some false) w := by kernel_rfl
theorem Tryz.nilK3 (c : Nat) (w : World) : (nilAhead 315 151 (.pointer (some ⟨c, 0, none⟩)) "loop.example/s01723/impl.makeKept").run Tryz.prog w = .ok (some false) w := by kernel_rfl
theorem Tryz.methK1 (c : Nat) (w : World) : (method 315 155 (.pointer (some ⟨c, 0, none⟩)) "loop.example/s01723/impl.makeKept").run Tryz.prog w = .ok (133, .pointer (some ⟨c, 0, none⟩)) w := by kernel_rfl
theorem Tryz.methK2 (c : Nat) (w : World) : (method 315 158 (.pointer (some ⟨c, 0, none⟩)) "loop.example/s01723/impl.makeKept").run Tryz.prog w = .ok (137, .pointer (some ⟨c, 0, none⟩)) w := by kernel_rfl
theorem Tryz.methK3 (c : Nat) (w : World) : (method 315 151 (.pointer (some ⟨c, 0, none⟩)) "loop.example/s01723/impl.makeKept").run Tryz.prog w = .ok (129, .pointer (some ⟨c, 0, none⟩)) w := by kernel_rfl
theorem eqS_nil (oa : Option Addr) (n c : Nat) (w : World) : (binOp .eql 22 (.slice oa n c) (.slice none 0 0)).run Tryz.prog w = .ok (.bool oa.isNone) w := by
  have h : ∀ d : Nat, (Op.equalIn (d + 1) 22 (.slice oa n c) (.slice none 0 0)).run Tryz.prog w = .ok oa.isNone w := fun d => by
    cases oa <;> simp [Op.equalIn, run_underlying Tryz.underlying22]
  simp only [binOp]
  simp [Op.equal, Op.maxDepth, h 9999]
set_option maxRecDepth 20000 in
theorem clone_any (oa : Option Addr) (n c : Nat) (D : List Nat) (B : Nat) (w : World) (hs : SlB w oa n D) (hn : n ≤ 1048576) (hB : B ≤ w.heap.size) :
    Calls Tryz.prog 46 #[.slice oa n c] w fun e w' => ∃ v', e = .returned v' ∧ BRow w' B v' D ∧ w.grownBy w' none ∧ ∀ g, rowBlk v' = some g → w.heap.size ≤ g := by
  have HS : Hid (SlB w oa n D) := hs; clear hs
  cases oa with
  | none =>
    have e9 := eqS_nil none n c w
    obtain rfl : D = [] := by
      rcases Nat.eq_zero_or_pos n with h0 | h0
      · exact List.length_eq_zero_iff.1 (HS.out.1.trans h0)
      · obtain ⟨b, off, h9, -⟩ := HS.out.2.2 (by omega)
        cases h9
    go_enter Tryz.func46, Tryz.ntmps46
    go_wp2; go_ret; exact ⟨_, rfl, ⟨by simp, .inl ⟨rfl, none, rfl⟩⟩, grownBy_refl _ _, fun g hg => by cases hg⟩
  | some a =>
    have e9 := eqS_nil (some a) n c w
    go_enter Tryz.func46, Tryz.ntmps46
    go_wp2_with (at_builtin; refine wpList_app_row (B := B) (v := .slice (some ⟨w.heap.size, 0, none⟩) 0 0) (L := []) (D := D) rfl _ _ rfl rfl ⟨by simp, .inl ⟨rfl, _, rfl⟩⟩ rfl (HS.out.grown0 (World.grownBy_alloc _ _ none)) (by simpa using hn) (by simp; omega) ?_; intro v1 w1 h1 h2 h3)
    have HF : Hid (BRow w1 B v1 D ∧ w.grownBy w1 none ∧ ∀ g, rowBlk v1 = some g → w.heap.size ≤ g) := by
      refine ⟨h1, grown_step (World.grownBy_alloc w _ none) h2 (by simp [rowBlk]), fun g hg => ?_⟩
      rcases h3 g hg with h4 | h4
      · simp [rowBlk] at h4
      · simp at h4; omega
    clear h1 h2 h3; go_wp2; go_ret; exact ⟨_, rfl, HF.out.1, HF.out.2.1, HF.out.2.2⟩
structure CrSt (w wr : World) (B d : Nat) (M : Dk) (P : Pb) (N : Nat) (D : DataW Unit) : Prop where
  box : wr.heap[d]? = some M.box
  dl : NMap wr M.lb M.N M.LD
  q : wr.ownsRow B 104 1 M.qv M.queue.length (M.queue.map Ch.cell)
  chs : ∀ x ∈ M.queue, ChAt wr B x
  mv : Moves [M.sb] [93, 5] w wr
  low : ∀ k, k < B → wr.heap[k]? = w.heap[k]?
  bods : ∃ ms', Bods wr B ms' ∧ ms'.map Bd.tell = P
  ds : NMap wr M.sb N D
theorem CrSt.start {w : World} {B d : Nat} {M : Dk} {ms : List Bd} (h : DkAt w B d M ms) : CrSt w w B d M (ms.map Bd.tell) M.N M.SD :=
  ⟨h.box, h.dl, h.q, h.chs, Moves.refl _ _ _, fun _ _ => rfl, ⟨ms, h.bods, rfl⟩, h.ds⟩
theorem CrSt.step {w wr w' : World} {B d : Nat} {M : Dk} {ms : List Bd} {P P' : Pb} {N N' : Nat} {D D' : DataW Unit} (hD : DkAt w B d M ms) (h : CrSt w wr B d M P N D) (hs : SyncOut wr w' B M.sb N' D' P') : CrSt w w' B d M P' N' D' := by
  obtain ⟨s1, s2, s3, s4⟩ := hs
  have hsbm : ∀ j ∈ [M.sb], ∃ es ck, wr.heap[j]? = some (.map es ck) := fun j hj => by
    simp only [List.mem_cons, List.not_mem_nil, or_false] at hj; subst hj; obtain ⟨es, ck, g1, -⟩ := h.ds; exact ⟨es, ck, g1⟩
  refine ⟨s3.cells h.box (by decide) (fun hc => ?_), s3.map h.dl (by simpa using hD.ne), own1_moves h.q (Nat.le_refl _) s3 (by decide) hsbm, fun x hx => (h.chs x hx).moves s3 (by decide) hsbm s4, h.mv.trans s3, fun k hk => (s4 k hk).trans (h.low k hk), s1, s2⟩; obtain ⟨es, ck, h9⟩ := hsbm d hc; have := h.box; rw [h9] at this
  cases this
theorem CrSt.sizeB {w wr : World} {B d : Nat} {M : Dk} {ms : List Bd} {P : Pb} {N : Nat} {D : DataW Unit} (hD : DkAt w B d M ms) (h : CrSt w wr B d M P N D) : B ≤ wr.heap.size := Nat.le_trans hD.sizeB h.mv.size
theorem CrSt.grown {w wr w' : World} {B d : Nat} {M : Dk} {ms : List Bd} {P : Pb} {N : Nat} {D : DataW Unit} (hD : DkAt w B d M ms) (h : CrSt w wr B d M P N D) (hg : wr.grownBy w' none) : CrSt w w' B d M P N D := by
  obtain ⟨ms', h1, h2⟩ := h.bods; refine h.step hD ⟨⟨ms', h1.grown0 hg, h2⟩, (Moves.of_grown0 hg : Moves [] [] wr w').map h.ds (by simp), Moves.of_grown0 hg, fun k hk => hg.block k (Nat.lt_of_lt_of_le hk (h.sizeB hD)) (by simp)⟩
theorem CrSt.piece {w wr : World} {B d : Nat} {M : Dk} {ms : List Bd} {P : Pb} {N : Nat} {D : DataW Unit} (hD : DkAt w B d M ms) (h : CrSt w wr B d M P N D) (hP : P.map (·.1) = (ms.map Bd.tell).map (·.1)) {x : Ch} (hx : x ∈ M.queue) {p ch : Nat} (hp : p < npcs x) (hch : ch < 256) (hn : N + x.bs.length ≤ 1000000) :
    Calls Tryz.prog (keptF x) #[.pointer (some ⟨x.c, 0, none⟩), .map (some M.sb), .int .i64 (p : Int), .int .u8 (ch : Int)] wr fun e w' => e = .returned (.tuple #[]) ∧ CrSt w w' B d M (keptP x p ch P) (N + x.bs.length) (keptD x ch D) := by
  obtain ⟨ms', h1, h2⟩ := h.bods
  have hT : ∀ b, Has ms b → Has ms' b := fun b hb => has_of_tell (by rw [h2, hP]) hb
  refine (kept_any x p ch B M.sb N D ms' wr (h.sizeB hD) (h.chs x hx) ((hD.refs x hx).to hT) h1 h.ds hD.low.2.1 hn hch hp).mono ?_; rintro e w' ⟨rfl, hs⟩; rw [h2] at hs; exact ⟨rfl, h.step hD hs⟩
def clP (v : Nat → Bool) (P : Pb) : Pb := P.map (fun y => if v y.1 then (y.1, y.2.2, y.2.2) else y)
theorem Bods.turn {T : Nat → Prop} {w w' : World} {B : Nat} {ms : List Bd} (h : Bods w B ms) (hT : Turn T w w') (hd : ∀ k, T k → ∀ cur t f, w.heap[k]? ≠ some (.cells cur t f)) : Bods w' B ms :=
  ⟨fun m hm => ⟨(h.each m hm).1.turn hT (fun k hk hc => by
    rcases hk with rfl | hk | hk
    · exact hd _ hc _ _ _ (h.each m hm).1.box
    · obtain ⟨-, -, cur, h9⟩ := (h.each m hm).1.live.base hk; exact hd _ hc _ _ _ h9
    · obtain ⟨-, -, cur, h9⟩ := (h.each m hm).1.syn.base hk
      exact hd _ hc _ _ _ h9), (h.each m hm).2⟩, h.low, h.one, h.apart⟩
theorem putB_clP {ms : List Bd} {m m' : Bd} {v : Nat → Bool} {P : Pb} (ht : ms.map Bd.tell = clP v P) (h1 : m'.b = m.b) (hL : m'.L = m.S) (hS : m'.S = m.S) (hu : ∀ x ∈ ms, x.b = m.b → x = m) : (putB m' ms).map Bd.tell = clP (fun b => v b || b == m.b) P := by
  have e1 : (putB m' ms).map Bd.tell = (ms.map Bd.tell).map (fun y => if y.1 = m.b then (y.1, y.2.2, y.2.2) else y) := by
    rw [putB, List.map_map, List.map_map]; refine List.map_congr_left (fun x hx => ?_)
    show Bd.tell (if x.b = m'.b then m' else x) = if x.b = m.b then (x.b, x.S, x.S) else (x.b, x.L, x.S)
    rw [h1]
    split
    · rename_i h
      obtain rfl := hu x hx h
      simp [Bd.tell, h1, hL, hS]
    · rfl
  rw [e1, ht, clP, clP, List.map_map]; refine List.map_congr_left (fun y _ => ?_)
  show (fun y : Nat × List Nat × List Nat => if y.1 = m.b then (y.1, y.2.2, y.2.2) else y) (if v y.1 then (y.1, y.2.2, y.2.2) else y) = if (v y.1 || y.1 == m.b) = true then (y.1, y.2.2, y.2.2) else y
  by_cases hv : v y.1 = true
  · simp [hv]
  · simp [hv]
structure ClSt (w wr : World) (B d : Nat) (M : Dk) (lb r N : Nat) (P : Pb) (D : DataW Unit) (left : Lit → Bool) (cnt : Nat) : Prop where
  rg : wr.ranges Tryz.prog 9 ptrE M.sb r N D left cnt
  box : wr.heap[d]? = some { M with lb := lb }.box
  new : ∃ n2 L2, NMap wr lb n2 L2 ∧ n2 + cnt ≤ N ∧ Agree L2 D left
  bods : ∃ ms2 v, Bods wr B ms2 ∧ ms2.map Bd.tell = clP v P ∧ (∀ kl b, has D kl = true → left kl = false → D.atKey kl .nil = bD (some b) → v b = true) ∧ ∀ b, v b = true → ∃ kl, D.atKey kl .nil = bD (some b)
  mv : Moves [M.sb] [93, 5, 90] w wr
  low : ∀ k, k < B → wr.heap[k]? = w.heap[k]?
  lbn : w.heap.size ≤ lb
  rn : w.heap.size ≤ r
  lr : lb ≠ r
theorem ClSt.round {w wr w1 w2 w4 : World} {B d : Nat} {M : Dk} {ms ms2 : List Bd} {lb r N cnt cnt' n2 : Nat} {P : Pb} {D L2 : DataW Unit} {left : Lit → Bool} {kl : Lit} {v : Nat → Bool} {m : Bd} {v' : Value} (hD : DkAt w B d M ms) (h : ClSt w wr B d M lb r N P D left cnt)
    (hk : WideAt.IsKeyLit kl) (hat : ∀ zd, D.atKey kl zd = .lit (.int .i64 (m.b : Int))) (hrg : w1.ranges Tryz.prog 9 ptrE M.sb r N D (fun z => left z && !z.sameKey kl) cnt') (hlt : cnt' < cnt) (hg1 : wr.grownBy w1 (some r))
    (hb : Bods wr B ms2) (ht : ms2.map Bd.tell = clP v P) (hv1 : ∀ kl b, has D kl = true → left kl = false → D.atKey kl .nil = bD (some b) → v b = true) (hv2 : ∀ b, v b = true → ∃ kl, D.atKey kl .nil = bD (some b)) (hm : m ∈ ms2)
    (hg2 : w1.grownBy w2 none) (hrow : BRow w2 B v' m.S) (hfr : ∀ g, rowBlk v' = some g → w1.heap.size ≤ g) (hA : Agree L2 D left) (hn2 : n2 + cnt ≤ N) (hN2 : NMap wr lb n2 L2)
    (hN4 : NMap w4 lb (n2 + 1) (L2.put kl (.lit (.int .i64 (m.b : Int))))) (hg4 : (w2.setCell ⟨m.b, 0, none⟩ v').grownBy w4 (some lb)) :
    ClSt w w4 B d M lb r N P D (fun z => left z && !z.sameKey kl) cnt' := by
  obtain ⟨es, ck, sc, se, c0, q1, -, -, -, q2, -⟩ := h.rg; have hIM := hN2.isMap; obtain ⟨es2, ck2, q3, -⟩ := hN2; have hT1 : Turn (fun k => k = r) wr w1 := Turn.of_grown hg1 (fun g hg => by cases hg; rfl); have b1 : Bods w1 B ms2 := hb.turn hT1 (fun k hk cur t f hc => by obtain rfl : k = r := hk; rw [q2] at hc; cases hc); have hm1 := (b1.each m hm).1; have hT3 : Turn (fun k => k = m.b) w1 (w2.setCell ⟨m.b, 0, none⟩ v') := (Turn.of_grown (T := fun k => k = m.b) hg2 (by simp)).set (a := ⟨m.b, 0, none⟩) (show m.b = m.b from rfl) _; have hm2 : w2.heap[m.b]? = some m.blk := (hg2.block m.b (hm1.lt (.inl rfl)) (by simp)).trans hm1.box
  have hm' : BdAt (w2.setCell ⟨m.b, 0, none⟩ v') B { m with lv := v', L := m.S } := ⟨(heap_setCell_same w2 m.b 0 _ _ _ hm2).trans rfl, hrow.turn (T := fun k => k = m.b) ((Turn.refl (fun k => k = m.b) w2).set (a := ⟨m.b, 0, none⟩) (show m.b = m.b from rfl) _) (fun g hg hc => by subst hc; exact hrow.ne hm2 (by decide) hg), hm1.syn.turn hT3 (fun g hg hc => by subst hc; exact hm1.syn.ne hm1.box (by decide) hg), fun g hg hc => by
    have := hfr g hg; have := (hm1.syn.base hc).2.1
    omega⟩
  have b3 := b1.put hm (m' := { m with lv := v', L := m.S }) rfl ⟨hT3.os, hT3.tape, hT3.output, hT3.size, fun k hk hc => hT3.block k hk (fun hc' => hc (.inl hc'))⟩ hm' (fun g hg => by
    rcases hg with hg | hg
    · exact .inr (hfr g hg)
    · exact .inl (.inr hg)) ⟨(b1.each m hm).2.2, (b1.each m hm).2.2⟩
  have q3' : w1.heap[lb]? = some (.map es2 ck2) := (hg1.block lb (Array.getElem?_eq_some_iff.1 q3).1 (by simpa using h.lr)).trans q3
  have nlb : lb ≠ m.b := fun hc => by have h9 := hm1.box; rw [← hc, q3'] at h9; cases h9
  have q3'' : (w2.setCell ⟨m.b, 0, none⟩ v').heap[lb]? = some (.map es2 ck2) := hT3.blk q3' nlb; have hT4 : Turn (fun k => k = lb) (w2.setCell ⟨m.b, 0, none⟩ v') w4 := Turn.of_grown hg4 (fun g hg => by cases hg; rfl); have b4 := b3.turn hT4 (fun k hk cur t f hc => by obtain rfl : k = lb := hk; rw [q3''] at hc; cases hc); have q1' : w1.heap[M.sb]? = some (.map es ck) := (hg1.block M.sb (Array.getElem?_eq_some_iff.1 q1).1 (fun hc => by cases hc; rw [q2] at q1; cases q1)).trans q1
  have nsb : M.sb ≠ m.b := fun hc => by have h9 := hm1.box; rw [← hc, q1'] at h9; cases h9
  have hrg' := hrg; obtain ⟨_, _, _, _, _, -, -, -, -, q2', -⟩ := hrg'
  have nr : r ≠ m.b := fun hc => by have h9 := hm1.box; rw [← hc, q2'] at h9; cases h9
  have hsb : M.sb < w.heap.size := by
    obtain ⟨es9, ck9, h9, -⟩ := hD.ds; exact (Array.getElem?_eq_some_iff.1 h9).1
  have gg : w1.grownBy (w2.setCell ⟨m.b, 0, none⟩ v') (some m.b) := ⟨hT3.os, hT3.tape, hT3.output, hT3.size, fun k hk hne => hT3.block k hk (fun hc => hne (by rw [hc]))⟩
  have chain : ∀ k, k < wr.heap.size → k ≠ r → k ≠ m.b → k ≠ lb → w4.heap[k]? = wr.heap[k]? := fun k hk n1 n2 n3 => by
    have s1 : k < w1.heap.size := Nat.lt_of_lt_of_le hk hg1.size; exact (hT4.block k (Nat.lt_of_lt_of_le s1 hT3.size) n3).trans ((hT3.block k s1 n2).trans (hT1.block k hk n1))
  have hwr := h.mv.size; have hbl := hb.low m hm; have hBw := hD.sizeB; have hlbn := h.lbn; have hrn := h.rn; refine ⟨(hrg.kept gg (by simpa using nsb) (by simpa using nr)).kept hg4 (by simp; omega) (by simpa using fun hc => h.lr hc.symm), ?_, ⟨n2 + 1, _, hN4, by omega, agree_step hA hIM hk hat⟩, ⟨_, _, b4, putB_clP (m := m) ht rfl rfl rfl (fun x hx he => hb.same hx hm he), ?_, ?_⟩, ?_, ?_, h.lbn, h.rn, h.lr⟩
  · refine (chain d (Array.getElem?_eq_some_iff.1 h.box).1 (fun hc => ?_) (fun hc => ?_) (fun hc => ?_)).trans h.box
    · have h9 := h.box; rw [hc, q2] at h9; cases h9
    · have h9 := h.box; rw [hc, (hb.each m hm).1.box] at h9; have h8 := Option.some.inj h9
      injection h8 with _ h7 _
      exact absurd h7 (by decide)
    · have h9 := h.box; rw [hc, q3] at h9; cases h9
  · intro kl' b' g1 g2 g3
    by_cases hl : left kl' = true
    · have he : kl' = kl := by
        simp only [hl, Bool.true_and, Bool.not_eq_false'] at g2; exact WideAt.sameKey_eq g2
      subst he; rw [hat] at g3; have h9 : bD (some m.b) = bD (some b') := g3; obtain rfl := Option.some.inj (bD_inj h9)
      simp
    · simp only [Bool.not_eq_true] at hl
      simp [hv1 kl' b' g1 hl g3]
  · intro b' hb'; simp only [Bool.or_eq_true, beq_iff_eq] at hb'
    rcases hb' with h9 | rfl
    · exact hv2 b' h9
    · exact ⟨kl, hat .nil⟩
  · refine ⟨hT4.os.trans (hT3.os.trans (hT1.os.trans h.mv.os)), hT4.tape.trans (hT3.tape.trans (hT1.tape.trans h.mv.tape)), hT4.output.trans (hT3.output.trans (hT1.output.trans h.mv.output)), Nat.le_trans h.mv.size (Nat.le_trans hT1.size (Nat.le_trans hT3.size hT4.size)), fun k hk hc => ?_⟩; have g1 := h.mv.block k hk hc; refine (chain k (by omega) (by omega) (fun he => hc (.inr ?_)) (by omega)).trans g1; subst he; exact ⟨_, _, _, g1.symm.trans (hb.each m hm).1.box, by simp⟩
  · exact fun k hk => (chain k (by omega) (by omega) (by omega) (by omega)).trans (h.low k hk)
theorem clP_fst (v : Nat → Bool) (P : Pb) : (clP v P).map (·.1) = P.map (·.1) := by
  rw [clP, List.map_map]; refine List.map_congr_left (fun y _ => ?_)
  show (if v y.1 then (y.1, y.2.2, y.2.2) else y).1 = y.1
  split <;> rfl
def CrashOut (w w' : World) (B d : Nat) (M : Dk) (ms : List Bd) (C : List Nat) : Prop :=
  ∃ ms' lb v, DkAt w' B d { M with lb := lb, N := M.N + totk M.queue, LD := crashD C M.queue 0 M.SD, SD := crashD C M.queue 0 M.SD, qv := .slice none 0 0, queue := [], fuse := -1, off := false } ms' ∧ ms'.map Bd.tell = clP v (crashP C M.queue 0 (ms.map Bd.tell)) ∧ (∀ b, v b = true ↔ ∃ kl, (crashD C M.queue 0 M.SD).atKey kl .nil = bD (some b)) ∧ Moves [M.sb] [93, 5, 90] w w' ∧ ∀ k, k < B → w'.heap[k]? = w.heap[k]?
theorem ClSt.fin {w wr : World} {B d : Nat} {M : Dk} {ms : List Bd} {lb r N cnt : Nat} {P : Pb} {D : DataW Unit} {left : Lit → Bool} (hD : DkAt w B d M ms) (h : ClSt w wr B d M lb r N P D left cnt) (hl : ∀ kl, left kl = false) (hRF : ∀ ms2 v, ms2.map Bd.tell = clP v P → DRef ms2 D) :
    ∃ ms' v, DkAt (((wr.setCell ⟨d, 2, none⟩ (.slice none 0 0)).setCell ⟨d, 4, none⟩ (.int .i64 (-1))).setCell ⟨d, 5, none⟩ (.bool false)) B d { M with lb := lb, N := N, LD := D, SD := D, qv := .slice none 0 0, queue := [], fuse := -1, off := false } ms' ∧ ms'.map Bd.tell = clP v P ∧ (∀ b, v b = true ↔ ∃ kl, D.atKey kl .nil = bD (some b)) ∧ Moves [M.sb] [93, 5, 90] w (((wr.setCell ⟨d, 2, none⟩ (.slice none 0 0)).setCell ⟨d, 4, none⟩ (.int .i64 (-1))).setCell ⟨d, 5, none⟩ (.bool false)) ∧ ∀ k, k < B → (((wr.setCell ⟨d, 2, none⟩ (.slice none 0 0)).setCell ⟨d, 4, none⟩ (.int .i64 (-1))).setCell ⟨d, 5, none⟩ (.bool false)).heap[k]? = w.heap[k]? := by
  obtain ⟨ms2, v, b1, b2, b3, b4⟩ := h.bods; obtain ⟨n2, L2, m1, m2, m3⟩ := h.new; obtain rfl : L2 = D := agree_end m3 hl (m1.canon keyS) (h.rg.owns.canon keyS); have hT : Turn (fun k => k = d) wr (((wr.setCell ⟨d, 2, none⟩ (.slice none 0 0)).setCell ⟨d, 4, none⟩ (.int .i64 (-1))).setCell ⟨d, 5, none⟩ (.bool false)) := (((Turn.refl (fun k => k = d) wr).set (a := ⟨d, 2, none⟩) (show d = d from rfl) _).set (a := ⟨d, 4, none⟩) (show d = d from rfl) _).set (a := ⟨d, 5, none⟩) (show d = d from rfl) _; have hM : Moves [] [90] wr (((wr.setCell ⟨d, 2, none⟩ (.slice none 0 0)).setCell ⟨d, 4, none⟩ (.int .i64 (-1))).setCell ⟨d, 5, none⟩ (.bool false)) := Moves.of_turn hT (fun k _ hk => .inr (by obtain rfl : k = d := hk; exact ⟨_, _, _, h.box, by simp⟩))
  have hsb : M.sb < w.heap.size := by
    obtain ⟨es9, ck9, h9, -⟩ := hD.ds; exact (Array.getElem?_eq_some_iff.1 h9).1
  have hlbn := h.lbn; have hBw := hD.sizeB; have hlw := hD.low; have hws := h.mv.size; refine ⟨ms2, v, ⟨?_, (hM.map m1 (by simp)).mono (by show n2 ≤ N; omega), hM.map h.rg.owns (by simp), ?_, ?_, b1.moves hM (by decide) (by decide) (by simp), ?_, by simp, by simp, hRF ms2 v b2, hRF ms2 v b2⟩, b2, fun b => ⟨b4 b, ?_⟩, ?_, ?_⟩
  · have e1 := heap_setCell_same wr d 2 _ _ (.slice none 0 0) h.box; have e2 := heap_setCell_same _ d 4 _ _ (.int .i64 (-1)) e1; exact (heap_setCell_same _ d 5 _ _ (.bool false) e2).trans rfl
  · show lb ≠ M.sb; omega
  · exact ⟨by show B ≤ lb; omega, hlw.2.1, hlw.2.2⟩
  · exact World.ownsRow_nil _ _ _ _
  · rintro ⟨kl, hk⟩; refine b3 kl b ?_ (hl kl) hk
    rcases hh : has L2 kl with _ | _
    · rw [atKey_of_not_has hh] at hk
      cases hk
    · rfl
  · exact h.mv.trans (hM.wide (by simp) (by intro t ht; simp only [List.mem_cons, List.not_mem_nil, or_false] at ht; simp [ht]))
  · exact fun k hk => (hT.block k (by omega) (by show ¬ k = d; omega)).trans (h.low k hk)
end Go.Proofs.YtgehhfncjoogiaaGreatDoor
