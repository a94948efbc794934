/-
  SpW1
-/
import Derived.Test.YtjnegjgpkboocaaGreatDoorWal17
import Derived.Deep.CutRange
/-
  The model's l3Wal, walked.
-/
namespace Go.Proofs.YtjnegjgpkboocaaGreatDoor
open Go.RowKit

theorem Tryz.infoRead : (Tryz.prog.info? 87).map (fun i => (i.zero, i.size, i.bytes)) = some (some (.agg #[.int .i64 0, .int .i64 0, .int .i64 0]), 3, 24) := by kernel_rfl
theorem Tryz.sizeLog2 : (Tryz.prog.info? 42).map (·.size) = some 4 := by kernel_rfl
theorem own_types {w : World} {B B' e e' s s' n n' : Nat} {v v' : Value} {xs xs' : List Value} (h : w.ownsRow B e s v n xs) (h' : w.ownsRow B' e' s' v' n' xs') (hne : e ≠ e') {k : Nat} (hk : v.ownBlock = some k) : v'.ownBlock ≠ some k := by
  intro hk'
  rcases h.2 with ⟨h1, -⟩ | ⟨g, cap, cur, h1, -, h2, -⟩
  · rw [h1] at hk; cases hk
  · rcases h'.2 with ⟨h3, -⟩ | ⟨g', cap', cur', h3, -, h4, -⟩
    · rw [h3] at hk'; cases hk'
    · rw [h1] at hk; cases hk; rw [h3] at hk'; cases hk'; rw [h2] at h4; have := Option.some.inj h4
      injection this with _ h5 _
      exact hne h5
theorem own1_kept {w w' : World} {B e s n : Nat} {v : Value} {xs : List Value} {row : Option Nat} (h : w.ownsRow B e s v n xs) (hg : w.grownBy w' row) (hne : ∀ k, v.ownBlock = some k → row ≠ some k) : w'.ownsRow B e s v n xs := by
  obtain ⟨hl', h1 | ⟨g', cap, cur, h1, hb', hg', h2⟩⟩ := h
  · exact ⟨hl', .inl h1⟩
  · exact ⟨hl', .inr ⟨g', cap, cur, h1, hb', (hg.block g' (Array.getElem?_eq_some_iff.1 hg').1 (fun hc => hne g' (by rw [h1]; rfl) hc.symm)).trans hg', h2⟩⟩
theorem grown_own2 {V Y Y' : World} {B e s n : Nat} {v : Value} {xs : List Value} (h : V.grownBy Y none) (hB : V.heap.size ≤ B) (ho : Y.ownsRow B e s v n xs) (hg : Y.grownBy Y' v.ownBlock) : V.grownBy Y' none := by
  rcases hv : v.ownBlock with _ | g
  · rw [hv] at hg; exact grownBy_trans h hg
  · rw [hv] at hg; exact grownBy_new h hg (Nat.le_trans hB (own1_base ho hv))
theorem consec_snoc {fs : List Pf} {y : Pf} (h : consec fs) (hy : ∀ x, fs.getLast? = some x → pnum y = pnum x + 1) : consec (fs ++ [y]) := by
  intro i x z hx hz
  rcases Nat.lt_trichotomy (i + 1) fs.length with h1 | h1 | h1
  · rw [List.getElem?_append_left (by omega)] at hx hz; exact h i x z hx hz
  · rw [List.getElem?_append_left (by omega)] at hx; rw [List.getElem?_append_right (by omega), show i + 1 - fs.length = 0 by omega] at hz
    simp at hz
    subst hz; refine hy x ?_; rw [List.getLast?_eq_getElem?, show fs.length - 1 = i by omega]; exact hx
  · rw [List.getElem?_append_right (by omega)] at hz; have := (List.getElem?_eq_some_iff.1 hz).1
    simp at this
    omega
theorem consec_no {fs rest : List Pf} {x y : Pf} (hx : fs.getLast? = some x) (hne : pnum y ≠ pnum x + 1) : ¬ consec (fs ++ y :: rest) := by
  intro h
  have hl : fs ≠ [] := by rintro rfl; cases hx
  have hpos : 0 < fs.length := List.length_pos_iff.2 hl; rw [List.getLast?_eq_getElem?] at hx; have h1 := h (fs.length - 1) x y (by rw [List.getElem?_append_left (by omega)]; exact hx) (by rw [show fs.length - 1 + 1 = fs.length by omega, List.getElem?_append_right (Nat.le_refl _)]; simp); exact hne h1
theorem scanL_recs : ∀ (k : Nat) (zs : List Nat), (∀ z ∈ zs, z < 256) → ∀ x ∈ (scanL k zs).1, x.1 < 256 ∧ x.2.length ≤ 8192
  | 0, _, _, x, hx => by simp [scanL] at hx
  | k + 1, zs, hz, x, hx => by
    rw [scanL] at hx
    split at hx
    · simp at hx
    · rename_i h
      have hok := fault_ok zs h; simp only [List.mem_cons] at hx
      rcases hx with rfl | hx
      · refine ⟨hz _ (Crc.getD_mem _ _ (by have := hok.1; omega)), ?_⟩
        have h9 : recN zs ≤ 8192 := Nat.le_of_not_lt fun h => hok.2.1 (.inl h)
        simp
        omega
      · exact scanL_recs k _ (fun z h => hz z (List.mem_of_mem_drop h)) x hx
theorem scan_recs {zs : List Nat} (hz : ∀ z ∈ zs, z < 256) : ∀ x ∈ (scan zs).1, x.1 < 256 ∧ x.2.length ≤ 8192 := scanL_recs _ zs hz
/-- a record's cells -/
theorem RecRow.cells {w : World} {base : Nat} {ra : Option Addr} {n rc : Nat} {R : List Rc} (h : RecRow w base (.slice ra n rc) R) {i : Nat} {r : Rc} (hi : R[i]? = some r) : ∃ G, ra = some ⟨G, 0, none⟩ ∧ base ≤ G ∧ w.cell? ⟨G, i * 2, none⟩ = some (.int .i64 (r.ty : Int)) ∧ w.cell? ⟨G, i * 2 + 1, none⟩ = some (.slice (some ⟨r.g, 0, none⟩) r.data.length r.cp) := by
  have h2 := flat2_get (fun r : Rc => Value.int .i64 (r.ty : Int)) (fun r : Rc => Value.slice (some ⟨r.g, 0, none⟩) r.data.length r.cp) R hi; obtain ⟨g1, c1, e1, b1, -, -, k1, -⟩ := own_at h.1 (i := i * 2) h2.1; obtain ⟨g2, c2, e2, -, -, -, k2, -⟩ := own_at h.1 (i := i * 2 + 1) h2.2; simp only [Value.slice.injEq] at e1 e2; obtain ⟨rfl, -, -⟩ := e1; simp only [Option.some.injEq, Addr.mk.injEq, and_true] at e2; obtain ⟨rfl, -, -⟩ := e2; exact ⟨g1, rfl, b1, k1, k2⟩
theorem keep_four {W : World} {b : Nat} {a c d e : Value} (k : Nat) (hk : k ≠ b) : ((((W.setCell ⟨b, 0, none⟩ a).setCell ⟨b, 1, none⟩ c).setCell ⟨b, 2, none⟩ d).setCell ⟨b, 3, none⟩ e).heap[k]? = W.heap[k]? :=
  (heap_setCell_other _ ⟨b, 3, none⟩ k _ hk).trans ((heap_setCell_other _ ⟨b, 2, none⟩ k _ hk).trans ((heap_setCell_other _ ⟨b, 1, none⟩ k _ hk).trans (heap_setCell_other _ ⟨b, 0, none⟩ k _ hk)))
theorem own1_keepT {W W' : World} {b B e s n : Nat} {v : Value} {xs : List Value} {cur : Array Value} {t : TypeId} {f : Nat × Nat} (h : W.ownsRow B e s v n xs) (hb : W.heap[b]? = some (.cells cur t f)) (hne : t ≠ e) (hk : ∀ k, k ≠ b → W'.heap[k]? = W.heap[k]?) : W'.ownsRow B e s v n xs := by
  obtain ⟨hl', h1 | ⟨g', cap, cur', h1, hb', hg', h2⟩⟩ := h
  · exact ⟨hl', .inl h1⟩
  · refine ⟨hl', .inr ⟨g', cap, cur', h1, hb', (hk g' ?_).trans hg', h2⟩⟩; rintro rfl; rw [hb] at hg'; have h9 := Option.some.inj hg'
    injection h9 with _ h8 _
    exact hne h8
theorem rec_keepT {W W' : World} {b base : Nat} {v : Value} {R : List Rc} {cur : Array Value} {t : TypeId} {f : Nat × Nat} (h : RecRow W base v R) (hb : W.heap[b]? = some (.cells cur t f)) (h1 : t ≠ 85) (h2 : t ≠ 5) (hk : ∀ k, k ≠ b → W'.heap[k]? = W.heap[k]?) : RecRow W' base v R := by
  refine ⟨own1_keepT h.1 hb h1 hk, fun r hr => ⟨(h.2.1 r hr).1, ?_⟩, h.2.2⟩; have ho := (h.2.1 r hr).2; refine ho.of_block (hk r.g ?_); rintro hc; obtain ⟨-, c9, h9, -⟩ := ho; rw [hc, hb] at h9; have h8 := Option.some.inj h9
  injection h8 with _ h7 _
  exact h2 h7
theorem own_nblk {W : World} {b B e s n : Nat} {v : Value} {xs : List Value} {cur : Array Value} {t : TypeId} {f : Nat × Nat} (h : W.ownsRow B e s v n xs) (hb : W.heap[b]? = some (.cells cur t f)) (hne : t ≠ e) : v.ownBlock ≠ some b := by
  intro hc
  rcases h.2 with ⟨h1, -⟩ | ⟨g', cap, cur', h1, hb', hg', -⟩
  · rw [h1] at hc; cases hc
  · rw [h1] at hc; cases hc; rw [hb] at hg'; have h9 := Option.some.inj hg'
    injection h9 with _ h8 _
    exact hne h8
theorem blk_own {W W' : World} {b B e s n : Nat} {v : Value} {xs : List Value} {cur : Array Value} {t : TypeId} {f : Nat × Nat} (hg : W.grownBy W' v.ownBlock) (h : W.ownsRow B e s v n xs) (hb : W.heap[b]? = some (.cells cur t f)) (hne : t ≠ e) : W'.heap[b]? = some (.cells cur t f) :=
  (hg.block b (Array.getElem?_eq_some_iff.1 hb).1 (fun hc => own_nblk h hb hne hc.symm)).trans hb
theorem slg_own {W W' : World} {B e s n : Nat} {v : Value} {xs : List Value} {es : List (Nat × List Nat)} {sv : Value} (hg : W.grownBy W' v.ownBlock) (h : W.ownsRow B e s v n xs) (h1 : e ≠ 47) (h2 : e ≠ 5) (hs : SLg W es sv) : SLg W' es sv :=
  slg_keep hs (fun _ _ _ _ ht hk => blk_own hg h hk (by rcases ht with rfl | rfl; exact fun hc => h1 hc.symm; exact fun hc => h2 hc.symm))
theorem sen_keep {w w' : World} {es : List (Nat × List Nat)} {ea : Option Addr} {ec : Nat} {E : List En} (h2 : SEn w es ea ec E) (hk : ∀ (k : Nat) (cur : Array Value) (t : TypeId) (f : Nat × Nat), t = 47 ∨ t = 5 → w.heap[k]? = some (Obj.cells cur t f) → w'.heap[k]? = some (Obj.cells cur t f)) : SEn w' es ea ec E := by
  refine ⟨?_, h2.tell, h2.cap, h2.nil, h2.sm⟩; obtain ⟨hl, hE | ⟨G, hG, hR⟩⟩ := h2.en
  · exact ⟨hl, .inl hE⟩
  · refine ⟨hl, .inr ⟨G, hG, hR.kept (fun k hk' => ?_)⟩⟩
    rcases hk' with rfl | hk'
    · obtain ⟨cur, h3, -⟩ := hR.row; rw [h3, hk _ _ _ _ (.inl rfl) h3]
    · obtain ⟨e, he, rfl⟩ := List.mem_map.1 hk'; obtain ⟨-, cur, h3, -⟩ := (hR.own e he).1; rw [h3, hk _ _ _ _ (.inr rfl) h3]
theorem rsteps_at {num : Nat} {fst : Bool} {p q : Pl} {recs : List (Nat × List Nat)} {j ty : Nat} {d : List Nat} (hj : recs[j]? = some (ty, d)) (h : rsteps num fst p true (recs.take j) = some q) : rsteps num fst p true (recs.take (j + 1)) = wstep q num fst (decide (j = 0)) ty d ∧ (wstep q num fst (decide (j = 0)) ty d = none → rsteps num fst p true recs = none) := by
  have ht : recs.take (j + 1) = recs.take j ++ [(ty, d)] := by rw [List.take_add_one, hj]; rfl
  have he : (recs.take j = []) = (j = 0) := by
    have h9 := (List.getElem?_eq_some_iff.1 hj).1; refine propext ⟨fun h8 => ?_, fun h8 => by rw [h8]; rfl⟩; have := congrArg List.length h8; rw [List.length_take, List.length_nil] at this
    omega
  have h1 := rsteps_more (ty := ty) (d := d) h; rw [← ht] at h1; have h2 : decide (recs.take j = []) = decide (j = 0) := decide_eq_decide.2 (by rw [he]); rw [h2] at h1; exact ⟨h1, fun hn => rsteps_none (List.take_prefix (j + 1) recs) (h1.trans hn)⟩
theorem step_append1 {w : World} {ops : Array Oper} {o : Oper} {a : Act} {K : Act → World → Prop} {Q : Exit → Act → World → Prop} {E : Prop} (hgd : o.guard = none) (s x : Operand) (t e : TypeId) (ho : o.op = .call { callee := .builtin .append, args := #[s, x], argTypes := #[t, t] })
    (ht : Tryz.prog.underlying t = some (.slice e)) {z : Value} {bytes : Nat} (hinf : (Tryz.prog.info? e).map (fun i => (i.zero, i.size, i.bytes)) = some (some z, 1, bytes)) (hzc : z.cells.size = 1)
    {B : Nat} {v : Value} {n : Nat} {xs : List Value} (hs : a.eval s = v) (hown : w.ownsRow B e 1 v n xs) {ad : Addr} {c : Nat} {news : List Value} (hx : a.eval x = .slice (some ad) 1 c) (hnl : news.length = 1) (hnew : ∀ j u, news[j]? = some u → w.cell? (ad.add j) = some u) (hone : ∀ u ∈ news, u.oneCell' = true)
    (hby : bytes ≤ 32) (hn : n ≤ 1048576) (hB : B ≤ w.heap.size)
    (h : ∀ v' w', w'.ownsRow B e 1 v' (n + 1) (xs ++ news) → w.grownBy w' v.ownBlock → K (a.put o.dst v') w') : if Region.wanted o (yielded ops a.tmps) = true then Oper.wp Tryz.prog o a w K Q else E := by
  have hw : Region.wanted o (yielded ops a.tmps) = true := by simp [Region.wanted, hgd]
  rw [if_pos hw]; obtain ⟨i0, hi, hz0, hz1, hz2⟩ := info_parts hinf; obtain ⟨v', w', hrun, h1, h2, -⟩ := run_append_own (P := Tryz.prog) w B t o.type e i0 z 1 bytes ht hi hz0 hz1 hz2 hzc (by decide) v n xs hown ad 1 c news (by simpa using hnl) hnew hone (by unfold maxLen; omega) (Nat.le_trans (Nat.mul_le_mul_left (n + 1) hby) (by omega)) hB
  unfold Oper.wp
  simp [execOp, ho, resolve, invoke, builtin, hs, hx, hrun, Result.andThen]
  exact h v' w' h1 h2
/-- what l3Wal leaves -/
def WalOut (w : World) (F : List Fi) (e : Ending) (w' : World) : Prop :=
  w.grownBy w' none ∧ ∃ (vw : List Value) (lb lt : Nat) (ls : Value) (ok : Bool) (sg : Value), e = .returned (.tuple #[.agg vw.toArray, .agg #[.int .i64 (lb : Int), .int .i64 (lt : Int), ls, .bool ok], sg]) ∧ (∃ a b c, ls = .slice a b c) ∧ (∃ a b c, sg = .slice a b c) ∧
    ((walP (F.map Fi.pf) = none ∧ vw = [.int .i64 8, .int .i64 0, .int .i64 0, .slice none 0 0, .slice none 0 0, .int .i64 0, .bool false])
     ∨ ∃ p ns kp dr ea ec E sa sc, walP (F.map Fi.pf) = some (p, ns, kp, dr) ∧ vw = [.int .i64 0, .int .i64 (p.base : Int), .int .i64 (p.bt : Int), .slice ea p.es.length ec, .slice sa ns.length sc, .int .i64 (kp : Int), .bool dr] ∧ SEn w' p.es ea ec E ∧ InS w' sa ns.length (ns.map (fun n : Nat => (n : Int))) ∧ PlOk p ∧ (∀ ad : Addr, ea = some ad → w.heap.size ≤ ad.block) ∧ (∀ ad : Addr, sa = some ad → w.heap.size ≤ ad.block))
theorem results_l3w {fn : Func} {t u v : Tmp} {w : World} {g g' : Nat} {vs ls : List Value} {tmps : Array Value} (h : fn.results = #[.cell t 27, .cell u 42, .tmp v]) (ht : tmps.getD t undef = .pointer (some ⟨g, 0, none⟩)) (hu : tmps.getD u undef = .pointer (some ⟨g', 0, none⟩)) (hg : w.heap[g]? = some (.cells vs.toArray 27 (0, 0))) (hl : vs.length = 7) (hg' : w.heap[g']? = some (.cells ls.toArray 42 (0, 0))) (hl' : ls.length = 4) :
    (results fn tmps).run Tryz.prog w = .ok (.tuple #[.agg vs.toArray, .agg ls.toArray, tmps.getD v undef]) w := by
  have h1 := run_loadVar_mid (P := Tryz.prog) w g 0 27 vs _ (range_blk hg) Tryz.underlying27 rfl (by rw [hl]; exact Tryz.sizeView); have h2 := run_loadVar_mid (P := Tryz.prog) w g' 0 42 ls _ (range_blk hg') Tryz.underlying42 rfl (by rw [hl']; exact Tryz.sizeLog2)
  have ht' : tmps[t]?.getD undef = .pointer (some ⟨g, 0, none⟩) := by simpa using ht
  have hu' : tmps[u]?.getD undef = .pointer (some ⟨g', 0, none⟩) := by simpa using hu
  simp [results, h, ht', hu', h1, h2, Result.andThen, asAddr]
set_option maxRecDepth 100000 in
set_option maxHeartbeats 16000000 in
theorem l3Wal_any (F : List Fi) (a : Option Addr) (p : Nat) (w : World) (h : ImgAt w a F) (hl : F.length ≤ 512) :
    Calls Tryz.prog 15 #[.slice a F.length p] w (WalOut w F) := by
  obtain ⟨n0, hn0⟩ : ∃ n, F.length = n := ⟨_, rfl⟩; have HH : Hid (ImgAt w a F ∧ F.length = n0 ∧ F.length ≤ 512) := ⟨h, hn0, hl⟩
  have hn5 : n0 ≤ 512 := by omega
  rw [hn0]; clear h hn0 hl
  go_enter Tryz.func15, Tryz.ntmps15
  go_wp2; have hG0 : w.grownBy (((w.alloc (.cells #[.int .i64 0, .int .i64 0, .int .i64 0, .slice none 0 0, .slice none 0 0, .int .i64 0, .bool false] 27)).alloc (.cells #[.int .i64 0, .int .i64 0, .slice none 0 0, .bool false] 42))) none := grownBy_alloc (World.grownBy_alloc w _ _) _; have hb0 : (((w.alloc (.cells #[.int .i64 0, .int .i64 0, .int .i64 0, .slice none 0 0, .slice none 0 0, .int .i64 0, .bool false] 27)).alloc (.cells #[.int .i64 0, .int .i64 0, .slice none 0 0, .bool false] 42))).heap[w.heap.size]? = some (.cells #[.int .i64 0, .int .i64 0, .int .i64 0, .slice none 0 0, .slice none 0 0, .int .i64 0, .bool false] 27 (0, 0)) := grown_blk (World.grownBy_alloc _ _ _) (heap_alloc_new w _); have hb1 : (((w.alloc (.cells #[.int .i64 0, .int .i64 0, .int .i64 0, .slice none 0 0, .slice none 0 0, .int .i64 0, .bool false] 27)).alloc (.cells #[.int .i64 0, .int .i64 0, .slice none 0 0, .bool false] 42))).heap[w.heap.size + 1]? = some (.cells #[.int .i64 0, .int .i64 0, .slice none 0 0, .bool false] 42 (0, 0)) := heap_two w _ _
  have hs0 : (((w.alloc (.cells #[.int .i64 0, .int .i64 0, .int .i64 0, .slice none 0 0, .slice none 0 0, .int .i64 0, .bool false] 27)).alloc (.cells #[.int .i64 0, .int .i64 0, .slice none 0 0, .bool false] 42))).heap.size = w.heap.size + 1 + 1 := by simp
  have hO1 : ((((w.alloc (.cells #[.int .i64 0, .int .i64 0, .int .i64 0, .slice none 0 0, .slice none 0 0, .int .i64 0, .bool false] 27)).alloc (.cells #[.int .i64 0, .int .i64 0, .slice none 0 0, .bool false] 42))).alloc (.cells #[] 48)).ownsRow (w.heap.size + 1 + 1) 48 2 (.slice (some ⟨w.heap.size + 1 + 1, 0, none⟩) 0 0) 0 [] := by
    have h9 := World.ownsRow_made (base := w.heap.size + 1 + 1) (e := 48) (size := 2) (((w.alloc (.cells #[.int .i64 0, .int .i64 0, .int .i64 0, .slice none 0 0, .slice none 0 0, .int .i64 0, .bool false] 27)).alloc (.cells #[.int .i64 0, .int .i64 0, .slice none 0 0, .bool false] 42))) #[] 0 (Nat.le_of_eq hs0.symm) (Nat.zero_le _) rfl; rw [hs0] at h9; exact h9
  have hO2 : (((((w.alloc (.cells #[.int .i64 0, .int .i64 0, .int .i64 0, .slice none 0 0, .slice none 0 0, .int .i64 0, .bool false] 27)).alloc (.cells #[.int .i64 0, .int .i64 0, .slice none 0 0, .bool false] 42))).alloc (.cells #[] 48)).alloc (.cells #[] 3)).ownsRow (w.heap.size + 1 + 1) 3 1 (.slice (some ⟨w.heap.size + 1 + 1 + 1, 0, none⟩) 0 0) 0 [] := by
    have h9 := World.ownsRow_made (base := w.heap.size + 1 + 1) (e := 3) (size := 1) ((((w.alloc (.cells #[.int .i64 0, .int .i64 0, .int .i64 0, .slice none 0 0, .slice none 0 0, .int .i64 0, .bool false] 27)).alloc (.cells #[.int .i64 0, .int .i64 0, .slice none 0 0, .bool false] 42))).alloc (.cells #[] 48)) #[] 0 (by simp) (Nat.zero_le _) rfl
    simpa using h9
  have hO1' := own1_grown hO1 (World.grownBy_alloc _ (.cells #[] 3) none); have hg2 : (((w.alloc (.cells #[.int .i64 0, .int .i64 0, .int .i64 0, .slice none 0 0, .slice none 0 0, .int .i64 0, .bool false] 27)).alloc (.cells #[.int .i64 0, .int .i64 0, .slice none 0 0, .bool false] 42))).grownBy (((((w.alloc (.cells #[.int .i64 0, .int .i64 0, .int .i64 0, .slice none 0 0, .slice none 0 0, .int .i64 0, .bool false] 27)).alloc (.cells #[.int .i64 0, .int .i64 0, .slice none 0 0, .bool false] 42))).alloc (.cells #[] 48)).alloc (.cells #[] 3)) none := grownBy_alloc (World.grownBy_alloc _ _ _) _; have HB : Hid ((((((w.alloc (.cells #[.int .i64 0, .int .i64 0, .int .i64 0, .slice none 0 0, .slice none 0 0, .int .i64 0, .bool false] 27)).alloc (.cells #[.int .i64 0, .int .i64 0, .slice none 0 0, .bool false] 42))).alloc (.cells #[] 48)).alloc (.cells #[] 3)).heap[w.heap.size]? = some (.cells #[.int .i64 0, .int .i64 0, .int .i64 0, .slice none 0 0, .slice none 0 0, .int .i64 0, .bool false] 27 (0, 0)) ∧ (((((w.alloc (.cells #[.int .i64 0, .int .i64 0, .int .i64 0, .slice none 0 0, .slice none 0 0, .int .i64 0, .bool false] 27)).alloc (.cells #[.int .i64 0, .int .i64 0, .slice none 0 0, .bool false] 42))).alloc (.cells #[] 48)).alloc (.cells #[] 3)).heap[w.heap.size + 1]? = some (.cells #[.int .i64 0, .int .i64 0, .slice none 0 0, .bool false] 42 (0, 0)) ∧ w.grownBy (((((w.alloc (.cells #[.int .i64 0, .int .i64 0, .int .i64 0, .slice none 0 0, .slice none 0 0, .int .i64 0, .bool false] 27)).alloc (.cells #[.int .i64 0, .int .i64 0, .slice none 0 0, .bool false] 42))).alloc (.cells #[] 48)).alloc (.cells #[] 3)) none) := ⟨grown_blk hg2 hb0, grown_blk hg2 hb1, grownBy_trans hG0 hg2⟩; clear hG0 hb0 hb1 hs0 hO1 hg2; generalize ((((w.alloc (.cells #[.int .i64 0, .int .i64 0, .int .i64 0, .slice none 0 0, .slice none 0 0, .int .i64 0, .bool false] 27)).alloc (.cells #[.int .i64 0, .int .i64 0, .slice none 0 0, .bool false] 42))).alloc (.cells #[] 48)).alloc (.cells #[] 3) = W0 at hO1' hO2 HB ⊢
  have hltW : w.heap.size + 1 + 1 + 1 < W0.heap.size := by
    rcases hO2.2 with ⟨h9, -⟩ | ⟨g, cap, cur, h9, -, h8, -⟩
    · cases h9
    · simp only [Value.slice.injEq, Option.some.injEq, Addr.mk.injEq, and_true, true_and] at h9; rw [h9.1]; exact (Array.getElem?_eq_some_iff.1 h8).1
  go_loopw [5, 6, 32] (fun fv nv i wr => ∃ (k ga ca gb cb : Nat), fv = .slice (some ⟨ga, 0, none⟩) (segF (F.take k)).length ca ∧ nv = .slice (some ⟨gb, 0, none⟩) (segF (F.take k)).length cb ∧ k ≤ n0 ∧ i = .int .i64 (k : Int) ∧ wr.ownsRow (w.heap.size + 1 + 1) 48 2 fv (segF (F.take k)).length ((segF (F.take k)).flatMap Fi.cells) ∧ wr.ownsRow (w.heap.size + 1 + 1) 3 1 nv (segF (F.take k)).length (ivs ((segF (F.take k)).map Fi.num)) ∧ wr.heap[w.heap.size]? = some (.cells #[.int .i64 0, .int .i64 0, .int .i64 0, .slice none 0 0, .slice none 0 0, .int .i64 0, .bool false] 27 (0, 0)) ∧ wr.heap[w.heap.size + 1]? = some (.cells #[.int .i64 0, .int .i64 0, .slice none 0 0, .bool false] 42 (0, 0)) ∧ w.grownBy wr none ∧ consec ((segF (F.take k)).map Fi.pf)) (fun _ _ i _ => n0 - (intOf i).toNat)
  case atStart => exact ⟨0, _, _, _, _, rfl, rfl, Nat.zero_le _, rfl, hO1', hO2, HB.out.1, HB.out.2.1, HB.out.2.2, fun i x y h => by simp [segF] at h⟩
  case round =>
    obtain ⟨k, ga, ca, gb, cb, rfl, rfl, hk, rfl, hof, hon, hx0, hx1, hGr, hcs⟩ := hrel; have hszr := hGr.size; have HR : Hid (wr.ownsRow (w.heap.size + 1 + 1) 48 2 (.slice (some ⟨ga, 0, none⟩) (segF (F.take k)).length ca) (segF (F.take k)).length ((segF (F.take k)).flatMap Fi.cells) ∧ wr.ownsRow (w.heap.size + 1 + 1) 3 1 (.slice (some ⟨gb, 0, none⟩) (segF (F.take k)).length cb) (segF (F.take k)).length (ivs ((segF (F.take k)).map Fi.num)) ∧ wr.heap[w.heap.size]? = some (.cells #[.int .i64 0, .int .i64 0, .int .i64 0, .slice none 0 0, .slice none 0 0, .int .i64 0, .bool false] 27 (0, 0)) ∧ wr.heap[w.heap.size + 1]? = some (.cells #[.int .i64 0, .int .i64 0, .slice none 0 0, .bool false] 42 (0, 0)) ∧ w.grownBy wr none ∧ consec ((segF (F.take k)).map Fi.pf)) := ⟨hof, hon, hx0, hx1, hGr, hcs⟩; have hx1l : w.heap.size + 1 < wr.heap.size := (Array.getElem?_eq_some_iff.1 hx1).1; clear hof hon hx0 hx1 hGr hcs hO1' hO2
    by_cases hlt : k < n0
    · obtain ⟨f, hf⟩ : ∃ f, F[k]? = some f := ⟨_, List.getElem?_eq_getElem (by rw [HH.out.2.1]; exact hlt)⟩; have hIm := HH.out.1.grown0 HR.out.2.2.2.2.1; obtain ⟨b, off, rfl, q0, q1⟩ := hIm.cells k f hf; have hsz := (hIm.data f (List.mem_of_getElem? hf)).2.2.2.1
      have HTK : Hid (F.take (k + 1) = F.take k ++ [f]) := by
        show _ = _
        rw [List.take_add_one, hf]
        rfl
      have hkI : (k : Int) < (n0 : Int) := by omega
      have HSEG : Hid (∀ X : World, Calls Tryz.prog 31 #[.string f.s] X fun e w' => e = .returned (.int .i64 (f.num : Int)) ∧ w' = X) := fun X => by rw [← f.num_eq]; exact specSeg_any f.s X hsz
      have hnb : f.num ≤ 99999999 := numLe f; obtain ⟨fs, hfs⟩ : ∃ x, f.s = x := ⟨_, rfl⟩; obtain ⟨fb, hfb⟩ : ∃ x, f.b = x := ⟨_, rfl⟩; obtain ⟨fp, hfp⟩ : ∃ x, f.p = x := ⟨_, rfl⟩; obtain ⟨fl, hfl⟩ : ∃ x, f.d.length = x := ⟨_, rfl⟩; obtain ⟨fn, hfn⟩ : ∃ x, f.num = x := ⟨_, rfl⟩; have HE : Hid (f.s = fs ∧ f.b = fb ∧ f.p = fp ∧ f.d.length = fl ∧ f.num = fn) := ⟨hfs, hfb, hfp, hfl, hfn⟩; rw [hfs, hfn] at HSEG; rw [hfs] at q0; rw [hfb, hfp, hfl] at q1; rw [hfn] at hnb; obtain ⟨m, hm⟩ : ∃ m, (segF (F.take k)).length = m := ⟨_, rfl⟩
      have hsl : m ≤ 512 := by have h9 := segF_len (F.take k); rw [hm] at h9; simp at h9; omega
      have HM : Hid ((segF (F.take k)).length = m) := hm; rw [hm] at HR ⊢; clear hIm hf hfs hfb hfp hfl hfn hsz hm; go_wp2_with fail; refine (HSEG.out _).mono ?_; rintro e w1 ⟨rfl, hw1⟩; subst hw1; have hA := World.grownBy_alloc wr (.cells #[.string fs, .slice (some ⟨fb, 0, none⟩) fl fp] 48) none; have hnew : (wr.alloc (.cells #[.string fs, .slice (some ⟨fb, 0, none⟩) fl fp] 48)).heap[wr.heap.size]? = some (.cells #[.string fs, .slice (some ⟨fb, 0, none⟩) fl fp] 48 (0, 0)) := heap_alloc_new wr _; have hofA := own1_grown HR.out.1 hA; have honA := own1_grown HR.out.2.1 hA; have hbA0 := grown_blk hA HR.out.2.2.1; have hbA1 := grown_blk hA HR.out.2.2.2.1; have hGA := grownBy_trans HR.out.2.2.2.2.1 hA; generalize wr.alloc (.cells #[.string fs, .slice (some ⟨fb, 0, none⟩) fl fp] 48) = W at hA hnew hofA honA hbA0 hbA1 hGA ⊢; have hWl : wr.heap.size < W.heap.size := (Array.getElem?_eq_some_iff.1 hnew).1; have HW : Hid (W.ownsRow (w.heap.size + 1 + 1) 48 2 (.slice (some ⟨ga, 0, none⟩) m ca) m ((segF (F.take k)).flatMap Fi.cells) ∧ W.ownsRow (w.heap.size + 1 + 1) 3 1 (.slice (some ⟨gb, 0, none⟩) m cb) m (ivs ((segF (F.take k)).map Fi.num)) ∧ W.heap[w.heap.size]? = some (.cells #[.int .i64 0, .int .i64 0, .int .i64 0, .slice none 0 0, .slice none 0 0, .int .i64 0, .bool false] 27 (0, 0)) ∧ W.heap[w.heap.size + 1]? = some (.cells #[.int .i64 0, .int .i64 0, .slice none 0 0, .bool false] 42 (0, 0)) ∧ w.grownBy W none) := ⟨hofA, honA, hbA0, hbA1, hGA⟩; have r0 : W.cell? ⟨wr.heap.size, 0, none⟩ = some (.string fs) := (cell_of_row _ _ _ _ _ _ hnew).trans rfl; have r1 : W.cell? ⟨wr.heap.size, 1, none⟩ = some (.slice (some ⟨fb, 0, none⟩) fl fp) := (cell_of_row _ _ _ _ _ _ hnew).trans rfl; clear hofA honA hbA0 hbA1 hGA hA hnew HSEG q0 q1; have v1 : IntKind.i64.wrap ((k : Int) + 1) = (k : Int) + 1 := IntWalk.i64_in _ (by omega)
      by_cases hp : 0 < fn
      · have hp' : (0 : Int) < (fn : Int) := by omega
        obtain ⟨i0, hi, hz0, hz1, hz2'⟩ := info_parts Tryz.infoFile; obtain ⟨j0, hj, hy0, hy1, hy2'⟩ := info_parts Tryz.infoIntW
        go_wp2_with (at_builtin; refine wpList_append_own _ rfl _ _ 29 rfl (w.heap.size + 1 + 1) 48 i0 (.agg #[.string ⟨#[]⟩, .slice none 0 0]) 2 40 Tryz.underlying29 hi hz0 hz1 hz2' rfl (by decide) (.slice (some ⟨ga, 0, none⟩) m ca) m ((segF (F.take k)).flatMap Fi.cells) rfl (by exact own1_grown HW.out.1 (World.grownBy_alloc _ _ _)) ⟨W.heap.size, 0, none⟩ 1 1 [.string fs, .slice (some ⟨fb, 0, none⟩) fl fp] rfl rfl ?c1 ?c2 ?c3 ?c4 ?c5 ?_)
        case c1 =>
          intro j u hj; have hX : (W.alloc (.cells #[.string fs, .slice (some ⟨fb, 0, none⟩) fl fp] 48)).heap[W.heap.size]? = some (.cells #[.string fs, .slice (some ⟨fb, 0, none⟩) fl fp] 48 (0, 0)) := heap_alloc_new W _
          match j, hj with
          | 0, hj => simp at hj; subst hj; exact (cell_of_row _ _ _ _ _ _ hX).trans rfl
          | 1, hj => simp at hj; subst hj; exact (cell_of_row _ _ _ _ _ _ hX).trans rfl
        case c2 => intro u hu; simp at hu; rcases hu with rfl | rfl <;> rfl
        case c3 => unfold maxLen; omega
        case c4 => omega
        case c5 => simp; omega
        intro v' w4 hown' hgrow _; obtain ⟨ga', ca', rfl⟩ := own1_succ hown'; have hgaB := own1_base HW.out.1 (g := ga) rfl; have hgA := World.grownBy_alloc W (.cells #[.string fs, .slice (some ⟨fb, 0, none⟩) fl fp] 48) none; have hoA := own1_grown HW.out.1 hgA; have hnA := own1_grown HW.out.2.1 hgA; have hn4 := own1_kept hnA hgrow (fun q hq hc => own_types hoA hnA (by decide) (k := q) hc hq)
        have hk4 : ∀ q, q < w.heap.size + 1 + 1 → w4.heap[q]? = W.heap[q]? := fun q hq => (hgrow.block q (by simp; omega) (by simp [Value.ownBlock]; omega)).trans (Below.heap_alloc _ _ _ (by omega))
        have H4 : Hid (w4.ownsRow (w.heap.size + 1 + 1) 48 2 (.slice (some ⟨ga', 0, none⟩) (m + 1) ca') (m + 1) ((segF (F.take k)).flatMap Fi.cells ++ [.string fs, .slice (some ⟨fb, 0, none⟩) fl fp]) ∧ w4.ownsRow (w.heap.size + 1 + 1) 3 1 (.slice (some ⟨gb, 0, none⟩) m cb) m (ivs ((segF (F.take k)).map Fi.num)) ∧ w4.heap[w.heap.size]? = some (.cells #[.int .i64 0, .int .i64 0, .int .i64 0, .slice none 0 0, .slice none 0 0, .int .i64 0, .bool false] 27 (0, 0)) ∧ w4.heap[w.heap.size + 1]? = some (.cells #[.int .i64 0, .int .i64 0, .slice none 0 0, .bool false] 42 (0, 0)) ∧ w.grownBy w4 none) := ⟨hown', hn4, (hk4 _ (by omega)).trans HW.out.2.2.1, (hk4 _ (by omega)).trans HW.out.2.2.2.1, grown_own2 (grownBy_trans HW.out.2.2.2.2 hgA) (by omega) hoA hgrow⟩; have hs4 := H4.out.2.2.2.2.size; have hx14 : w.heap.size + 1 < w4.heap.size := (Array.getElem?_eq_some_iff.1 H4.out.2.2.2.1).1; clear hown' hgrow hn4 hk4 hgA hoA hnA r0 r1
        go_wp2_with (at_builtin; refine wpList_append_own _ rfl _ _ 25 rfl (w.heap.size + 1 + 1) 3 j0 (.int .i64 0) 1 8 Tryz.underlying25 hj hy0 hy1 hy2' rfl (by decide) (.slice (some ⟨gb, 0, none⟩) m cb) m (ivs ((segF (F.take k)).map Fi.num)) rfl (by exact own1_grown H4.out.2.1 (World.grownBy_alloc _ _ _)) ⟨w4.heap.size, 0, none⟩ 1 1 [.int .i64 (fn : Int)] rfl rfl ?e1 ?e2 ?e3 ?e4 ?e5 ?_)
        case e1 =>
          intro j u hj; have hX : (w4.alloc (.cells #[.int .i64 (fn : Int)] 3)).heap[w4.heap.size]? = some (.cells #[.int .i64 (fn : Int)] 3 (0, 0)) := heap_alloc_new w4 _
          match j, hj with
          | 0, hj => simp at hj; subst hj; exact (cell_of_row _ _ _ _ _ _ hX).trans rfl
        case e2 => intro u hu; simp at hu; subst hu; rfl
        case e3 => unfold maxLen; omega
        case e4 => omega
        case e5 => simp; omega
        intro v' w5 hown' hgrow _; obtain ⟨gb', cb', rfl⟩ := own1_succ hown'; have hgbB := own1_base H4.out.2.1 (g := gb) rfl; have hgA := World.grownBy_alloc w4 (.cells #[.int .i64 (fn : Int)] 3) none; have hoA := own1_grown H4.out.1 hgA; have hnA := own1_grown H4.out.2.1 hgA; have ho5 := own1_kept hoA hgrow (fun q hq hc => own_types hoA hnA (by decide) (k := q) hq hc)
        have hk5 : ∀ q, q < w.heap.size + 1 + 1 → w5.heap[q]? = w4.heap[q]? := fun q hq => (hgrow.block q (by simp; omega) (by simp [Value.ownBlock]; omega)).trans (Below.heap_alloc _ _ _ (by omega))
        have H5 : Hid (w5.ownsRow (w.heap.size + 1 + 1) 48 2 (.slice (some ⟨ga', 0, none⟩) (m + 1) ca') (m + 1) ((segF (F.take k)).flatMap Fi.cells ++ [.string fs, .slice (some ⟨fb, 0, none⟩) fl fp]) ∧ w5.ownsRow (w.heap.size + 1 + 1) 3 1 (.slice (some ⟨gb', 0, none⟩) (m + 1) cb') (m + 1) (ivs ((segF (F.take k)).map Fi.num) ++ [.int .i64 (fn : Int)]) ∧ w5.heap[w.heap.size]? = some (.cells #[.int .i64 0, .int .i64 0, .int .i64 0, .slice none 0 0, .slice none 0 0, .int .i64 0, .bool false] 27 (0, 0)) ∧ w5.heap[w.heap.size + 1]? = some (.cells #[.int .i64 0, .int .i64 0, .slice none 0 0, .bool false] 42 (0, 0)) ∧ w.grownBy w5 none) := ⟨ho5, hown', (hk5 _ (by omega)).trans H4.out.2.2.1, (hk5 _ (by omega)).trans H4.out.2.2.2.1, grown_own2 (grownBy_trans H4.out.2.2.2.2 hgA) (by omega) hnA hgrow⟩; clear hown' hgrow ho5 hk5 hgA hoA hnA
        have e9 : segF (F.take (k + 1)) = segF (F.take k) ++ [f] := by rw [HTK.out, segF_snoc, if_pos (by rw [HE.out.2.2.2.2]; exact hp)]
        have HGO : Hid ((∀ x, ((segF (F.take k)).map Fi.pf).getLast? = some x → fn = pnum x + 1) → ∃ (k' ga cA gb cB : Nat), k' = k + 1 ∧ Value.slice (some ⟨ga', 0, none⟩) (m + 1) ca' = .slice (some ⟨ga, 0, none⟩) (segF (F.take k')).length cA ∧ Value.slice (some ⟨gb', 0, none⟩) (m + 1) cb' = .slice (some ⟨gb, 0, none⟩) (segF (F.take k')).length cB ∧ w5.ownsRow (w.heap.size + 1 + 1) 48 2 (.slice (some ⟨ga', 0, none⟩) (m + 1) ca') (segF (F.take k')).length ((segF (F.take k')).flatMap Fi.cells) ∧ w5.ownsRow (w.heap.size + 1 + 1) 3 1 (.slice (some ⟨gb', 0, none⟩) (m + 1) cb') (segF (F.take k')).length (ivs ((segF (F.take k')).map Fi.num)) ∧ consec ((segF (F.take k')).map Fi.pf)) := fun hcon => by
          obtain ⟨e1, e2, e3, e4, e5⟩ := HE.out; refine ⟨k + 1, ga', ca', gb', cb', rfl, by rw [e9]; simp [HM.out], by rw [e9]; simp [HM.out], ?_, ?_, ?_⟩
          · rw [e9]; simp only [List.length_append, List.length_cons, List.length_nil, HM.out, List.flatMap_append, List.flatMap_cons, List.flatMap_nil, List.append_nil, Fi.cells, e1, e2, e3, e4]; exact H5.out.1
          · rw [e9]; simp only [List.length_append, List.length_cons, List.length_nil, HM.out, List.map_append, List.map_cons, List.map_nil, ivs, e5]; exact H5.out.2.1
          · rw [e9, List.map_append]; refine consec_snoc HR.out.2.2.2.2.2 (fun x hx => ?_); rw [← hcon x hx, ← e5]
            rfl
        have hx0c : w5.heap[w.heap.size]? = some (.cells #[.int .i64 0, .int .i64 0, .int .i64 0, .slice none 0 0, .slice none 0 0, .int .i64 0, .bool false] 27 (0, 0)) := H5.out.2.2.1; clear e9
        rcases Classical.em (m = 0) with hm0 | hm0
        · have d0 : ¬ (1 : Int) < ((m + 1 : Nat) : Int) := by omega
          have d0' : ¬ (1 : Int) < (m : Int) + 1 := by omega
          have HF := HGO.out (fun x hx => by
            have h9 := HM.out; rw [hm0] at h9; rw [List.eq_nil_of_length_eq_zero h9] at hx
            cases hx)
          have HF' : Hid _ := HF; clear HF HGO hm0; go_wp2; go_roundw
          case rel =>
            obtain ⟨k', ga9, ca9, gb9, cb9, rfl, f1, f2, f3, f4, f5⟩ := HF'.out; exact ⟨k + 1, ga9, ca9, gb9, cb9, f1, f2, hlt, by go_num, f3, f4, H5.out.2.2.1, H5.out.2.2.2.1, H5.out.2.2.2.2, f5⟩
          case measure => simp [intOf]; omega
        · have d0 : (1 : Int) < ((m + 1 : Nat) : Int) := by omega
          have d0' : (1 : Int) < (m : Int) + 1 := by omega
          obtain ⟨m', rfl⟩ : ∃ m', m = m' + 1 := ⟨m - 1, by omega⟩; obtain ⟨f1, hf1⟩ : ∃ f1, (segF (F.take k))[m']? = some f1 := ⟨_, List.getElem?_eq_getElem (by rw [HM.out]; omega)⟩; obtain ⟨pn, hpn⟩ : ∃ x, f1.num = x := ⟨_, rfl⟩
          have hpb : pn ≤ 99999999 := by rw [← hpn]; exact numLe f1
          have HLS : Hid (((segF (F.take k)).map Fi.pf).getLast? = some f1.pf ∧ pnum f1.pf = pn) := by
            refine ⟨?_, hpn⟩; rw [List.getLast?_eq_getElem?, List.length_map, HM.out]
            simp [hf1]
          have hgb5 : w5.cell? ⟨gb', m', none⟩ = some (.int .i64 (pn : Int)) := own1_at H5.out.2.1 (i := m') (by
            rw [List.getElem?_append_left (by simp [ivs, HM.out])]
            simp [ivs, hf1, hpn])
          have v2 : IntKind.i64.wrap ((m' : Int) + 1 + 1 - 2) = (m' : Int) := by rw [IntWalk.i64_in _ (by omega)]; omega
          have v3 : IntKind.i64.wrap ((pn : Int) + 1) = (pn : Int) + 1 := IntWalk.i64_in _ (by omega)
          have hidx : (m' : Int) < (m' : Int) + 1 + 1 := by omega
          clear hf1 hpn hm0
          rcases Classical.em (fn = pn + 1) with hq | hq
          · have dq : ((fn : Int) != (pn : Int) + 1) = false := by simp; omega
            have HF := HGO.out (fun x hx => by
              rw [HLS.out.1] at hx
              cases hx
              rw [HLS.out.2]
              exact hq)
            have HF' : Hid _ := HF; clear HF HGO hq; go_wp2; go_roundw
            case rel =>
              obtain ⟨k', ga9, ca9, gb9, cb9, rfl, f1, f2, f3, f4, f5⟩ := HF'.out; exact ⟨k + 1, ga9, ca9, gb9, cb9, f1, f2, hlt, by go_num, f3, f4, H5.out.2.2.1, H5.out.2.2.2.1, H5.out.2.2.2.2, f5⟩
            case measure => simp [intOf]; omega
          · have dq : ((fn : Int) != (pn : Int) + 1) = true := by simp; omega
            have HNO : Hid (walP (F.map Fi.pf) = none) := by
              show _ = _
              rw [walP, if_neg]; intro hc; rw [← segF_map] at hc
              have hsplit : F = F.take k ++ f :: F.drop (k + 1) := by
                have h9 := (List.take_append_drop (k + 1) F).symm; rw [HTK.out] at h9
                simpa using h9
              have hseg : segF F = segF (F.take k) ++ f :: segF (F.drop (k + 1)) := by
                rw [show segF F = segF (F.take k ++ f :: F.drop (k + 1)) from congrArg segF hsplit]
                have h9 : 0 < f.num := by rw [HE.out.2.2.2.2]; exact hp
                simp [segF, h9]
              rw [hseg, List.map_append, List.map_cons] at hc; refine consec_no HLS.out.1 ?_ hc; rw [HLS.out.2]
              show f.num ≠ _
              rw [HE.out.2.2.2.2]; exact hq
            clear hq HGO; have HT0 : Hid (w5.there w.heap.size 0 7) := there_blk (vs := [.int .i64 0, .int .i64 0, .int .i64 0, .slice none 0 0, .slice none 0 0, .int .i64 0, .bool false]) H5.out.2.2.1 rfl
            go_wp2_with (first | (refine wpList_store_mid (by rfl) _ (.tmp 2) (.tmp 63) (by rfl) _ _ [.int .i64 8, .int .i64 0, .int .i64 0, .slice none 0 0, .slice none 0 0, .int .i64 0, .bool false].toArray (by rfl) (by rfl) ?sa ?sb ?sc ?sd; exact HT0.out; show _ = some 7; exact Tryz.sizeView; exact all_oneCell_toArray (List.all_eq_true.1 rfl); simp only [Act.put]; generalize hX : World.setCells w5 w.heap.size 0 _ = W6; have hb6 : W6.heap[w.heap.size]? = some (.cells [.int .i64 8, .int .i64 0, .int .i64 0, .slice none 0 0, .slice none 0 0, .int .i64 0, .bool false].toArray 27 (0, 0)) := (by rw [← hX]; exact setCells_all (cur := [.int .i64 0, .int .i64 0, .int .i64 0, .slice none 0 0, .slice none 0 0, .int .i64 0, .bool false]) H5.out.2.2.1 rfl); have hl6 : W6.heap[w.heap.size + 1]? = some (.cells #[.int .i64 0, .int .i64 0, .slice none 0 0, .bool false] 42 (0, 0)) := (by rw [← hX]; exact (setCells_oth _ _ (by omega) _ _ _).trans H5.out.2.2.2.1); have hG6 : w.grownBy W6 none := (by rw [← hX]; exact grownBy_setCellsN (Nat.le_refl _) _ _ _ H5.out.2.2.2.2); clear hX; have y0 : W6.cell? ⟨w.heap.size + 1, 0, none⟩ = some (.int .i64 0) := (cell_of_row _ _ _ _ _ _ hl6).trans rfl; have y1 : W6.cell? ⟨w.heap.size + 1, 1, none⟩ = some (.int .i64 0) := (cell_of_row _ _ _ _ _ _ hl6).trans rfl; have y2 : W6.cell? ⟨w.heap.size + 1, 2, none⟩ = some (.slice none 0 0) := (cell_of_row _ _ _ _ _ _ hl6).trans rfl; have y3 : W6.cell? ⟨w.heap.size + 1, 3, none⟩ = some (.bool false) := (cell_of_row _ _ _ _ _ _ hl6).trans rfl; have yf0 : W6.frozen? ⟨w.heap.size + 1, 0, none⟩ = false := (by simp [World.frozen?, hl6]); have yf1 : W6.frozen? ⟨w.heap.size + 1, 1, none⟩ = false := (by simp [World.frozen?, hl6]); have yf2 : W6.frozen? ⟨w.heap.size + 1, 2, none⟩ = false := (by simp [World.frozen?, hl6]); have yf3 : W6.frozen? ⟨w.heap.size + 1, 3, none⟩ = false := (by simp [World.frozen?, hl6])) | fail)
            refine bodyPost_ret (results_l3w (g := w.heap.size) (g' := w.heap.size + 1) rfl rfl rfl (set_oth 3 _ (by omega) (set_oth 2 _ (by omega) (set_oth 1 _ (by omega) (set_oth 0 _ (by omega) hb6)))) rfl (set_four hl6) rfl) rfl ?_; exact ⟨grown_four hG6 (by omega), _, 0, 0, _, false, _, rfl, ⟨_, _, _, rfl⟩, ⟨_, _, _, rfl⟩, .inl ⟨HNO.out, rfl⟩⟩
      · have hp' : ¬ (0 : Int) < (fn : Int) := by omega
        go_wp2; go_roundw
        case rel =>
          have e9 : segF (F.take (k + 1)) = segF (F.take k) := by rw [HTK.out, segF_snoc, if_neg (by rw [HE.out.2.2.2.2]; exact hp)]
          refine ⟨k + 1, ga, ca, gb, cb, by rw [e9, HM.out], by rw [e9, HM.out], hlt, by go_num, ?_, ?_, HW.out.2.2.1, HW.out.2.2.2.1, HW.out.2.2.2.2, ?_⟩
          · rw [e9, HM.out]; exact HW.out.1
          · rw [e9, HM.out]; exact HW.out.2.1
          · rw [e9]; exact HR.out.2.2.2.2.2
        case measure => simp [intOf]; omega
    · obtain rfl : n0 = k := by omega
      have hkI : ¬ (n0 : Int) < (n0 : Int) := by omega
      have htk : F.take n0 = F := List.take_of_length_le (by rw [HH.out.2.1]; exact Nat.le_refl _); rw [htk] at HR ⊢; obtain ⟨m, hm⟩ : ∃ m, (segF F).length = m := ⟨_, rfl⟩
      have hm5 : m ≤ 512 := by have h9 := segF_len F; rw [hm, HH.out.2.1] at h9; omega
      have HM : Hid ((segF F).length = m) := hm; rw [hm] at HR ⊢; clear htk hm hlt hk; have hca := ownsRow_caps2 HR.out.1; have hcb := ownsRow_caps2 HR.out.2.1; obtain ⟨hca1, hca2⟩ := hca; obtain ⟨hcb1, hcb2⟩ := hcb
      have HIM : Hid (ImgAt wr (some ⟨ga, 0, none⟩) (segF F)) := by
        obtain ⟨a9, c9, h1, h2, -⟩ := imgAt_own (n := m) (F := segF F) (by rw [HM.out]; exact HR.out.1) HM.out.symm (fun f hf => (HH.out.1.grown0 HR.out.2.2.2.2.1).data f (List.mem_filter.1 hf).1); simp only [Value.slice.injEq] at h1; rw [h1.1]; exact h2
      have HNU : Hid (∀ i f, (segF F)[i]? = some f → wr.cell? ⟨gb, i, none⟩ = some (.int .i64 (f.num : Int))) := fun i f hf => own1_at HR.out.2.1 (by simp [ivs, hf])
      have hTV : (wr.alloc (.cells #[.int .i64 0, .int .i64 0, .int .i64 0, .slice none 0 0, .slice none 0 0, .int .i64 0, .bool false] 27)).there wr.heap.size 0 7 := there_blk (vs := [.int .i64 0, .int .i64 0, .int .i64 0, .slice none 0 0, .slice none 0 0, .int .i64 0, .bool false]) (heap_alloc_new wr _) rfl
      go_upto_region 14 with (refine wpList_store_mid (by rfl) _ (.tmp 10) (.tmp 66) (by rfl) _ _ [.int .i64 0, .int .i64 0, .int .i64 0, .slice none 0 0, .slice none 0 0, .int .i64 0, .bool false].toArray (by rfl) (by rfl) ?ta ?tb ?tc ?td; exact hTV; show _ = some 7; exact Tryz.sizeView; exact all_oneCell_toArray (List.all_eq_true.1 rfl); simp only [Act.put]; generalize hX : World.setCells (wr.alloc (.cells #[.int .i64 0, .int .i64 0, .int .i64 0, .slice none 0 0, .slice none 0 0, .int .i64 0, .bool false] 27)) wr.heap.size 0 _ = W1; have hv1 : W1.heap[wr.heap.size]? = some (.cells #[.int .i64 0, .int .i64 0, .int .i64 0, .slice none 0 0, .slice none 0 0, .int .i64 0, .bool false] 27 (0, 0)) := (by rw [← hX]; exact setCells_all (cur := [.int .i64 0, .int .i64 0, .int .i64 0, .slice none 0 0, .slice none 0 0, .int .i64 0, .bool false]) (heap_alloc_new wr _) rfl); have hg1 : wr.grownBy W1 none := (by rw [← hX]; exact grownBy_setCellsN (Nat.le_refl _) _ _ _ (World.grownBy_alloc wr _ _)); clear hX hTV)
      obtain ⟨Vb, hVb⟩ : ∃ x, wr.heap.size = x := ⟨_, rfl⟩; have hVb' : wr.heap.size ≤ Vb := Nat.le_of_eq hVb; rw [hVb] at hv1 ⊢; have hl1 : Vb < W1.heap.size := (Array.getElem?_eq_some_iff.1 hv1).1
      go_upto_if 72 with fail
      have hb2 : ((W1.alloc (.cells #[.int .i64 0, .int .i64 0, .slice none 0 0, .bool true] 42)).alloc (.cells #[] 87)).heap[W1.heap.size]? = some (.cells #[.int .i64 0, .int .i64 0, .slice none 0 0, .bool true] 42 (0, 0)) := grown_blk (World.grownBy_alloc _ _ _) (heap_alloc_new W1 _)
      have hO2 : ((W1.alloc (.cells #[.int .i64 0, .int .i64 0, .slice none 0 0, .bool true] 42)).alloc (.cells #[] 87)).ownsRow Vb 87 3 (.slice (some ⟨W1.heap.size + 1, 0, none⟩) 0 0) 0 [] := by
        have h9 := World.ownsRow_made (base := Vb) (e := 87) (size := 3) (W1.alloc (.cells #[.int .i64 0, .int .i64 0, .slice none 0 0, .bool true] 42)) #[] 0 (by simp; omega) (Nat.zero_le _) rfl
        simpa using h9
      have hg2 : W1.grownBy ((W1.alloc (.cells #[.int .i64 0, .int .i64 0, .slice none 0 0, .bool true] 42)).alloc (.cells #[] 87)) none := grownBy_alloc (World.grownBy_alloc W1 _ _) _; have hv2 := grown_blk hg2 hv1; have hgw := grownBy_trans hg1 hg2
      have hs2 : W1.heap.size + 1 < ((W1.alloc (.cells #[.int .i64 0, .int .i64 0, .slice none 0 0, .bool true] 42)).alloc (.cells #[] 87)).heap.size := by simp
      generalize (W1.alloc (.cells #[.int .i64 0, .int .i64 0, .slice none 0 0, .bool true] 42)).alloc (.cells #[] 87) = W2 at hb2 hO2 hv2 hgw hs2 ⊢; obtain ⟨Lb, hLb⟩ : ∃ x, W1.heap.size = x := ⟨_, rfl⟩; rw [hLb] at hb2 hO2 hs2 hl1 ⊢; have HW2 : Hid (W2.heap[Lb]? = some (.cells #[.int .i64 0, .int .i64 0, .slice none 0 0, .bool true] 42 (0, 0)) ∧ W2.ownsRow Vb 87 3 (.slice (some ⟨Lb + 1, 0, none⟩) 0 0) 0 [] ∧ W2.heap[Vb]? = some (.cells #[.int .i64 0, .int .i64 0, .int .i64 0, .slice none 0 0, .slice none 0 0, .int .i64 0, .bool false] 27 (0, 0)) ∧ wr.grownBy W2 none) := ⟨hb2, hO2, hv2, hgw⟩; have HC : Hid (consec ((segF F).map Fi.pf)) := HR.out.2.2.2.2.2; clear hb2 hO2 hv2 hgw hg2 hv1 hg1 hLb hVb
      go_cut [13, 14, 15, 16, 17, 18] from 71 (fun s13 s14 s15 s16 s17 s18 wc => ∃ (mk : Nat) (db : Bool), s13 = .int .i64 (mk : Int) ∧ keptP ((segF F).map Fi.pf) = ((segF F).map Fi.pf).take mk ∧ dropP ((segF F).map Fi.pf) = db ∧ mk ≤ m ∧ wr.grownBy wc none ∧ wc.heap[Vb]? = some (.cells #[.int .i64 0, .int .i64 0, .int .i64 0, .slice none 0 0, .slice none 0 0, .int .i64 0, .bool db] 27 (0, 0)) ∧ wc.heap[Lb]? = some (.cells #[.int .i64 0, .int .i64 0, .slice none 0 0, .bool true] 42 (0, 0)) ∧ wc.ownsRow Vb 87 3 (.slice (some ⟨Lb + 1, 0, none⟩) 0 0) 0 [])
      case first =>
        by_cases hm0 : m = 0
        · have e0 : ¬ (0 : Int) < (m : Int) := by omega
          have HF : Hid (keptP ((segF F).map Fi.pf) = ((segF F).map Fi.pf).take m ∧ dropP ((segF F).map Fi.pf) = false) := by
            have hnil : (segF F).map Fi.pf = [] := List.eq_nil_of_length_eq_zero (by rw [List.length_map, HM.out]; exact hm0); rw [hnil]
            have hd : dropP [] = false := by unfold dropP; simp
            exact ⟨by rw [keptP, hd]; simp, hd⟩
          clear hm0; go_wp2; go_meet
          case rel => exact ⟨m, false, rfl, HF.out.1, HF.out.2, Nat.le_refl _, HW2.out.2.2.2, HW2.out.2.2.1, HW2.out.1, HW2.out.2.1⟩
        · have e0 : (0 : Int) < (m : Int) := by omega
          obtain ⟨mk, rfl⟩ : ∃ mk, m = mk + 1 := ⟨m - 1, by omega⟩; obtain ⟨f, hf⟩ : ∃ f, (segF F)[mk]? = some f := ⟨_, List.getElem?_eq_getElem (by rw [HM.out]; omega)⟩; have hIm := HIM.out.grown0 HW2.out.2.2.2; obtain ⟨b9, off9, hab, q0, q1⟩ := hIm.cells mk f hf
          obtain ⟨rfl, rfl⟩ : ga = b9 ∧ 0 = off9 := by simpa using hab
          simp only [Nat.zero_add] at q1; obtain ⟨d1, d2, d3, d4, d5, d6⟩ := hIm.data f (List.mem_of_getElem? hf); have HSC : Hid (Calls _ _ _ _ _) := specScan_any f.b 0 f.d.length f.p f.d W2 d1 d2 d3 d5; have hnb : f.num ≤ 99999999 := numLe f
          have HFL : Hid (((segF F).map Fi.pf).getLast? = some f.pf ∧ f.num = pnum f.pf ∧ f.pf.2 = f.d ∧ ((segF F).map Fi.pf).length = mk + 1 ∧ (∀ z ∈ f.d, z < 256)) := by
            have hlen : ((segF F).map Fi.pf).length = mk + 1 := by rw [List.length_map, HM.out]
            refine ⟨?_, rfl, rfl, hlen, d1.2.1⟩; rw [List.getLast?_eq_getElem?, hlen]
            simp [hf]
          have hgbl : gb < wr.heap.size := cell_block_lt (HNU.out mk f hf); have hnu := ((bcell HW2.out.2.2.2).1 _ _ (cell_block_lt (HNU.out mk f hf))).trans (HNU.out mk f hf); obtain ⟨fn, hfn⟩ : ∃ x, f.num = x := ⟨_, rfl⟩; obtain ⟨fb, hfb'⟩ : ∃ x, f.b = x := ⟨_, rfl⟩; obtain ⟨fp, hfp⟩ : ∃ x, f.p = x := ⟨_, rfl⟩; obtain ⟨fl, hfl⟩ : ∃ x, f.d.length = x := ⟨_, rfl⟩; rw [hfb', hfp, hfl] at HSC q1; rw [hfn] at hnu HFL hnb
          have HDR : Hid (¬ HeadP fn (scan f.d).1 → keptP ((segF F).map Fi.pf) = ((segF F).map Fi.pf).take mk ∧ dropP ((segF F).map Fi.pf) = true) := fun hn => by
            have hd : dropP ((segF F).map Fi.pf) = true := dropP_true HFL.out.1 (by rw [← HFL.out.2.1, HFL.out.2.2.1]; exact hn); exact ⟨by rw [keptP, hd, if_pos rfl, List.dropLast_eq_take, HFL.out.2.2.2.1]; rfl, hd⟩
          have HKP : Hid (HeadP fn (scan f.d).1 → keptP ((segF F).map Fi.pf) = ((segF F).map Fi.pf).take (mk + 1) ∧ dropP ((segF F).map Fi.pf) = false) := fun hn => by
            have hd : dropP ((segF F).map Fi.pf) = false := dropP_false HFL.out.1 (by rw [← HFL.out.2.1, HFL.out.2.2.1]; exact hn); exact ⟨by rw [keptP, hd, List.take_of_length_le (by rw [HFL.out.2.2.2.1]; exact Nat.le_refl _)]; simp, hd⟩
          clear hIm hf hab q0 d1 d2 d3 d4 d5 d6 hfn hfb' hfp hfl hm0
          have v1 : IntKind.i64.wrap ((mk : Int) + 1 - 1) = (mk : Int) := by rw [IntWalk.i64_in _ (by omega)]; omega
          have e1 : (mk : Int) < (mk : Int) + 1 := by omega
          go_wp2_with fail; refine HSC.out.mono ?_; clear HSC; rintro e W3 ⟨rv, R, rfl, hRR, ⟨htell, hcaps⟩, hG3⟩; obtain ⟨ra, rc, rfl⟩ := own1_is hRR.1; have hnu3 := ((bcell hG3).1 _ _ (cell_block_lt hnu)).trans hnu; have H3 : Hid (RecRow W3 W2.heap.size (.slice ra R.length rc) R ∧ R.map Rc.tell = (scan f.d).1 ∧ (∀ r ∈ R, r.data.length ≤ r.cp ∧ r.cp ≤ maxLen) ∧ W2.grownBy W3 none) := ⟨hRR, htell, hcaps, hG3⟩; clear hRR htell hcaps hG3 hnu q1
          go_upto_region 21 with fail
          have hHb : (W3.alloc (.cells #[.slice none 0 0, .slice none 0 0] 81)).heap[W3.heap.size]? = some (.cells #[.slice none 0 0, .slice none 0 0] 81 (0, 0)) := heap_alloc_new W3 _; have hg4 : W3.grownBy (W3.alloc (.cells #[.slice none 0 0, .slice none 0 0] 81)) none := World.grownBy_alloc W3 _ _; generalize W3.alloc (.cells #[.slice none 0 0, .slice none 0 0] 81) = W4 at hHb hg4 ⊢; obtain ⟨Hb, hHe⟩ : ∃ x, W3.heap.size = x := ⟨_, rfl⟩; rw [hHe] at hHb ⊢; have hG24 := grownBy_trans H3.out.2.2.2 hg4; have hv4 := grown_blk hG24 HW2.out.2.2.1; have hL4 := grown_blk hG24 HW2.out.1; have hO4 := own1_grown HW2.out.2.1 hG24; have hnu4 := ((bcell hg4).1 _ _ (cell_block_lt hnu3)).trans hnu3; have hs24 := hG24.size; have hs3 := H3.out.2.2.2.size; have hHb4 : Hb < W4.heap.size := (Array.getElem?_eq_some_iff.1 hHb).1; have H4 : Hid (RecRow W4 W2.heap.size (.slice ra R.length rc) R ∧ W4.heap[Hb]? = some (.cells #[.slice none 0 0, .slice none 0 0] 81 (0, 0)) ∧ W4.heap[Vb]? = some (.cells #[.int .i64 0, .int .i64 0, .int .i64 0, .slice none 0 0, .slice none 0 0, .int .i64 0, .bool false] 27 (0, 0)) ∧ W4.heap[Lb]? = some (.cells #[.int .i64 0, .int .i64 0, .slice none 0 0, .bool true] 42 (0, 0)) ∧ W4.ownsRow Vb 87 3 (.slice (some ⟨Lb + 1, 0, none⟩) 0 0) 0 [] ∧ W2.grownBy W4 none) := ⟨H3.out.1.grown hg4 (by simp), hHb, hv4, hL4, hO4, hG24⟩
          have hHbl : W2.heap.size ≤ Hb := by omega
          clear hHb hg4 hHe hv4 hL4 hO4 hnu3; obtain ⟨rl, hrl⟩ : ∃ x, R.length = x := ⟨_, rfl⟩; have HRL : Hid (R.length = rl) := hrl; rw [hrl] at H4 ⊢; have vc6 : W4.cell? ⟨Vb, 6, none⟩ = some (.bool false) := (cell_of_row _ _ _ _ _ _ H4.out.2.2.1).trans rfl
          have vf6 : W4.frozen? ⟨Vb, 6, none⟩ = false := by simp [World.frozen?, H4.out.2.2.1]
          have HDE : Hid (∀ W : World, W2.grownBy W none → wr.grownBy (W.setCell ⟨Vb, 6, none⟩ (.bool true)) none ∧ (W.setCell ⟨Vb, 6, none⟩ (.bool true)).heap[Vb]? = some (.cells #[.int .i64 0, .int .i64 0, .int .i64 0, .slice none 0 0, .slice none 0 0, .int .i64 0, .bool true] 27 (0, 0)) ∧ (W.setCell ⟨Vb, 6, none⟩ (.bool true)).heap[Lb]? = some (.cells #[.int .i64 0, .int .i64 0, .slice none 0 0, .bool true] 42 (0, 0)) ∧ (W.setCell ⟨Vb, 6, none⟩ (.bool true)).ownsRow Vb 87 3 (.slice (some ⟨Lb + 1, 0, none⟩) 0 0) 0 []) := fun W hW =>
            ⟨grownBy_setNew (grownBy_trans HW2.out.2.2.2 hW) hVb', set_blkL (L := [.int .i64 0, .int .i64 0, .int .i64 0, .slice none 0 0, .slice none 0 0, .int .i64 0, .bool false]) 6 _ (grown_blk hW HW2.out.2.2.1), set_oth 6 _ (by omega) (grown_blk hW HW2.out.1), own1_kept (own1_grown HW2.out.2.1 hW) (grownBy_setCell (grownBy_refl _ _)) (fun q hq => by cases hq; simp; omega)⟩
          rcases Classical.em (rl = 0) with hr0 | hr0
          · have f0 : ¬ (0 : Int) < (rl : Int) := by omega
            have HF : Hid (_ ∧ _) := HDR.out (by
              rintro ⟨t9, d9, r9, h9, -⟩; rw [← H3.out.2.1] at h9; have : R = [] := List.eq_nil_of_length_eq_zero (by rw [HRL.out]; exact hr0); rw [this] at h9
              cases h9)
            clear hr0 hrl; go_wp2; go_quiet (fail); go_wp2; go_meet
            case rel =>
              have h9 := HDE.out (W4.drewN nq) (grownBy_trans H4.out.2.2.2.2.2 (grownBy_drewN _ _))
              first
                | exact ⟨mk, true, by go_num, HF.out.1, HF.out.2, by omega, h9.1, h9.2.1, h9.2.2.1, h9.2.2.2⟩
                | (have h8 := HDE.out W4 H4.out.2.2.2.2.2
                   exact ⟨mk, true, by go_num, HF.out.1, HF.out.2, by omega, grownBy_trans h8.1 (grownBy_drewN _ _), h8.2.1, h8.2.2.1, own1_grown h8.2.2.2 (grownBy_drewN _ _)⟩)
          · have f0 : (0 : Int) < (rl : Int) := by omega
            obtain ⟨r, hr⟩ : ∃ r, R[0]? = some r := ⟨_, List.getElem?_eq_getElem (by omega)⟩; obtain ⟨G, rfl, hGb, g0, g1⟩ := H4.out.1.cells hr; simp only [Nat.zero_mul, Nat.zero_add] at g0 g1; have hrm := List.mem_of_getElem? hr
            have hrs : (r.ty, r.data) ∈ (scan f.d).1 := by rw [← H3.out.2.1]; exact List.mem_map.2 ⟨r, hrm, rfl⟩
            obtain ⟨hty, hd8⟩ := scan_recs HFL.out.2.2.2.2 _ hrs; have HL3 : Hid (Calls _ _ _ _ _) := L3Right_any r.ty r.g r.cp r.data W4 hty ((H4.out.1.2.1 r hrm).2.sl _ rfl) (H3.out.2.2.1 r hrm).1 (H3.out.2.2.1 r hrm).2 hd8
            have HHP : Hid (HeadP fn (scan f.d).1 ↔ (WOk (wb 1) (wroom 1) r.data ∧ r.ty = 1 ∧ wn 1 r.data 0 = fn)) := by
              obtain ⟨R', hR'⟩ : ∃ R', R = r :: R' := by
                rcases R with _ | ⟨r9, R'⟩
                · cases hr
                · simp at hr; subst hr; exact ⟨R', rfl⟩
              have hsc : (scan f.d).1 = (r.ty, r.data) :: R'.map Rc.tell := by rw [← H3.out.2.1, hR']; rfl
              constructor
              · rintro ⟨t9, d9, r9, h9, h8, h7, h6⟩; rw [hsc] at h9; simp only [List.cons.injEq, Prod.mk.injEq] at h9; obtain ⟨⟨rfl, rfl⟩, -⟩ := h9; exact ⟨h8, h7, h6⟩
              · rintro ⟨h8, h7, h6⟩; exact ⟨_, _, _, hsc, h8, h7, h6⟩
            obtain ⟨ty, hty'⟩ : ∃ x, r.ty = x := ⟨_, rfl⟩; obtain ⟨D, hD⟩ : ∃ x, r.data = x := ⟨_, rfl⟩; rw [hty', hD] at HL3 HHP; rw [hty'] at g0 hty; rw [hD] at g1; clear hr0 hrl hr hrm hrs hd8 hty' hD; go_wp2_with fail; refine HL3.out.mono ?_; clear HL3; rintro e W5 ⟨nv, rv2, bo, rfl, hbo, hpay, hno, hG5⟩
            have hGHb : G ≠ Hb := by
              intro hc; obtain ⟨cur, h9⟩ := owns_type H4.out.1.1 (g := G) rfl; rw [hc, H4.out.2.1] at h9; have h8 := Option.some.inj h9
              injection h8 with _ h7 _
              exact absurd h7 (by decide)
            have hsv : ∃ a b c a' b' c', nv = .slice a b c ∧ rv2 = .slice a' b' c' := by
              cases bo with
              | false => obtain ⟨h1, h2⟩ := hno rfl; exact ⟨_, _, _, _, _, _, h1, h2⟩
              | true => obtain ⟨gn, cn, gr, cr, h1, -, h2, -⟩ := hpay rfl; exact ⟨_, _, _, _, _, _, h1, h2⟩
            obtain ⟨na, nn, nc, ra2, rn2, rc2, rfl, rfl⟩ := hsv; have hb5 := grown_blk hG5 H4.out.2.1; have y0 : W5.cell? ⟨Hb, 0, none⟩ = some (.slice none 0 0) := (cell_of_row _ _ _ _ _ _ hb5).trans rfl; have y1 : W5.cell? ⟨Hb, 1, none⟩ = some (.slice none 0 0) := (cell_of_row _ _ _ _ _ _ hb5).trans rfl
            have yf0 : W5.frozen? ⟨Hb, 0, none⟩ = false := by simp [World.frozen?, hb5]
            have yf1 : W5.frozen? ⟨Hb, 1, none⟩ = false := by simp [World.frozen?, hb5]
            have hG25 := grownBy_trans H4.out.2.2.2.2.2 hG5; have hs5 := hG5.size
            have ho6 : ∀ q : Nat, q ≠ Hb → ((W5.setCell ⟨Hb, 0, none⟩ (.slice na nn nc)).setCell ⟨Hb, 1, none⟩ (.slice ra2 rn2 rc2)).heap[q]? = W5.heap[q]? := fun q hq => (heap_setCell_other _ ⟨Hb, 1, none⟩ q _ hq).trans (heap_setCell_other _ ⟨Hb, 0, none⟩ q _ hq)
            have hg6 : ((W5.setCell ⟨Hb, 0, none⟩ (.slice na nn nc)).setCell ⟨Hb, 1, none⟩ (.slice ra2 rn2 rc2)).cell? ⟨G, 0, none⟩ = some (.int .i64 (ty : Int)) := (World.cell?_of_block (w := W5) (a := ⟨G, 0, none⟩) (ho6 G hGHb)).trans (((bcell hG5).1 _ _ (cell_block_lt g0)).trans g0); have hn6 : ((W5.setCell ⟨Hb, 0, none⟩ (.slice na nn nc)).setCell ⟨Hb, 1, none⟩ (.slice ra2 rn2 rc2)).cell? ⟨gb, mk, none⟩ = some (.int .i64 (fn : Int)) := (World.cell?_of_block (w := W5) (a := ⟨gb, mk, none⟩) (ho6 gb (by omega))).trans (((bcell hG5).1 _ _ (cell_block_lt hnu4)).trans hnu4); have hp6 : ((W5.setCell ⟨Hb, 0, none⟩ (.slice na nn nc)).setCell ⟨Hb, 1, none⟩ (.slice ra2 rn2 rc2)).heap[Hb]? = some (.cells #[.slice na nn nc, .slice ra2 rn2 rc2] 81 (0, 0)) := set_two hb5; have HG6 : Hid (W2.grownBy ((W5.setCell ⟨Hb, 0, none⟩ (.slice na nn nc)).setCell ⟨Hb, 1, none⟩ (.slice ra2 rn2 rc2)) none) := grownBy_setNew (grownBy_setNew hG25 hHbl) hHbl
            have hc6 : ∀ (q : Nat) (j : Nat) (u : Value), q ≠ Hb → W5.cell? ⟨q, j, none⟩ = some u → ((W5.setCell ⟨Hb, 0, none⟩ (.slice na nn nc)).setCell ⟨Hb, 1, none⟩ (.slice ra2 rn2 rc2)).cell? ⟨q, j, none⟩ = some u := fun q j u hq hu => (World.cell?_of_block (w := W5) (a := ⟨q, j, none⟩) (ho6 q hq)).trans hu
            have HPY : Hid (bo = true → ∃ gn, na = some ⟨gn, 0, none⟩ ∧ nn = (wb ty).length ∧ ∀ i, i < (wb ty).length → ((W5.setCell ⟨Hb, 0, none⟩ (.slice na nn nc)).setCell ⟨Hb, 1, none⟩ (.slice ra2 rn2 rc2)).cell? ⟨gn, i, none⟩ = some (.int .i64 ((wn ty D i : Nat) : Int))) := fun hb => by
              obtain ⟨gn, cn, gr, cr, h1, h2, -, -, -, -, -, h8⟩ := hpay hb; simp only [Value.slice.injEq] at h1; obtain ⟨rfl, rfl, rfl⟩ := h1; exact ⟨gn, rfl, rfl, fun i hi => hc6 gn i _ (by omega) (h2 i hi)⟩
            have HBO : Hid (bo = true ↔ 1 ≤ ty ∧ ty ≤ 7 ∧ WOk (wb ty) (wroom ty) D) := hbo; clear hbo hpay hno hb5 hG25 ho6 hc6 g0 g1 hnu4 vc6 vf6 hG5
            go_upto_region 23 with fail
            generalize (W5.setCell ⟨Hb, 0, none⟩ (.slice na nn nc)).setCell ⟨Hb, 1, none⟩ (.slice ra2 rn2 rc2) = W6 at hg6 hn6 hp6 HG6 HPY ⊢; clear y0 y1 yf0 yf1; have hv6 := grown_blk HG6.out HW2.out.2.2.1; have vc6 : W6.cell? ⟨Vb, 6, none⟩ = some (.bool false) := (cell_of_row _ _ _ _ _ _ hv6).trans rfl
            have vf6 : W6.frozen? ⟨Vb, 6, none⟩ = false := by simp [World.frozen?, hv6]
            have p60 : W6.cell? ⟨Hb, 0, none⟩ = some (.slice na nn nc) := (cell_of_row _ _ _ _ _ _ hp6).trans rfl; clear hp6 hv6
            cases bo with
            | false =>
              have HF : Hid (_ ∧ _) := HDR.out (fun hc => by
                obtain ⟨h1, h2, -⟩ := HHP.out.1 hc; subst h2; have := HBO.out.2 ⟨by omega, by omega, h1⟩
                cases this)
              go_quiet (fail); go_wp2; go_meet
              case rel =>
                first
                  | (have h9 := HDE.out (W6.drewN nq) (grownBy_trans HG6.out (grownBy_drewN _ _))
                     exact ⟨mk, true, by go_num, HF.out.1, HF.out.2, by omega, h9.1, h9.2.1, h9.2.2.1, h9.2.2.2⟩)
                  | (have h8 := HDE.out W6 HG6.out
                     exact ⟨mk, true, by go_num, HF.out.1, HF.out.2, by omega, grownBy_trans h8.1 (grownBy_drewN _ _), h8.2.1, h8.2.2.1, own1_grown h8.2.2.2 (grownBy_drewN _ _)⟩)
            | true =>
              obtain ⟨gn, rfl, rfl, hcn⟩ := HPY.out rfl
              rcases Classical.em (ty = 1) with h1 | h1
              · have t1 : ((ty : Int) != 1) = false := by simp; omega
                have hwl : (wb ty).length = 3 := by rw [h1]; rfl
                have hc0 := hcn 0 (by omega); rw [hwl] at p60 ⊢; obtain ⟨nz, hnz⟩ : ∃ x, wn ty D 0 = x := ⟨_, rfl⟩; rw [hnz] at hc0
                rcases Classical.em (nz = fn) with h2 | h2
                · have t2 : ((nz : Int) != (fn : Int)) = false := by simp; omega
                  have HF : Hid (_ ∧ _) := HKP.out (HHP.out.2 ⟨by have := (HBO.out.1 rfl).2.2; rw [h1] at this; exact this, h1, by rw [← h1]; exact hnz.trans h2⟩); clear h1 h2 hnz hcn hwl; go_quiet (fail); go_wp2; go_meet
                  case rel =>
                    have hg9 := grownBy_trans HG6.out (grownBy_drewN W6 nq); exact ⟨mk + 1, false, by go_num, HF.out.1, HF.out.2, by omega, grownBy_trans HW2.out.2.2.2 hg9, grown_blk hg9 HW2.out.2.2.1, grown_blk hg9 HW2.out.1, own1_grown HW2.out.2.1 hg9⟩
                · have t2 : ((nz : Int) != (fn : Int)) = true := by simp; omega
                  have HF : Hid (_ ∧ _) := HDR.out (fun hc => by
                    obtain ⟨-, -, h9⟩ := HHP.out.1 hc; rw [← h1, hnz] at h9
                    exact h2 h9)
                  clear h1 h2 hnz hcn hwl; go_quiet (fail); go_wp2; go_meet
                  case rel =>
                    first
                      | (have h9 := HDE.out (W6.drewN nq) (grownBy_trans HG6.out (grownBy_drewN _ _))
                         exact ⟨mk, true, by go_num, HF.out.1, HF.out.2, by omega, h9.1, h9.2.1, h9.2.2.1, h9.2.2.2⟩)
                      | (have h8 := HDE.out W6 HG6.out
                         exact ⟨mk, true, by go_num, HF.out.1, HF.out.2, by omega, grownBy_trans h8.1 (grownBy_drewN _ _), h8.2.1, h8.2.2.1, own1_grown h8.2.2.2 (grownBy_drewN _ _)⟩)
              · have t1 : ((ty : Int) != 1) = true := by simp; omega
                have HF : Hid (_ ∧ _) := HDR.out (fun hc => h1 (HHP.out.1 hc).2.1); clear h1 hcn; go_quiet (fail); go_wp2; go_meet
                case rel =>
                  first
                    | (have h9 := HDE.out (W6.drewN nq) (grownBy_trans HG6.out (grownBy_drewN _ _))
                       exact ⟨mk, true, by go_num, HF.out.1, HF.out.2, by omega, h9.1, h9.2.1, h9.2.2.1, h9.2.2.2⟩)
                    | (have h8 := HDE.out W6 HG6.out
                       exact ⟨mk, true, by go_num, HF.out.1, HF.out.2, by omega, grownBy_trans h8.1 (grownBy_drewN _ _), h8.2.1, h8.2.2.1, own1_grown h8.2.2.2 (grownBy_drewN _ _)⟩)
      case rest =>
        obtain ⟨Wa, rfl⟩ : ∃ Wa, Wa = wr := ⟨_, rfl⟩; obtain ⟨mk, db, rfl, hkept, hdrop, hmk, hGc, hvb, hlb, hos⟩ := hcut; have HQ : Hid (keptP ((segF F).map Fi.pf) = (((segF F).map Fi.pf).take mk) ∧ dropP ((segF F).map Fi.pf) = db ∧ mk ≤ m) := ⟨hkept, hdrop, hmk⟩
        have hmk5 : mk ≤ 512 := by omega
        go_wp2
        go_loopw [12, 19] (fun gv i wr => ∃ (k kp lb lt : Nat) (la : Option Addr) (ln lc : Nat) (ok : Bool) (g9 : Option Addr) (c9 : Nat) (xs : List Value) (sa : Option Addr) (sc : Nat), gv = .slice g9 k c9 ∧ k ≤ mk ∧ i = .int .i64 (k : Int) ∧ (Wa.grownBy wr none ∧ wr.heap[Vb]? = some (.cells #[.int .i64 0, .int .i64 0, .int .i64 0, .slice none 0 0, .slice sa k sc, .int .i64 (kp : Int), .bool db] 27 (0, 0)) ∧ wr.heap[Lb]? = some (.cells #[.int .i64 (lb : Int), .int .i64 (lt : Int), .slice la ln lc, .bool ok] 42 (0, 0)) ∧ wr.ownsRow Vb 87 3 (.slice g9 k c9) k xs ∧ wr.ownsRow Vb 3 1 (.slice sa k sc) k (ivs (((segF F).map Fi.num).take k))) ∧ kp = keepP ((((segF F).map Fi.pf).take mk).take k) ∧ ((ok = true ∧ ∃ q : Pl, wread true ⟨0, 0, []⟩ (((segF F).map Fi.pf).take mk) = wread (decide (k = 0)) q ((((segF F).map Fi.pf).take mk).drop (k)) ∧ q.base = lb ∧ q.bt = lt ∧ SLg wr q.es (.slice la ln lc) ∧ PlOk q) ∨ (ok = false ∧ wread true ⟨0, 0, []⟩ (((segF F).map Fi.pf).take mk) = none))) (fun _ i _ => mk - (intOf i).toNat)
        case atStart => exact ⟨0, 0, 0, 0, none, 0, 0, true, some ⟨Lb + 1, 0, none⟩, 0, [], none, 0, rfl, Nat.zero_le _, rfl, ⟨hGc, hvb, hlb, hos, by simp [ivs]; exact World.ownsRow_nil _ _ _ _⟩, rfl, .inl ⟨rfl, ⟨0, 0, []⟩, rfl, rfl, rfl, SLg.nil _, plok0⟩⟩
        case round =>
          obtain ⟨k, kp, lb, lt, la, ln, lc, ok, g9, c9, xs, sa, sc, rfl, hk, rfl, hcore, hkp, hst⟩ := hrel; have HR2 : Hid ((Wa.grownBy wr none ∧ wr.heap[Vb]? = some (.cells #[.int .i64 0, .int .i64 0, .int .i64 0, .slice none 0 0, .slice sa k sc, .int .i64 (kp : Int), .bool db] 27 (0, 0)) ∧ wr.heap[Lb]? = some (.cells #[.int .i64 (lb : Int), .int .i64 (lt : Int), .slice la ln lc, .bool ok] 42 (0, 0)) ∧ wr.ownsRow Vb 87 3 (.slice g9 k c9) k xs ∧ wr.ownsRow Vb 3 1 (.slice sa k sc) k (ivs (((segF F).map Fi.num).take k))) ∧ kp = keepP ((((segF F).map Fi.pf).take mk).take k) ∧ ((ok = true ∧ ∃ q : Pl, wread true ⟨0, 0, []⟩ (((segF F).map Fi.pf).take mk) = wread (decide (k = 0)) q ((((segF F).map Fi.pf).take mk).drop (k)) ∧ q.base = lb ∧ q.bt = lt ∧ SLg wr q.es (.slice la ln lc) ∧ PlOk q) ∨ (ok = false ∧ wread true ⟨0, 0, []⟩ (((segF F).map Fi.pf).take mk) = none))) := ⟨hcore, hkp, hst⟩; clear hcore hkp hst hvb hlb hos hGc hkept hdrop
          by_cases hlt2 : k < mk
          · obtain ⟨f, hf⟩ : ∃ f, (segF F)[k]? = some f := ⟨_, List.getElem?_eq_getElem (by rw [HM.out]; omega)⟩; have hIm := HIM.out.grown0 HR2.out.1.1; obtain ⟨b9, off9, hab, q0, q1⟩ := hIm.cells k f hf
            obtain ⟨rfl, rfl⟩ : ga = b9 ∧ 0 = off9 := by simpa using hab
            simp only [Nat.zero_add] at q1; obtain ⟨d1, d2, d3, d4, d5, d6⟩ := hIm.data f (List.mem_of_getElem? hf); have HSC : Hid (Calls _ _ _ _ _) := specScan_any f.b 0 f.d.length f.p f.d wr d1 d2 d3 d5; have hgbl : gb < Wa.heap.size := cell_block_lt (HNU.out k f hf); have hnu := ((bcell HR2.out.1.1).1 _ _ (cell_block_lt (HNU.out k f hf))).trans (HNU.out k f hf); have hnb : f.num ≤ 99999999 := numLe f
            have HDR : Hid ((((segF F).map Fi.pf).take mk).drop k = f.pf :: (((segF F).map Fi.pf).take mk).drop (k + 1) ∧ (((segF F).map Fi.pf).take mk).take (k + 1) = (((segF F).map Fi.pf).take mk).take k ++ [f.pf] ∧ f.num = pnum f.pf ∧ f.pf.2 = f.d ∧ (∀ z ∈ f.d, z < 256) ∧ ((segF F).map Fi.num).take (k + 1) = ((segF F).map Fi.num).take k ++ [f.num]) := by
              have hg : (((segF F).map Fi.pf).take mk)[k]? = some f.pf := by rw [List.getElem?_take_of_lt hlt2]; simp [hf]
              refine ⟨?_, by rw [List.take_add_one, hg]; rfl, rfl, rfl, d1.2.1, by rw [List.take_add_one]; simp [hf]⟩; obtain ⟨hi, hv⟩ := List.getElem?_eq_some_iff.1 hg; rw [List.drop_eq_getElem_cons hi, hv]
            have HVL : Hid (f.d.length ≤ 1048576) := d5; have HNA : Hid (Wa.cell? ⟨gb, k, none⟩ = some (.int .i64 (f.num : Int))) := HNU.out k f hf; have HVB : Hid ((scan f.d).2.1 ≤ 1048576) := Nat.le_trans (scan_valid f.d) d5
            have HXS : Hid ((((segF F).map Fi.pf).take mk).drop (k + 1) = [] ↔ ¬ k + 1 < mk) := by
              show _ ↔ _
              rw [List.drop_eq_nil_iff, List.length_take, List.length_map, HM.out]; have h8 := HQ.out.2.2
              omega
            obtain ⟨fn, hfn⟩ : ∃ x, f.num = x := ⟨_, rfl⟩; obtain ⟨fb, hfb'⟩ : ∃ x, f.b = x := ⟨_, rfl⟩; obtain ⟨fp, hfp⟩ : ∃ x, f.p = x := ⟨_, rfl⟩; obtain ⟨fl, hfl⟩ : ∃ x, f.d.length = x := ⟨_, rfl⟩; rw [hfb', hfp, hfl] at HSC q1; rw [hfn] at hnu HDR hnb HNA; clear hIm hf hab q0 d1 d2 d3 d4 d5 d6 hfn hfb' hfp hfl
            have hkI : (k : Int) < (mk : Int) := by omega
            have hkm : (k : Int) < (m : Int) := by omega
            go_wp2_with fail; refine HSC.out.mono ?_; clear HSC; rintro e W3 ⟨rv, R, rfl, hRR, ⟨htell, hcaps⟩, hG3⟩; obtain ⟨ra, rc, rfl⟩ := own1_is hRR.1; obtain ⟨re, hre⟩ : ∃ x, (scan f.d).2.2 = x := ⟨_, rfl⟩; obtain ⟨va, hva⟩ : ∃ x, (scan f.d).2.1 = x := ⟨_, rfl⟩; obtain ⟨rl, hrl⟩ : ∃ x, R.length = x := ⟨_, rfl⟩; rw [hre, hva, hrl]; have hgw3 := grownBy_trans HR2.out.1.1 hG3
            have HC3 : Hid ((Wa.grownBy W3 none ∧ W3.heap[Vb]? = some (.cells #[.int .i64 0, .int .i64 0, .int .i64 0, .slice none 0 0, .slice sa k sc, .int .i64 (kp : Int), .bool db] 27 (0, 0)) ∧ W3.heap[Lb]? = some (.cells #[.int .i64 (lb : Int), .int .i64 (lt : Int), .slice la ln lc, .bool ok] 42 (0, 0)) ∧ W3.ownsRow Vb 87 3 (.slice g9 k c9) k xs ∧ W3.ownsRow Vb 3 1 (.slice sa k sc) k (ivs (((segF F).map Fi.num).take k))) ∧ RecRow W3 wr.heap.size (.slice ra rl rc) R ∧ kp = keepP ((((segF F).map Fi.pf).take mk).take k) ∧ ((ok = true ∧ ∃ q : Pl, wread true ⟨0, 0, []⟩ (((segF F).map Fi.pf).take mk) = wread (decide (k = 0)) q ((((segF F).map Fi.pf).take mk).drop (k)) ∧ q.base = lb ∧ q.bt = lt ∧ SLg W3 q.es (.slice la ln lc) ∧ PlOk q) ∨ (ok = false ∧ wread true ⟨0, 0, []⟩ (((segF F).map Fi.pf).take mk) = none))) := by
              obtain ⟨⟨h1, h2, h3, h4, h5⟩, h6, h7⟩ := HR2.out; refine ⟨⟨hgw3, grown_blk hG3 h2, grown_blk hG3 h3, own1_grown h4 hG3, own1_grown h5 hG3⟩, by rw [← hrl]; exact hRR, h6, ?_⟩
              rcases h7 with ⟨h8, q, k1, k2, k3, k4, k5⟩ | h8
              · exact .inl ⟨h8, q, k1, k2, k3, k4.grown0 hG3, k5⟩
              · exact .inr h8
            have HRC : Hid (R.map Rc.tell = (scan f.d).1 ∧ (∀ r ∈ R, r.data.length ≤ r.cp ∧ r.cp ≤ maxLen) ∧ R.length = rl ∧ (scan f.d).2.2 = re ∧ (scan f.d).2.1 = va ∧ Wa.grownBy W3 none) := ⟨htell, hcaps, hrl, hre, hva, hgw3⟩; have hnu3 : W3.cell? ⟨gb, k, none⟩ = some (.int .i64 (fn : Int)) := ((bcell hG3).1 _ _ (cell_block_lt hnu)).trans hnu
            have hvab : va ≤ 1048576 := by rw [← hva]; exact HVB.out
            have hsL3 : Lb < W3.heap.size := (Array.getElem?_eq_some_iff.1 HC3.out.1.2.2.1).1; have hsV3 : Vb < W3.heap.size := (Array.getElem?_eq_some_iff.1 HC3.out.1.2.1).1; clear hRR htell hcaps hG3 hrl hre hva hgw3 hnu q1 HR2; have l3c : W3.cell? ⟨Lb, 3, none⟩ = some (.bool ok) := (cell_of_row _ _ _ _ _ _ HC3.out.1.2.2.1).trans rfl
            have l3f : W3.frozen? ⟨Lb, 3, none⟩ = false := by simp [World.frozen?, HC3.out.1.2.2.1]
            have v4 : IntKind.i64.wrap ((mk : Int) - 1) = (mk : Int) - 1 := IntWalk.i64_in _ (by omega); have v5 : IntKind.i64.wrap ((k : Int) + 1) = (k : Int) + 1 := IntWalk.i64_in _ (by omega)
            have HNB : Hid ((scan f.d).1 ≠ [] → ¬ (re ≠ 0 ∧ k + 1 < mk) → ∀ q : Pl, wread (decide (k = 0)) q ((((segF F).map Fi.pf).take mk).drop k) = (rsteps fn (decide (k = 0)) q true (scan f.d).1).bind fun q' => wread false q' ((((segF F).map Fi.pf).take mk).drop (k + 1))) := fun h1 h2 q => by
              rw [HDR.out.1, wread, HDR.out.2.2.2.1, if_neg, ← HDR.out.2.2.1]; rintro (h9 | ⟨h9, h8⟩)
              · exact h1 h9
              · rw [HRC.out.2.2.2.1] at h9; exact h2 ⟨h9, Classical.byContradiction fun h7 => h8 (HXS.out.2 h7)⟩
            have HBD : Hid (((scan f.d).1 = [] ∨ (re ≠ 0 ∧ k + 1 < mk)) → wread true ⟨0, 0, []⟩ (((segF F).map Fi.pf).take mk) = none) := fun h1 => by
              rcases HC3.out.2.2.2 with ⟨-, q, k1, -⟩ | ⟨-, k1⟩
              · rw [k1, HDR.out.1, wread, HDR.out.2.2.2.1, if_pos]
                rcases h1 with h1 | ⟨h1, h2⟩
                · exact .inl h1
                · exact .inr ⟨by rw [HRC.out.2.2.2.1]; exact h1, fun hc => HXS.out.1 hc h2⟩
              · exact k1
            obtain ⟨bb, hbb⟩ : ∃ b : Bool, b = decide ((re ≠ 0 ∧ k + 1 < mk) ∨ rl = 0) := ⟨_, rfl⟩
            go_upto_region 30 with fail
            go_cut [146] from 119 to 204 (fun c wx => c = .bool bb ∧ wx = W3)
            case first =>
              rcases Classical.em (k + 1 < mk) with hA | hA
              · have tA : (k : Int) < (mk : Int) - 1 := by omega
                rcases Classical.em (re = 0) with hB | hB
                · have tB : ((re : Int) != 0) = false := by simp; omega
                  rcases Classical.em (rl = 0) with hC | hC
                  · have tC : ((rl : Int) == 0) = true := by simp; omega
                    have HBB : Hid (bb = true) := by
                      show bb = true
                      rw [hbb]; simp; omega
                    clear hbb
                    try clear hC
                    try clear hB
                    try clear hA
                    go_wp2; go_meet
                    case rel => exact ⟨by rw [HBB.out], rfl⟩
                  · have tC : ((rl : Int) == 0) = false := by simp; omega
                    have HBB : Hid (bb = false) := by
                      show bb = false
                      rw [hbb]; simp; omega
                    clear hbb
                    try clear hC
                    try clear hB
                    try clear hA
                    go_wp2; go_meet
                    case rel => exact ⟨by rw [HBB.out], rfl⟩
                · have tB : ((re : Int) != 0) = true := by simp; omega
                  have HBB : Hid (bb = true) := by
                    show bb = true
                    rw [hbb]; simp; omega
                  clear hbb
                  try clear hC
                  try clear hB
                  try clear hA
                  go_wp2; go_meet
                  case rel => exact ⟨by rw [HBB.out], rfl⟩
              · have tA : ¬ (k : Int) < (mk : Int) - 1 := by omega
                rcases Classical.em (rl = 0) with hC | hC
                · have tC : ((rl : Int) == 0) = true := by simp; omega
                  have HBB : Hid (bb = true) := by
                    show bb = true
                    rw [hbb]; simp; omega
                  clear hbb
                  try clear hC
                  try clear hB
                  try clear hA
                  go_wp2; go_meet
                  case rel => exact ⟨by rw [HBB.out], rfl⟩
                · have tC : ((rl : Int) == 0) = false := by simp; omega
                  have HBB : Hid (bb = false) := by
                    show bb = false
                    rw [hbb]; simp; omega
                  clear hbb
                  try clear hC
                  try clear hB
                  try clear hA
                  go_wp2; go_meet
                  case rel => exact ⟨by rw [HBB.out], rfl⟩
            case rest =>
              obtain ⟨rfl, hwc⟩ := hcut; rw [hwc]; clear hwc
              go_upto_if 146 with fail
              go_cut [] from 119 to 204 (fun wx => ∃ ok2 : Bool, (Wa.grownBy wx none ∧ wx.heap[Vb]? = some (.cells #[.int .i64 0, .int .i64 0, .int .i64 0, .slice none 0 0, .slice sa k sc, .int .i64 (kp : Int), .bool db] 27 (0, 0)) ∧ wx.heap[Lb]? = some (.cells #[.int .i64 (lb : Int), .int .i64 (lt : Int), .slice la ln lc, .bool ok2] 42 (0, 0)) ∧ wx.ownsRow Vb 87 3 (.slice g9 k c9) k xs ∧ wx.ownsRow Vb 3 1 (.slice sa k sc) k (ivs (((segF F).map Fi.num).take k))) ∧ RecRow wx wr.heap.size (.slice ra rl rc) R ∧ ((ok2 = true ∧ ∃ q : Pl, wread true ⟨0, 0, []⟩ (((segF F).map Fi.pf).take mk) = ((rsteps fn (decide (k = 0)) q true (scan f.d).1).bind fun q' => wread false q' ((((segF F).map Fi.pf).take mk).drop (k + 1))) ∧ q.base = lb ∧ q.bt = lt ∧ SLg wx q.es (.slice la ln lc) ∧ PlOk q) ∨ (ok2 = false ∧ wread true ⟨0, 0, []⟩ (((segF F).map Fi.pf).take mk) = none)))
              case first =>
                cases bb with
                | true =>
                  have HX : Hid (wread true ⟨0, 0, []⟩ (((segF F).map Fi.pf).take mk) = none) := HBD.out (by
                    rcases of_decide_eq_true hbb.symm with h9 | h9
                    · exact .inr h9
                    · exact .inl (by rw [← HRC.out.1, List.eq_nil_of_length_eq_zero (HRC.out.2.2.1.trans h9)]; rfl))
                  clear hbb; go_wp2; go_meet
                  case rel =>
                    obtain ⟨⟨h1, h2, h3, h4, h5⟩, h6, -, -⟩ := HC3.out; refine ⟨false, ⟨grownBy_setNew h1 (by show Wa.heap.size ≤ Lb; omega), set_oth 3 _ (by omega) h2, ?_, own1_setT h4 h3 (by decide), own1_setT h5 h3 (by decide)⟩, rec_setT h6 h3 (by decide) (by decide), .inr ⟨rfl, HX.out⟩⟩; exact set_blkL (L := [.int .i64 (lb : Int), .int .i64 (lt : Int), .slice la ln lc, .bool ok]) 3 _ h3
                | false =>
                  have HX : Hid (¬ ((re ≠ 0 ∧ k + 1 < mk) ∨ rl = 0)) := of_decide_eq_false hbb.symm; clear hbb; go_wp2; go_meet
                  case rel =>
                    obtain ⟨h1, h2, -, h4⟩ := HC3.out; refine ⟨ok, h1, h2, ?_⟩
                    rcases h4 with ⟨h5, q, k1, k2⟩ | h5
                    · refine .inl ⟨h5, q, ?_, k2⟩; rw [k1]; refine HNB.out (fun hc => HX.out (.inr ?_)) (fun hc => HX.out (.inl hc)) q; rw [← HRC.out.1] at hc; rw [← HRC.out.2.2.1]
                      simpa using hc
                    · exact .inr h5
              case rest =>
                obtain ⟨Wb, hWb⟩ : ∃ Wb, wc = Wb := ⟨_, rfl⟩; rw [hWb] at hcut ⊢; obtain ⟨ok2, hb0⟩ := hcut; have HB0 : Hid _ := hb0; clear hWb hb0 hbb; have hnub : Wb.cell? ⟨gb, k, none⟩ = some (.int .i64 (fn : Int)) := ((bcell HB0.out.1.1).1 _ _ (cell_block_lt HNA.out)).trans HNA.out; have hkmb : (k : Int) < (m : Int) := hkm
                go_upto_region 33 with fail
                have hSb : (Wb.alloc (.cells #[.int .i64 (fn : Int), .int .i64 0, .int .i64 (va : Int)] 87)).heap[Wb.heap.size]? = some (.cells #[.int .i64 (fn : Int), .int .i64 0, .int .i64 (va : Int)] 87 (0, 0)) := heap_alloc_new Wb _; have hgb1 : Wb.grownBy (Wb.alloc (.cells #[.int .i64 (fn : Int), .int .i64 0, .int .i64 (va : Int)] 87)) none := World.grownBy_alloc Wb _ _; generalize Wb.alloc (.cells #[.int .i64 (fn : Int), .int .i64 0, .int .i64 (va : Int)] 87) = Wc at hSb hgb1 ⊢; obtain ⟨Sg, hSg⟩ : ∃ x, Wb.heap.size = x := ⟨_, rfl⟩; rw [hSg] at hSb ⊢; obtain ⟨Wk, hWk⟩ : ∃ x, x = wr := ⟨_, rfl⟩; rw [← hWk] at HB0
                have hLSg : Lb < Sg := by rw [← hSg]; exact (Array.getElem?_eq_some_iff.1 HB0.out.1.2.2.1).1
                have hVSg : Vb < Sg := by rw [← hSg]; exact (Array.getElem?_eq_some_iff.1 HB0.out.1.2.1).1
                have HG9 : Hid (∀ q, (Value.slice g9 k c9).ownBlock = some q → q < Sg) := fun q hq => by
                  rw [← hSg]
                  rcases HB0.out.1.2.2.2.1.2 with ⟨h1, -⟩ | ⟨g, cap, cur, h1, -, h2, -⟩
                  · rw [h1] at hq; cases hq
                  · rw [h1] at hq; cases hq; exact (Array.getElem?_eq_some_iff.1 h2).1
                have HWS : Hid (Wc.heap[Sg]? = some (.cells #[.int .i64 (fn : Int), .int .i64 0, .int .i64 (va : Int)] 87 (0, 0)) ∧ Wb.grownBy Wc none ∧ Wb.heap.size = Sg) := ⟨hSb, hgb1, hSg⟩
                have hrl5 : rl ≤ 87382 := by
                  have h9 := scan_len f.d; rw [← HRC.out.1] at h9; have h8 := HVL.out; simp only [List.length_map, HRC.out.2.2.1] at h9
                  omega
                clear hSb hgb1 hSg hWk hnub
                try clear l3c
                try clear l3f
                go_wp2
                go_loopw [156] (fun i wr => ∃ (j lb3 lt3 : Nat) (la3 : Option Addr) (ln3 lc3 : Nat) (ok3 : Bool) (fi : Nat), j ≤ rl ∧ i = .int .i64 (j : Int) ∧ (Wa.grownBy wr none ∧ wr.heap[Vb]? = some (.cells #[.int .i64 0, .int .i64 0, .int .i64 0, .slice none 0 0, .slice sa k sc, .int .i64 (kp : Int), .bool db] 27 (0, 0)) ∧ wr.heap[Lb]? = some (.cells #[.int .i64 (lb3 : Int), .int .i64 (lt3 : Int), .slice la3 ln3 lc3, .bool ok3] 42 (0, 0)) ∧ wr.ownsRow Vb 87 3 (.slice g9 k c9) k xs ∧ wr.ownsRow Vb 3 1 (.slice sa k sc) k (ivs (((segF F).map Fi.num).take k)) ∧ wr.heap[Sg]? = some (.cells #[.int .i64 (fn : Int), .int .i64 (fi : Int), .int .i64 (va : Int)] 87 (0, 0)) ∧ RecRow wr Wk.heap.size (.slice ra rl rc) R) ∧ ((ok3 = true ∧ ∃ q0 q : Pl, wread true ⟨0, 0, []⟩ (((segF F).map Fi.pf).take mk) = ((rsteps fn (decide (k = 0)) q0 true (scan f.d).1).bind fun q' => wread false q' ((((segF F).map Fi.pf).take mk).drop (k + 1))) ∧ rsteps fn (decide (k = 0)) q0 true ((scan f.d).1.take (j)) = some q ∧ q.base = lb3 ∧ q.bt = lt3 ∧ SLg wr q.es (.slice la3 ln3 lc3) ∧ PlOk q) ∨ (ok3 = false ∧ wread true ⟨0, 0, []⟩ (((segF F).map Fi.pf).take mk) = none))) (fun i _ => rl - (intOf i).toNat)
                case atStart =>
                  obtain ⟨⟨h1, h2, h3, h4, h5⟩, h6, h7⟩ := HB0.out; have hg := HWS.out.2.1; refine ⟨0, lb, lt, la, ln, lc, ok2, 0, Nat.zero_le _, rfl, ⟨grownBy_trans h1 hg, grown_blk hg h2, grown_blk hg h3, own1_grown h4 hg, own1_grown h5 hg, HWS.out.1, h6.grown hg (by simp)⟩, ?_⟩
                  rcases h7 with ⟨h8, q, k1, k2, k3, k4, k5⟩ | h8
                  · exact .inl ⟨h8, q, q, k1, by simp [rsteps], k2, k3, k4.grown0 hg, k5⟩
                  · exact .inr h8
                case round =>
                  obtain ⟨j, lb3, lt3, la3, ln3, lc3, ok3, fi, hj, rfl, hcore3, hls3⟩ := hrel; have H3 : Hid ((Wa.grownBy wr none ∧ wr.heap[Vb]? = some (.cells #[.int .i64 0, .int .i64 0, .int .i64 0, .slice none 0 0, .slice sa k sc, .int .i64 (kp : Int), .bool db] 27 (0, 0)) ∧ wr.heap[Lb]? = some (.cells #[.int .i64 (lb3 : Int), .int .i64 (lt3 : Int), .slice la3 ln3 lc3, .bool ok3] 42 (0, 0)) ∧ wr.ownsRow Vb 87 3 (.slice g9 k c9) k xs ∧ wr.ownsRow Vb 3 1 (.slice sa k sc) k (ivs (((segF F).map Fi.num).take k)) ∧ wr.heap[Sg]? = some (.cells #[.int .i64 (fn : Int), .int .i64 (fi : Int), .int .i64 (va : Int)] 87 (0, 0)) ∧ RecRow wr Wk.heap.size (.slice ra rl rc) R) ∧ ((ok3 = true ∧ ∃ q0 q : Pl, wread true ⟨0, 0, []⟩ (((segF F).map Fi.pf).take mk) = ((rsteps fn (decide (k = 0)) q0 true (scan f.d).1).bind fun q' => wread false q' ((((segF F).map Fi.pf).take mk).drop (k + 1))) ∧ rsteps fn (decide (k = 0)) q0 true ((scan f.d).1.take (j)) = some q ∧ q.base = lb3 ∧ q.bt = lt3 ∧ SLg wr q.es (.slice la3 ln3 lc3) ∧ PlOk q) ∨ (ok3 = false ∧ wread true ⟨0, 0, []⟩ (((segF F).map Fi.pf).take mk) = none))) := ⟨hcore3, hls3⟩; clear hcore3 hls3
                  by_cases hjl : j < rl
                  · obtain ⟨r, hr⟩ : ∃ r, R[j]? = some r := ⟨_, List.getElem?_eq_getElem (by rw [HRC.out.2.2.1]; exact hjl)⟩; obtain ⟨G, hGe, hGb, g0, g1⟩ := H3.out.1.2.2.2.2.2.2.cells hr; have hrm := List.mem_of_getElem? hr
                    have hrs : (r.ty, r.data) ∈ (scan f.d).1 := by rw [← HRC.out.1]; exact List.mem_map.2 ⟨r, hrm, rfl⟩
                    obtain ⟨hty, hd8⟩ := scan_recs HDR.out.2.2.2.2.1 _ hrs
                    have hjI : (j : Int) < (rl : Int) := by omega
                    obtain ⟨ty, htye⟩ : ∃ x, r.ty = x := ⟨_, rfl⟩; obtain ⟨dg, hdg⟩ : ∃ x, r.g = x := ⟨_, rfl⟩; obtain ⟨dc, hdc⟩ : ∃ x, r.cp = x := ⟨_, rfl⟩; obtain ⟨dl3, hdl⟩ : ∃ x, r.data.length = x := ⟨_, rfl⟩; have HRE : Hid (R[j]? = some r ∧ r.ty = ty ∧ r.g = dg ∧ r.cp = dc ∧ r.data.length = dl3) := ⟨hr, htye, hdg, hdc, hdl⟩; rw [htye] at g0 hty; rw [hdg, hdc, hdl] at g1; rw [hdl] at hd8; have l3c : wr.cell? ⟨Lb, 3, none⟩ = some (.bool ok3) := (cell_of_row _ _ _ _ _ _ H3.out.1.2.2.1).trans rfl; have hLl : Lb < wr.heap.size := (Array.getElem?_eq_some_iff.1 H3.out.1.2.2.1).1
                    have hLn : ¬ Lb = wr.heap.size := by omega
                    have v6 : IntKind.i64.wrap ((j : Int) + 1) = (j : Int) + 1 := IntWalk.i64_in _ (by omega); have hRBg := World.grownBy_alloc wr (.cells #[.int .i64 (ty : Int), .slice (some ⟨dg, 0, none⟩) dl3 dc] 85) none; subst hGe; clear hr htye hdg hdc hdl hrm hrs
                    cases ok3 with
                    | false =>
                      have HFF : Hid (∃ (j2 lb3 lt3 : Nat) (la3 : Option Addr) (ln3 lc3 : Nat) (ok3 : Bool) (fi : Nat), j2 = j + 1 ∧ (Wa.grownBy (wr.alloc (.cells #[.int .i64 (ty : Int), .slice (some ⟨dg, 0, none⟩) dl3 dc] 85)) none ∧ (wr.alloc (.cells #[.int .i64 (ty : Int), .slice (some ⟨dg, 0, none⟩) dl3 dc] 85)).heap[Vb]? = some (.cells #[.int .i64 0, .int .i64 0, .int .i64 0, .slice none 0 0, .slice sa k sc, .int .i64 (kp : Int), .bool db] 27 (0, 0)) ∧ (wr.alloc (.cells #[.int .i64 (ty : Int), .slice (some ⟨dg, 0, none⟩) dl3 dc] 85)).heap[Lb]? = some (.cells #[.int .i64 (lb3 : Int), .int .i64 (lt3 : Int), .slice la3 ln3 lc3, .bool ok3] 42 (0, 0)) ∧ (wr.alloc (.cells #[.int .i64 (ty : Int), .slice (some ⟨dg, 0, none⟩) dl3 dc] 85)).ownsRow Vb 87 3 (.slice g9 k c9) k xs ∧ (wr.alloc (.cells #[.int .i64 (ty : Int), .slice (some ⟨dg, 0, none⟩) dl3 dc] 85)).ownsRow Vb 3 1 (.slice sa k sc) k (ivs (((segF F).map Fi.num).take k)) ∧ (wr.alloc (.cells #[.int .i64 (ty : Int), .slice (some ⟨dg, 0, none⟩) dl3 dc] 85)).heap[Sg]? = some (.cells #[.int .i64 (fn : Int), .int .i64 (fi : Int), .int .i64 (va : Int)] 87 (0, 0)) ∧ RecRow (wr.alloc (.cells #[.int .i64 (ty : Int), .slice (some ⟨dg, 0, none⟩) dl3 dc] 85)) Wk.heap.size (.slice (some ⟨G, 0, none⟩) rl rc) R) ∧ (ok3 = false ∧ wread true ⟨0, 0, []⟩ (((segF F).map Fi.pf).take mk) = none)) := by
                        obtain ⟨⟨h1, h2, h3, h4, h5, h6, h7⟩, h8⟩ := H3.out
                        rcases h8 with ⟨h8, -⟩ | h8
                        · cases h8
                        · exact ⟨j + 1, lb3, lt3, la3, ln3, lc3, false, fi, rfl, ⟨grownBy_trans h1 hRBg, grown_blk hRBg h2, grown_blk hRBg h3, own1_grown h4 hRBg, own1_grown h5 hRBg, grown_blk hRBg h6, h7.grown hRBg (by simp)⟩, h8⟩
                      clear hRBg
                      rcases Classical.em (j = 0) with hj0 | hj0
                      · have tj : ((j : Int) == 0) = true := by simp [hj0]
                        clear hj0; go_wp2; go_roundw
                        case rel =>
                          obtain ⟨j2, lb4, lt4, la4, ln4, lc4, ok4, fi4, rfl, f1, f2⟩ := HFF.out; exact ⟨j + 1, lb4, lt4, la4, ln4, lc4, ok4, fi4, hjl, by go_num, f1, .inr f2⟩
                        case measure => simp [intOf]; omega
                      · have tj : ((j : Int) == 0) = false := by simp [hj0]
                        clear hj0; go_wp2; go_roundw
                        case rel =>
                          obtain ⟨j2, lb4, lt4, la4, ln4, lc4, ok4, fi4, rfl, f1, f2⟩ := HFF.out; exact ⟨j + 1, lb4, lt4, la4, ln4, lc4, ok4, fi4, hjl, by go_num, f1, .inr f2⟩
                        case measure => simp [intOf]; omega
                    | true =>
                      obtain ⟨q0, q, k1, k2, rfl, rfl, k5, k6⟩ : ∃ q0 q : Pl, wread true ⟨0, 0, []⟩ (((segF F).map Fi.pf).take mk) = ((rsteps fn (decide (k = 0)) q0 true (scan f.d).1).bind fun q' => wread false q' ((((segF F).map Fi.pf).take mk).drop (k + 1))) ∧ rsteps fn (decide (k = 0)) q0 true ((scan f.d).1.take j) = some q ∧ q.base = lb3 ∧ q.bt = lt3 ∧ SLg wr q.es (.slice la3 ln3 lc3) ∧ PlOk q := by
                        rcases H3.out.2 with ⟨-, h⟩ | ⟨h, -⟩
                        · exact h
                        · cases h
                      have hrm : r ∈ R := List.mem_of_getElem? HRE.out.1
                      have hsc : (scan f.d).1[j]? = some (ty, r.data) := by rw [← HRC.out.1, List.getElem?_map, HRE.out.1, ← HRE.out.2.1]; rfl
                      have HST : Hid (rsteps fn (decide (k = 0)) q0 true ((scan f.d).1.take (j + 1)) = wstep q fn (decide (k = 0)) (decide (j = 0)) ty r.data ∧ (wstep q fn (decide (k = 0)) (decide (j = 0)) ty r.data = none → rsteps fn (decide (k = 0)) q0 true (scan f.d).1 = none)) := rsteps_at hsc k2; have HQ3 : Hid (wread true ⟨0, 0, []⟩ (((segF F).map Fi.pf).take mk) = ((rsteps fn (decide (k = 0)) q0 true (scan f.d).1).bind fun q' => wread false q' ((((segF F).map Fi.pf).take mk).drop (k + 1))) ∧ SLg wr q.es (.slice la3 ln3 lc3) ∧ PlOk q) := ⟨k1, k5, k6⟩
                      have hkb : ((k : Int) == 0) = decide (k = 0) := by by_cases h : k = 0 <;> simp [h]
                      have hown : Own wr 5 dg r.data := by
                        have h9 := (H3.out.1.2.2.2.2.2.2.2.1 r hrm).2; rw [HRE.out.2.2.1] at h9; exact h9
                      have HCP : Hid (r.data.length ≤ dc ∧ dc ≤ maxLen ∧ r.data.length = dl3) := by
                        have h9 := HRC.out.2.1 r hrm; rw [HRE.out.2.2.2.1] at h9; exact ⟨h9.1, h9.2, HRE.out.2.2.2.2⟩
                      have HRD : Hid (∀ X : World, wr.grownBy X none → Calls Tryz.prog 34 #[.agg #[.int .i64 (q.base : Int), .int .i64 (q.bt : Int), .slice la3 ln3 lc3, .bool true], .agg #[.int .i64 (ty : Int), .slice (some ⟨dg, 0, none⟩) dl3 dc], .int .i64 (j : Int), .int .i64 (fn : Int), .bool ((k : Int) == 0)] X (ROut X (wstep q fn (decide (k = 0)) (decide (j = 0)) ty r.data))) := fun X hX => by
                        rw [hkb, ← HCP.out.2.2]; exact read_any q _ ty dg dc r.data j fn (decide (k = 0)) X k6 (k5.grown0 hX) hty ((hown.grown hX (by simp)).sl _ rfl) HCP.out.1 HCP.out.2.1 (by rw [HCP.out.2.2]; exact hd8)
                      have HL9 : Hid (∀ X : World, Own X 5 dg r.data → Calls Tryz.prog 33 #[.agg #[.int .i64 (ty : Int), .slice (some ⟨dg, 0, none⟩) dl3 dc]] X fun e w' => ∃ nv rv bo, e = .returned (.tuple #[.agg #[nv, rv], .bool bo]) ∧ (bo = true ↔ (1 ≤ ty ∧ ty ≤ 7 ∧ WOk (wb ty) (wroom ty) r.data)) ∧ (bo = true → Pay w' X.heap.size ty r.data nv rv) ∧ (bo = false → nv = .slice none 0 0 ∧ rv = .slice none 0 0) ∧ X.grownBy w' none) := fun X hX => by
                        rw [← HCP.out.2.2]; exact L3Right_any ty dg dc r.data X hty (hX.sl _ rfl) HCP.out.1 HCP.out.2.1 (by rw [HCP.out.2.2]; exact hd8)
                      have HRM : Hid (r ∈ R ∧ r.g = dg) := ⟨hrm, HRE.out.2.2.1⟩; have hnuw : wr.cell? ⟨gb, k, none⟩ = some (.int .i64 (fn : Int)) := ((bcell H3.out.1.1).1 _ _ (cell_block_lt HNA.out)).trans HNA.out; have hgbw : gb < wr.heap.size := cell_block_lt hnuw
                      have hgLb : gb ≠ Lb := by omega
                      clear k1 k2 k5 k6 hsc hkb hown hrm
                      go_upto_region 37 with fail
                      have hRb : (wr.alloc (.cells #[.int .i64 (ty : Int), .slice (some ⟨dg, 0, none⟩) dl3 dc] 85)).heap[wr.heap.size]? = some (.cells #[.int .i64 (ty : Int), .slice (some ⟨dg, 0, none⟩) dl3 dc] 85 (0, 0)) := heap_alloc_new wr _
                      have HD : Hid ((Wa.grownBy (wr.alloc (.cells #[.int .i64 (ty : Int), .slice (some ⟨dg, 0, none⟩) dl3 dc] 85)) none ∧ (wr.alloc (.cells #[.int .i64 (ty : Int), .slice (some ⟨dg, 0, none⟩) dl3 dc] 85)).heap[Vb]? = some (.cells #[.int .i64 0, .int .i64 0, .int .i64 0, .slice none 0 0, .slice sa k sc, .int .i64 (kp : Int), .bool db] 27 (0, 0)) ∧ (wr.alloc (.cells #[.int .i64 (ty : Int), .slice (some ⟨dg, 0, none⟩) dl3 dc] 85)).heap[Lb]? = some (.cells #[.int .i64 (q.base : Int), .int .i64 (q.bt : Int), .slice la3 ln3 lc3, .bool true] 42 (0, 0)) ∧ (wr.alloc (.cells #[.int .i64 (ty : Int), .slice (some ⟨dg, 0, none⟩) dl3 dc] 85)).ownsRow Vb 87 3 (.slice g9 k c9) k xs ∧ (wr.alloc (.cells #[.int .i64 (ty : Int), .slice (some ⟨dg, 0, none⟩) dl3 dc] 85)).ownsRow Vb 3 1 (.slice sa k sc) k (ivs (((segF F).map Fi.num).take k)) ∧ (wr.alloc (.cells #[.int .i64 (ty : Int), .slice (some ⟨dg, 0, none⟩) dl3 dc] 85)).heap[Sg]? = some (.cells #[.int .i64 (fn : Int), .int .i64 (fi : Int), .int .i64 (va : Int)] 87 (0, 0)) ∧ RecRow (wr.alloc (.cells #[.int .i64 (ty : Int), .slice (some ⟨dg, 0, none⟩) dl3 dc] 85)) Wk.heap.size (.slice (some ⟨G, 0, none⟩) rl rc) R) ∧ (wr.alloc (.cells #[.int .i64 (ty : Int), .slice (some ⟨dg, 0, none⟩) dl3 dc] 85)).heap[wr.heap.size]? = some (.cells #[.int .i64 (ty : Int), .slice (some ⟨dg, 0, none⟩) dl3 dc] 85 (0, 0)) ∧ wr.grownBy (wr.alloc (.cells #[.int .i64 (ty : Int), .slice (some ⟨dg, 0, none⟩) dl3 dc] 85)) none ∧ (wr.alloc (.cells #[.int .i64 (ty : Int), .slice (some ⟨dg, 0, none⟩) dl3 dc] 85)).cell? ⟨gb, k, none⟩ = some (.int .i64 (fn : Int))) := by
                        obtain ⟨⟨h1, h2, h3, h4, h5, h6, h7⟩, -⟩ := H3.out; exact ⟨⟨grownBy_trans h1 hRBg, grown_blk hRBg h2, grown_blk hRBg h3, own1_grown h4 hRBg, own1_grown h5 hRBg, grown_blk hRBg h6, h7.grown hRBg (by simp)⟩, hRb, hRBg, ((bcell hRBg).1 _ _ (cell_block_lt hnuw)).trans hnuw⟩
                      clear hRb hRBg hnuw; generalize wr.alloc (.cells #[.int .i64 (ty : Int), .slice (some ⟨dg, 0, none⟩) dl3 dc] 85) = Wd at HD ⊢; obtain ⟨Rb, hRbe⟩ : ∃ x, wr.heap.size = x := ⟨_, rfl⟩; rw [hRbe] at HD ⊢
                      have hLRb : Lb < Rb := by rw [← hRbe]; exact hLl
                      have hRbW : Rb < Wd.heap.size := (Array.getElem?_eq_some_iff.1 HD.out.2.1).1
                      have hSgR : Sg < Rb := by rw [← hRbe]; exact (Array.getElem?_eq_some_iff.1 H3.out.1.2.2.2.2.2.1).1
                      have SKD : ∀ {Y : World}, Wd.grownBy Y none → (Y.heap[Lb]? = some (.cells #[.int .i64 (q.base : Int), .int .i64 (q.bt : Int), .slice la3 ln3 lc3, .bool true] 42 (0, 0)) ∧ Y.heap[Rb]? = some (.cells #[.int .i64 (ty : Int), .slice (some ⟨dg, 0, none⟩) dl3 dc] 85 (0, 0)) ∧ Y.cell? ⟨gb, k, none⟩ = some (.int .i64 (fn : Int))) := fun {Y} hv => ⟨grown_blk hv HD.out.1.2.2.1, grown_blk hv HD.out.2.1, ((bcell hv).1 _ _ (cell_block_lt HD.out.2.2.2)).trans HD.out.2.2.2⟩
                      refine wp_region_Z (fun Y => Y.heap[Lb]? = some (.cells #[.int .i64 (q.base : Int), .int .i64 (q.bt : Int), .slice la3 ln3 lc3, .bool true] 42 (0, 0)) ∧ Y.heap[Rb]? = some (.cells #[.int .i64 (ty : Int), .slice (some ⟨dg, 0, none⟩) dl3 dc] 85 (0, 0)) ∧ Y.cell? ⟨gb, k, none⟩ = some (.int .i64 (fn : Int))) (fun j => j == 10) (by kernel_rfl) ?_; have hS : Wd.drew.heap[Lb]? = some (.cells #[.int .i64 (q.base : Int), .int .i64 (q.bt : Int), .slice la3 ln3 lc3, .bool true] 42 (0, 0)) ∧ Wd.drew.heap[Rb]? = some (.cells #[.int .i64 (ty : Int), .slice (some ⟨dg, 0, none⟩) dl3 dc] 85 (0, 0)) ∧ Wd.drew.cell? ⟨gb, k, none⟩ = some (.int .i64 (fn : Int)) := SKD (grownBy_drew (grownBy_refl _ _)); refine wpAnyZ_load' (i := 0) (y := 10) (v := ?vz1) rfl (by kernel_rfl) (by kernel_rfl) (by kernel_rfl) (fun _ _ _ h => h) (fun j hj => .inl (by obtain rfl : j = 10 := (by simpa using hj); kernel_rfl)) rfl (by kernel_rfl) (Or.inl ⟨by rfl, ?yz1⟩) hS ?rz1
                      case yz1 => (intro W hW; have c0 : W.cell? ⟨Lb, 0, none⟩ = some (.int .i64 (q.base : Int)) := (cell_of_row W _ _ _ _ _ hW.1).trans rfl; have c1 : W.cell? ⟨Lb, 1, none⟩ = some (.int .i64 (q.bt : Int)) := (cell_of_row W _ _ _ _ _ hW.1).trans rfl; have c2 : W.cell? ⟨Lb, 2, none⟩ = some (.slice la3 ln3 lc3) := (cell_of_row W _ _ _ _ _ hW.1).trans rfl; have c3 : W.cell? ⟨Lb, 3, none⟩ = some (.bool true) := (cell_of_row W _ _ _ _ _ hW.1).trans rfl; go_simp; first | done | with_reducible rfl)
                      simp only [Act.put, List.setIfInBounds_toArray, List.set_cons_zero, List.set_cons_succ]; refine wpAnyZ_load' (i := 1) (y := 10) (v := ?vz2) rfl (by kernel_rfl) (by kernel_rfl) (by kernel_rfl) (fun _ _ _ h => h) (fun j hj => .inl (by obtain rfl : j = 10 := (by simpa using hj); kernel_rfl)) rfl (by kernel_rfl) (Or.inl ⟨by rfl, ?yz2⟩) hS ?rz2
                      case yz2 => (intro W hW; have c0 : W.cell? ⟨Rb, 0, none⟩ = some (.int .i64 (ty : Int)) := (cell_of_row W _ _ _ _ _ hW.2.1).trans rfl; have c1 : W.cell? ⟨Rb, 1, none⟩ = some (.slice (some ⟨dg, 0, none⟩) dl3 dc) := (cell_of_row W _ _ _ _ _ hW.2.1).trans rfl; go_simp; first | done | with_reducible rfl)
                      simp only [Act.put, List.setIfInBounds_toArray, List.set_cons_zero, List.set_cons_succ]; refine wpAnyZ_take' (i := 2) (v := ?vz3) rfl (by kernel_rfl) (by kernel_rfl) (by kernel_rfl) (fun _ _ _ h => h) (Or.inl ⟨by rfl, ?yz3⟩) ?rz3
                      case yz3 => (intro w _; go_simp; first | done | with_reducible rfl)
                      simp only [Act.put, List.setIfInBounds_toArray, List.set_cons_zero, List.set_cons_succ]; refine wpAnyZ_take' (i := 3) (v := ?vz4) rfl (by kernel_rfl) (by kernel_rfl) (by kernel_rfl) (fun _ _ _ h => h) (Or.inl ⟨by rfl, ?yz4⟩) ?rz4
                      case yz4 => (intro w _; go_simp; first | done | with_reducible rfl)
                      simp only [Act.put, List.setIfInBounds_toArray, List.set_cons_zero, List.set_cons_succ]; refine wpAnyZ_take' (i := 4) (v := ?vz5) rfl (by kernel_rfl) (by kernel_rfl) (by kernel_rfl) (fun _ _ _ h => h) (Or.inl ⟨by rfl, ?yz5⟩) ?rz5
                      case yz5 => (intro w _; go_simp; first | done | with_reducible rfl)
                      simp only [Act.put, List.setIfInBounds_toArray, List.set_cons_zero, List.set_cons_succ]; refine wpAnyZ_take' (i := 5) (v := ?vz6) rfl (by kernel_rfl) (by kernel_rfl) (by kernel_rfl) (fun _ _ _ h => h) (Or.inl ⟨by rfl, ?yz6⟩) ?rz6
                      case yz6 => (intro w _; go_simp; first | done | with_reducible rfl)
                      simp only [Act.put, List.setIfInBounds_toArray, List.set_cons_zero, List.set_cons_succ]; refine wpAnyZ_load' (i := 6) (y := 10) (v := ?vz7) rfl (by kernel_rfl) (by kernel_rfl) (by kernel_rfl) (fun _ _ _ h => h) (fun j hj => .inl (by obtain rfl : j = 10 := (by simpa using hj); kernel_rfl)) rfl (by kernel_rfl) (Or.inl ⟨by rfl, ?yz7⟩) hS ?rz7
                      case yz7 => (intro W hW; have c0 : W.cell? ⟨gb, k, none⟩ = some (.int .i64 (fn : Int)) := hW.2.2; go_simp; first | done | with_reducible rfl)
                      simp only [Act.put, List.setIfInBounds_toArray, List.set_cons_zero, List.set_cons_succ]; refine wpAnyZ_take' (i := 7) (v := ?vz8) rfl (by kernel_rfl) (by kernel_rfl) (by kernel_rfl) (fun _ _ _ h => h) (Or.inl ⟨by rfl, ?yz8⟩) ?rz8
                      case yz8 => (intro w _; go_simp; first | done | with_reducible rfl)
                      simp only [Act.put, List.setIfInBounds_toArray, List.set_cons_zero, List.set_cons_succ]; refine wpAnyZ_take' (i := 8) (v := ?vz9) rfl (by kernel_rfl) (by kernel_rfl) (by kernel_rfl) (fun _ _ _ h => h) (Or.inl ⟨by rfl, ?yz9⟩) ?rz9
                      case yz9 => (intro w _; go_simp; first | done | with_reducible rfl)
                      simp only [Act.put, List.setIfInBounds_toArray, List.set_cons_zero, List.set_cons_succ]; refine wpAnyZ_one' (i := 9) (by kernel_rfl) rfl (fun K hK => ?_); go_simp; go_at_call 34; refine (HRD.out _ (grownBy_trans HD.out.2.2.1 (grownBy_drew (grownBy_refl _ _)))).mono ?_; rintro e We ⟨hgE, b9, t9, sv9, ok9, rfl, ⟨oa9, n9, cc9, rfl⟩, hro⟩; have HGE : Hid (Wd.grownBy We none) := grownBy_trans (grownBy_drew (grownBy_refl _ _)) hgE; refine hK.out _ _ (fun _ _ => SKD HGE.out) ?_; clear hK K hgE; (try simp only [Act.put, List.setIfInBounds_toArray, List.set_cons_zero, List.set_cons_succ]); have hLe := grown_blk HGE.out HD.out.1.2.2.1; have ke0 : We.cell? ⟨Lb, 0, none⟩ = some (.int .i64 (q.base : Int)) := (cell_of_row _ _ _ _ _ _ hLe).trans rfl
                      have kf0 : We.frozen? ⟨Lb, 0, none⟩ = false := by simp [World.frozen?, hLe]
                      have ke1 : We.cell? ⟨Lb, 1, none⟩ = some (.int .i64 (q.bt : Int)) := (cell_of_row _ _ _ _ _ _ hLe).trans rfl
                      have kf1 : We.frozen? ⟨Lb, 1, none⟩ = false := by simp [World.frozen?, hLe]
                      have ke2 : We.cell? ⟨Lb, 2, none⟩ = some (.slice la3 ln3 lc3) := (cell_of_row _ _ _ _ _ _ hLe).trans rfl
                      have kf2 : We.frozen? ⟨Lb, 2, none⟩ = false := by simp [World.frozen?, hLe]
                      have ke3 : We.cell? ⟨Lb, 3, none⟩ = some (.bool true) := (cell_of_row _ _ _ _ _ _ hLe).trans rfl
                      have kf3 : We.frozen? ⟨Lb, 3, none⟩ = false := by simp [World.frozen?, hLe]
                      refine wpAnyZ_one' (i := 10) (by kernel_rfl) rfl (fun K hK => ?_); go_simp; refine hK.out _ _ (fun hc => (by cases hc)) ?_; clear hK K; (try simp only [Act.put]); refine wpAnyZ_done (by kernel_rfl) ?_ _
                      have HE9 : Hid ((Wa.grownBy ((((We.setCell ⟨Lb, 0, none⟩ (.int .i64 (b9 : Int))).setCell ⟨Lb, 1, none⟩ (.int .i64 (t9 : Int))).setCell ⟨Lb, 2, none⟩ (.slice oa9 n9 cc9)).setCell ⟨Lb, 3, none⟩ (.bool ok9)) none ∧ ((((We.setCell ⟨Lb, 0, none⟩ (.int .i64 (b9 : Int))).setCell ⟨Lb, 1, none⟩ (.int .i64 (t9 : Int))).setCell ⟨Lb, 2, none⟩ (.slice oa9 n9 cc9)).setCell ⟨Lb, 3, none⟩ (.bool ok9)).heap[Vb]? = some (.cells #[.int .i64 0, .int .i64 0, .int .i64 0, .slice none 0 0, .slice sa k sc, .int .i64 (kp : Int), .bool db] 27 (0, 0)) ∧ ((((We.setCell ⟨Lb, 0, none⟩ (.int .i64 (b9 : Int))).setCell ⟨Lb, 1, none⟩ (.int .i64 (t9 : Int))).setCell ⟨Lb, 2, none⟩ (.slice oa9 n9 cc9)).setCell ⟨Lb, 3, none⟩ (.bool ok9)).heap[Lb]? = some (.cells #[.int .i64 (b9 : Int), .int .i64 (t9 : Int), .slice oa9 n9 cc9, .bool ok9] 42 (0, 0)) ∧ ((((We.setCell ⟨Lb, 0, none⟩ (.int .i64 (b9 : Int))).setCell ⟨Lb, 1, none⟩ (.int .i64 (t9 : Int))).setCell ⟨Lb, 2, none⟩ (.slice oa9 n9 cc9)).setCell ⟨Lb, 3, none⟩ (.bool ok9)).ownsRow Vb 87 3 (.slice g9 k c9) k xs ∧ ((((We.setCell ⟨Lb, 0, none⟩ (.int .i64 (b9 : Int))).setCell ⟨Lb, 1, none⟩ (.int .i64 (t9 : Int))).setCell ⟨Lb, 2, none⟩ (.slice oa9 n9 cc9)).setCell ⟨Lb, 3, none⟩ (.bool ok9)).ownsRow Vb 3 1 (.slice sa k sc) k (ivs (((segF F).map Fi.num).take k)) ∧ ((((We.setCell ⟨Lb, 0, none⟩ (.int .i64 (b9 : Int))).setCell ⟨Lb, 1, none⟩ (.int .i64 (t9 : Int))).setCell ⟨Lb, 2, none⟩ (.slice oa9 n9 cc9)).setCell ⟨Lb, 3, none⟩ (.bool ok9)).heap[Sg]? = some (.cells #[.int .i64 (fn : Int), .int .i64 (fi : Int), .int .i64 (va : Int)] 87 (0, 0)) ∧ RecRow ((((We.setCell ⟨Lb, 0, none⟩ (.int .i64 (b9 : Int))).setCell ⟨Lb, 1, none⟩ (.int .i64 (t9 : Int))).setCell ⟨Lb, 2, none⟩ (.slice oa9 n9 cc9)).setCell ⟨Lb, 3, none⟩ (.bool ok9)) Wk.heap.size (.slice (some ⟨G, 0, none⟩) rl rc) R) ∧ ((((We.setCell ⟨Lb, 0, none⟩ (.int .i64 (b9 : Int))).setCell ⟨Lb, 1, none⟩ (.int .i64 (t9 : Int))).setCell ⟨Lb, 2, none⟩ (.slice oa9 n9 cc9)).setCell ⟨Lb, 3, none⟩ (.bool ok9)).heap[Rb]? = some (.cells #[.int .i64 (ty : Int), .slice (some ⟨dg, 0, none⟩) dl3 dc] 85 (0, 0)) ∧ ((ok9 = true ∧ ∃ q0 q' : Pl, wread true ⟨0, 0, []⟩ (((segF F).map Fi.pf).take mk) = ((rsteps fn (decide (k = 0)) q0 true (scan f.d).1).bind fun q' => wread false q' ((((segF F).map Fi.pf).take mk).drop (k + 1))) ∧ rsteps fn (decide (k = 0)) q0 true ((scan f.d).1.take (j + 1)) = some q' ∧ q'.base = b9 ∧ q'.bt = t9 ∧ SLg ((((We.setCell ⟨Lb, 0, none⟩ (.int .i64 (b9 : Int))).setCell ⟨Lb, 1, none⟩ (.int .i64 (t9 : Int))).setCell ⟨Lb, 2, none⟩ (.slice oa9 n9 cc9)).setCell ⟨Lb, 3, none⟩ (.bool ok9)) q'.es (.slice oa9 n9 cc9) ∧ PlOk q') ∨ (ok9 = false ∧ wread true ⟨0, 0, []⟩ (((segF F).map Fi.pf).take mk) = none)) ∧ (ok9 = true → j = 0 → ty = 1 ∧ WOk (wb 1) (wroom 1) r.data)) := by
                        obtain ⟨h1, h2, h3, h4, h5, h6, h7⟩ := HD.out.1
                        have hkf : ∀ k, k ≠ Lb → ((((We.setCell ⟨Lb, 0, none⟩ (.int .i64 (b9 : Int))).setCell ⟨Lb, 1, none⟩ (.int .i64 (t9 : Int))).setCell ⟨Lb, 2, none⟩ (.slice oa9 n9 cc9)).setCell ⟨Lb, 3, none⟩ (.bool ok9)).heap[k]? = We.heap[k]? := fun k hk => keep_four k hk
                        have g := HGE.out; refine ⟨⟨grown_four (grownBy_trans h1 g) (by omega), (hkf _ (by omega)).trans (grown_blk g h2), set_four hLe, own1_keepT (own1_grown h4 g) hLe (by decide) hkf, own1_keepT (own1_grown h5 g) hLe (by decide) hkf, (hkf _ (by omega)).trans (grown_blk g h6), rec_keepT (h7.grown g (by simp)) hLe (by decide) (by decide) hkf⟩, (hkf _ (by omega)).trans (grown_blk g HD.out.2.1), ?_, ?_⟩
                        · rcases hro with ⟨h8, p', e1, e2, e3, e4⟩ | ⟨h8, e1⟩
                          · exact .inl ⟨h8, q0, p', HQ3.out.1, HST.out.1.trans e1, e2, e3, slg_four e4 hLe, wstep_plok HQ3.out.2.2 e1⟩
                          · refine .inr ⟨h8, ?_⟩; rw [HQ3.out.1, HST.out.2 e1]
                            rfl
                        · intro h8 h9
                          rcases hro with ⟨-, p', e1, -⟩ | ⟨h7, -⟩
                          · rw [h9] at e1; exact wstep_head e1
                          · rw [h7] at h8; cases h8
                      generalize ((((We.setCell ⟨Lb, 0, none⟩ (.int .i64 (b9 : Int))).setCell ⟨Lb, 1, none⟩ (.int .i64 (t9 : Int))).setCell ⟨Lb, 2, none⟩ (.slice oa9 n9 cc9)).setCell ⟨Lb, 3, none⟩ (.bool ok9)) = W9 at HE9 ⊢; clear hLe ke0 ke1 ke2 ke3 kf0 kf1 kf2 kf3 hro SKD hS HRD l3c hLl hLn; have l9c : W9.cell? ⟨Lb, 3, none⟩ = some (.bool ok9) := (cell_of_row _ _ _ _ _ _ HE9.out.1.2.2.1).trans rfl
                      rcases Classical.em (j = 0) with hj0 | hj0
                      · have tj : ((j : Int) == 0) = true := by simp [hj0]
                        cases ok9 with
                        | true =>
                          obtain ⟨hty1, hwok⟩ := HE9.out.2.2.2 rfl hj0; have HT1 : Hid (ty = 1 ∧ WOk (wb 1) (wroom 1) r.data) := ⟨hty1, hwok⟩; have hR9 := HE9.out.1.2.2.2.2.2.2
                          have HO9 : Hid (Own W9 5 dg r.data) := by
                            have h9 := (hR9.2.1 r HRM.out.1).2; rw [HRM.out.2] at h9; exact h9
                          have r90 : W9.cell? ⟨Rb, 0, none⟩ = some (.int .i64 (ty : Int)) := (cell_of_row _ _ _ _ _ _ HE9.out.2.1).trans rfl; have r91 : W9.cell? ⟨Rb, 1, none⟩ = some (.slice (some ⟨dg, 0, none⟩) dl3 dc) := (cell_of_row _ _ _ _ _ _ HE9.out.2.1).trans rfl; have hSg9 : Sg < W9.heap.size := (Array.getElem?_eq_some_iff.1 HE9.out.1.2.2.2.2.2.1).1; clear hty1 hwok hR9 hj0; go_wp2_with fail; refine (HL9.out _ HO9.out).mono ?_; rintro e W10 ⟨nv, rv4, bo, rfl, hbo, hpay, -, hG10⟩; obtain rfl : bo = true := hbo.2 (by obtain ⟨h1, h2⟩ := HT1.out; subst h1; exact ⟨by omega, by omega, h2⟩); obtain ⟨gn, nc, gr4, rc4, rfl, hcn, rfl, -, -, -, -, hgn⟩ := hpay rfl
                          have hwl : (wb ty).length = 3 := by rw [HT1.out.1]; rfl
                          have hn1 := hcn 1 (by omega); rw [hwl]; obtain ⟨n1, hn1e⟩ : ∃ x, wn ty r.data 1 = x := ⟨_, rfl⟩; rw [hn1e] at hn1; have hgnl : gn < W10.heap.size := cell_block_lt hn1
                          have hgnn : ¬ gn = W10.heap.size := by omega
                          have hs10 := hG10.size; have hb10 := grown_blk hG10 HE9.out.1.2.2.2.2.2.1; have sg1 : W10.cell? ⟨Sg, 1, none⟩ = some (.int .i64 (fi : Int)) := (cell_of_row _ _ _ _ _ _ hb10).trans rfl
                          have sgf : W10.frozen? ⟨Sg, 1, none⟩ = false := by simp [World.frozen?, hb10]
                          have hSl10 : Sg < W10.heap.size := by omega
                          have hSn10 : ¬ Sg = W10.heap.size := by omega
                          have H10 : Hid (W9.grownBy W10 none) := hG10; clear hbo hpay hcn hgn hwl hn1e hb10 hG10 hs10; go_wp2; go_roundw
                          case rel =>
                            have g := H10.out; obtain ⟨⟨h1, h2, h3, h4, h5, h6, h7⟩, -, h8, -⟩ := HE9.out; have hbs := grown_blk g h6; have hA := World.grownBy_alloc (W10.setCell ⟨Sg, 1, none⟩ (.int .i64 (n1 : Int))) (.cells #[.slice (some ⟨gn, 0, none⟩) 3 nc, .slice (some ⟨gr4, 0, none⟩) (r.data.length - 24) rc4] 81) none; refine ⟨j + 1, b9, t9, oa9, n9, cc9, true, n1, hjl, by go_num, ⟨grownBy_trans (grownBy_setNew (grownBy_trans h1 g) (by show Wa.heap.size ≤ Sg; omega)) hA, grown_blk hA (set_oth 1 _ (by omega) (grown_blk g h2)), grown_blk hA (set_oth 1 _ (by omega) (grown_blk g h3)), own1_grown (own1_kept (own1_grown h4 g) (grownBy_setCell (grownBy_refl _ _)) (fun q hq hc => by have h9 := HG9.out q hq; have h0 := Option.some.inj hc; have h0' : Sg = q := h0; omega)) hA, own1_grown (own1_setT (own1_grown h5 g) hbs (by decide)) hA, grown_blk hA (set_blkL (L := [.int .i64 (fn : Int), .int .i64 (fi : Int), .int .i64 (va : Int)]) 1 _ hbs), (rec_setT (h7.grown g (by simp)) hbs (by decide) (by decide)).grown hA (by simp)⟩, ?_⟩
                            rcases h8 with ⟨h9, q9, q', e1, e2, e3, e4, e5, e6⟩ | ⟨h9, -⟩
                            · exact .inl ⟨rfl, q9, q', e1, e2, e3, e4, (slg_setT (e5.grown0 g) hbs (by decide) (by decide)).grown0 hA, e6⟩
                            · cases h9
                          case measure => simp [intOf]; omega
                        | false =>
                          clear hj0; go_wp2; go_roundw
                          case rel =>
                            refine ⟨j + 1, b9, t9, oa9, n9, cc9, false, fi, hjl, by go_num, ?_, ?_⟩
                            · exact HE9.out.1
                            · exact HE9.out.2.2.1
                          case measure => simp [intOf]; omega
                      · have tj : ((j : Int) == 0) = false := by simp [hj0]
                        clear hj0; go_wp2; go_roundw
                        case rel =>
                          refine ⟨j + 1, b9, t9, oa9, n9, cc9, ok9, fi, hjl, by go_num, ?_, ?_⟩
                          · exact HE9.out.1
                          · exact HE9.out.2.2.1
                        case measure => simp [intOf]; omega
                  · skip
                    obtain rfl : rl = j := by omega
                    have hjI : ¬ (rl : Int) < (rl : Int) := by omega
                    have HLS : Hid (((ok3 = true ∧ ∃ q : Pl, wread true ⟨0, 0, []⟩ (((segF F).map Fi.pf).take mk) = wread (decide (k + 1 = 0)) q ((((segF F).map Fi.pf).take mk).drop (k + 1)) ∧ q.base = lb3 ∧ q.bt = lt3 ∧ SLg wr q.es (.slice la3 ln3 lc3) ∧ PlOk q) ∨ (ok3 = false ∧ wread true ⟨0, 0, []⟩ (((segF F).map Fi.pf).take mk) = none))) := by
                      rcases H3.out.2 with ⟨h1, q0, q, e1, e2, e3, e4, e5, e6⟩ | h
                      · refine .inl ⟨h1, q, ?_, e3, e4, e5, e6⟩; rw [List.take_of_length_le (by rw [← HRC.out.1, List.length_map, HRC.out.2.2.1]; exact Nat.le_refl _)] at e2; rw [e1, e2]
                        simp
                      · exact .inr h
                    have s0 : wr.cell? ⟨Sg, 0, none⟩ = some (.int .i64 (fn : Int)) := (cell_of_row _ _ _ _ _ _ H3.out.1.2.2.2.2.2.1).trans rfl; have s1 : wr.cell? ⟨Sg, 1, none⟩ = some (.int .i64 (fi : Int)) := (cell_of_row _ _ _ _ _ _ H3.out.1.2.2.2.2.2.1).trans rfl; have s2 : wr.cell? ⟨Sg, 2, none⟩ = some (.int .i64 (va : Int)) := (cell_of_row _ _ _ _ _ _ H3.out.1.2.2.2.2.2.1).trans rfl; obtain ⟨i0, hi, hz0, hz1, hz2'⟩ := info_parts Tryz.infoRead
                    go_wp2_with (at_builtin; refine wpList_append_own _ rfl _ _ 43 rfl Vb 87 i0 (.agg #[.int .i64 0, .int .i64 0, .int .i64 0]) 3 24 Tryz.underlying43 hi hz0 hz1 hz2' rfl (by decide) (.slice g9 k c9) k xs rfl (by exact own1_grown H3.out.1.2.2.2.1 (World.grownBy_alloc _ _ _)) ⟨wr.heap.size, 0, none⟩ 1 1 [.int .i64 (fn : Int), .int .i64 (fi : Int), .int .i64 (va : Int)] rfl rfl ?c1 ?c2 ?c3 ?c4 ?c5 ?_)
                    try (
                      case c1 =>
                        intro j u hj; have hX : (wr.alloc (.cells #[.int .i64 (fn : Int), .int .i64 (fi : Int), .int .i64 (va : Int)] 87)).heap[wr.heap.size]? = some (.cells #[.int .i64 (fn : Int), .int .i64 (fi : Int), .int .i64 (va : Int)] 87 (0, 0)) := heap_alloc_new wr _
                        match j, hj with
                        | 0, hj => simp at hj; subst hj; exact (cell_of_row _ _ _ _ _ _ hX).trans rfl
                        | 1, hj => simp at hj; subst hj; exact (cell_of_row _ _ _ _ _ _ hX).trans rfl
                        | 2, hj => simp at hj; subst hj; exact (cell_of_row _ _ _ _ _ _ hX).trans rfl)
                    case c2 => first | (exact ⟨rfl, rfl, rfl⟩) | (intro u hu; simp at hu; rcases hu with rfl | rfl | rfl <;> rfl)
                    case c3 => first | omega | (unfold maxLen; omega)
                    case c4 => omega
                    case c5 => have := (Array.getElem?_eq_some_iff.1 H3.out.1.2.1).1; simp; omega
                    intro v' w4 hown' hgrow _; obtain ⟨g4, c4, rfl⟩ := own1_succ hown'; have hA := World.grownBy_alloc wr (.cells #[.int .i64 (fn : Int), .int .i64 (fi : Int), .int .i64 (va : Int)] 87) none; have oA := own1_grown H3.out.1.2.2.2.1 hA; have iA := own1_grown H3.out.1.2.2.2.2.1 hA
                    have H4 : Hid ((Wa.grownBy w4 none ∧ w4.heap[Vb]? = some (.cells #[.int .i64 0, .int .i64 0, .int .i64 0, .slice none 0 0, .slice sa k sc, .int .i64 (kp : Int), .bool db] 27 (0, 0)) ∧ w4.heap[Lb]? = some (.cells #[.int .i64 (lb3 : Int), .int .i64 (lt3 : Int), .slice la3 ln3 lc3, .bool ok3] 42 (0, 0)) ∧ w4.ownsRow Vb 87 3 (.slice (some ⟨g4, 0, none⟩) (k + 1) c4) (k + 1) (xs ++ [.int .i64 (fn : Int), .int .i64 (fi : Int), .int .i64 (va : Int)])) ∧ w4.ownsRow Vb 3 1 (.slice sa k sc) k (ivs (((segF F).map Fi.num).take k)) ∧ ((ok3 = true ∧ ∃ q : Pl, wread true ⟨0, 0, []⟩ (((segF F).map Fi.pf).take mk) = wread (decide (k + 1 = 0)) q ((((segF F).map Fi.pf).take mk).drop (k + 1)) ∧ q.base = lb3 ∧ q.bt = lt3 ∧ SLg w4 q.es (.slice la3 ln3 lc3) ∧ PlOk q) ∨ (ok3 = false ∧ wread true ⟨0, 0, []⟩ (((segF F).map Fi.pf).take mk) = none))) := by
                      obtain ⟨h1, h2, h3, h4, h5, h6, h7⟩ := H3.out.1; refine ⟨⟨grown_own2 (grownBy_trans h1 hA) (by omega) oA hgrow, blk_own hgrow oA (grown_blk hA h2) (by decide), blk_own hgrow oA (grown_blk hA h3) (by decide), hown'⟩, own1_kept iA hgrow (fun q hq hc => own_types oA iA (by decide) (k := q) hc hq), ?_⟩
                      rcases HLS.out with ⟨h8, q, e1, e2, e3, e4, e5⟩ | h8
                      · exact .inl ⟨h8, q, e1, e2, e3, slg_own hgrow oA (by decide) (by decide) (e4.grown0 hA), e5⟩
                      · exact .inr h8
                    have hnu4 : w4.cell? ⟨gb, k, none⟩ = some (.int .i64 (fn : Int)) := ((bcell H4.out.1.1).1 _ _ (cell_block_lt HNA.out)).trans HNA.out; have hV4 : Vb < w4.heap.size := (Array.getElem?_eq_some_iff.1 H4.out.1.2.1).1; clear hA oA iA hown' hgrow s0 s1 s2 HLS
                    go_upto_region 43 with fail
                    refine wp_region_Z (fun Y => Y.heap[Vb]? = some (.cells #[.int .i64 0, .int .i64 0, .int .i64 0, .slice none 0 0, .slice sa k sc, .int .i64 (kp : Int), .bool db] 27 (0, 0)) ∧ Y.cell? ⟨gb, k, none⟩ = some (.int .i64 (fn : Int))) (fun j => j == 9) (by kernel_rfl) ?_; have hS : w4.drew.heap[Vb]? = some (.cells #[.int .i64 0, .int .i64 0, .int .i64 0, .slice none 0 0, .slice sa k sc, .int .i64 (kp : Int), .bool db] 27 (0, 0)) ∧ w4.drew.cell? ⟨gb, k, none⟩ = some (.int .i64 (fn : Int)) := ⟨H4.out.1.2.1, hnu4⟩; refine wpAnyZ_take' (i := 0) (v := ?vz10) rfl (by kernel_rfl) (by kernel_rfl) (by kernel_rfl) (fun _ _ _ h => h) (Or.inl ⟨by rfl, ?yz10⟩) ?rz10
                    case yz10 => (intro w _; go_simp; first | done | with_reducible rfl)
                    simp only [Act.put, List.setIfInBounds_toArray, List.set_cons_zero, List.set_cons_succ]; refine wpAnyZ_load' (i := 1) (y := 9) (v := ?vz11) rfl (by kernel_rfl) (by kernel_rfl) (by kernel_rfl) (fun _ _ _ h => h) (fun j hj => .inl (by obtain rfl : j = 9 := (by simpa using hj); kernel_rfl)) rfl (by kernel_rfl) (Or.inl ⟨by rfl, ?yz11⟩) hS ?rz11
                    case yz11 => (intro W hW; have c4 : W.cell? ⟨Vb, 4, none⟩ = some (.slice sa k sc) := (cell_of_row W _ _ _ _ _ hW.1).trans rfl; go_simp; first | done | with_reducible rfl)
                    simp only [Act.put, List.setIfInBounds_toArray, List.set_cons_zero, List.set_cons_succ]; refine wpAnyZ_take' (i := 2) (v := ?vz12) rfl (by kernel_rfl) (by kernel_rfl) (by kernel_rfl) (fun _ _ _ h => h) (Or.inl ⟨by rfl, ?yz12⟩) ?rz12
                    case yz12 => (intro w _; go_simp; first | done | with_reducible rfl)
                    simp only [Act.put, List.setIfInBounds_toArray, List.set_cons_zero, List.set_cons_succ]; refine wpAnyZ_take' (i := 3) (v := ?vz13) rfl (by kernel_rfl) (by kernel_rfl) (by kernel_rfl) (fun _ _ _ h => h) (Or.inl ⟨by rfl, ?yz13⟩) ?rz13
                    case yz13 => (intro w _; go_simp; first | done | with_reducible rfl)
                    simp only [Act.put, List.setIfInBounds_toArray, List.set_cons_zero, List.set_cons_succ]; refine wpAnyZ_take' (i := 4) (v := ?vz14) rfl (by kernel_rfl) (by kernel_rfl) (by kernel_rfl) (fun _ _ _ h => h) (Or.inl ⟨by rfl, ?yz14⟩) ?rz14
                    case yz14 => (intro w _; go_simp; first | done | with_reducible rfl)
                    simp only [Act.put, List.setIfInBounds_toArray, List.set_cons_zero, List.set_cons_succ]; refine wpAnyZ_load' (i := 5) (y := 9) (v := ?vz15) rfl (by kernel_rfl) (by kernel_rfl) (by kernel_rfl) (fun _ _ _ h => h) (fun j hj => .inl (by obtain rfl : j = 9 := (by simpa using hj); kernel_rfl)) rfl (by kernel_rfl) (Or.inl ⟨by rfl, ?yz15⟩) hS ?rz15
                    case yz15 => (intro W hW; have c0 : W.cell? ⟨gb, k, none⟩ = some (.int .i64 (fn : Int)) := hW.2; go_simp; first | done | with_reducible rfl)
                    simp only [Act.put, List.setIfInBounds_toArray, List.set_cons_zero, List.set_cons_succ]; clear hS; have G0 : w4.grownBy w4.drew none := grownBy_drew (grownBy_refl _ _); generalize w4.drew = Y0 at G0 ⊢
                    have SK4 : ∀ {Y : World}, w4.grownBy Y none → (Y.heap[Vb]? = some (.cells #[.int .i64 0, .int .i64 0, .int .i64 0, .slice none 0 0, .slice sa k sc, .int .i64 (kp : Int), .bool db] 27 (0, 0)) ∧ Y.cell? ⟨gb, k, none⟩ = some (.int .i64 (fn : Int))) := fun {Y} hv => ⟨grown_blk hv H4.out.1.2.1, ((bcell hv).1 _ _ (cell_block_lt hnu4)).trans hnu4⟩
                    refine wpAnyZ_one' (i := 6) (by kernel_rfl) rfl (fun K hK => ?_); go_simp; refine hK.out _ _ (fun _ _ => SK4 (grownBy_alloc G0 _)) ?_; clear hK K; (try simp only [Act.put, List.setIfInBounds_toArray, List.set_cons_zero, List.set_cons_succ]); have G1 : w4.grownBy (Y0.alloc (.cells #[.int .i64 (fn : Int)] 3)) none := grownBy_alloc G0 _; have R1 : (Y0.alloc (.cells #[.int .i64 (fn : Int)] 3)).heap[Y0.heap.size]? = some (.cells #[.int .i64 (fn : Int)] 3 (0, 0)) := heap_alloc_new Y0 _; generalize Y0.alloc (.cells #[.int .i64 (fn : Int)] 3) = Y1 at G1 R1 ⊢; have oI := own1_grown H4.out.2.1 G1; refine wpAnyZ_one' (i := 7) (by kernel_rfl) rfl (fun K hK => ?_)
                    refine step_append1 (by rfl) (.tmp 195) (.tmp 200) 25 3 (by rfl) Tryz.underlying25 Tryz.infoIntW rfl (B := Vb) (by rfl) oI (ad := ⟨Y0.heap.size, 0, none⟩) (c := 1) (news := [.int .i64 (fn : Int)]) (by rfl) rfl (fun j u hj => (by
                        match j, hj with
                        | 0, hj => simp at hj; subst hj; exact (cell_of_row _ _ _ _ _ _ R1).trans rfl)) (fun u hu => (by simp at hu; subst hu; rfl)) (by decide) (by omega) (by have := G1.size; omega) ?_
                    intro v7 Y2 O7 g7; have hV2 := blk_own g7 oI (grown_blk G1 H4.out.1.2.1) (by decide); have hgb2 : Wa.grownBy Y2 none := grown_own2 (grownBy_trans H4.out.1.1 G1) (by omega) oI g7; refine hK.out _ _ (fun _ _ => ⟨hV2, ((bcell hgb2).1 _ _ (cell_block_lt HNA.out)).trans HNA.out⟩) ?_; clear hK K; (try simp only [Act.put, List.setIfInBounds_toArray, List.set_cons_zero, List.set_cons_succ]); obtain ⟨g8, c8, rfl⟩ := own1_succ O7
                    have H7 : Hid ((Wa.grownBy Y2 none ∧ Y2.heap[Vb]? = some (.cells #[.int .i64 0, .int .i64 0, .int .i64 0, .slice none 0 0, .slice sa k sc, .int .i64 (kp : Int), .bool db] 27 (0, 0)) ∧ Y2.heap[Lb]? = some (.cells #[.int .i64 (lb3 : Int), .int .i64 (lt3 : Int), .slice la3 ln3 lc3, .bool ok3] 42 (0, 0)) ∧ Y2.ownsRow Vb 87 3 (.slice (some ⟨g4, 0, none⟩) (k + 1) c4) (k + 1) (xs ++ [.int .i64 (fn : Int), .int .i64 (fi : Int), .int .i64 (va : Int)])) ∧ Y2.ownsRow Vb 3 1 (.slice (some ⟨g8, 0, none⟩) (k + 1) c8) (k + 1) (ivs (((segF F).map Fi.num).take k) ++ [.int .i64 (fn : Int)]) ∧ ((ok3 = true ∧ ∃ q : Pl, wread true ⟨0, 0, []⟩ (((segF F).map Fi.pf).take mk) = wread (decide (k + 1 = 0)) q ((((segF F).map Fi.pf).take mk).drop (k + 1)) ∧ q.base = lb3 ∧ q.bt = lt3 ∧ SLg Y2 q.es (.slice la3 ln3 lc3) ∧ PlOk q) ∨ (ok3 = false ∧ wread true ⟨0, 0, []⟩ (((segF F).map Fi.pf).take mk) = none))) := by
                      obtain ⟨⟨h1, h2, h3, h4⟩, h5, h6⟩ := H4.out; have oS := own1_grown h4 G1; refine ⟨⟨hgb2, hV2, blk_own g7 oI (grown_blk G1 h3) (by decide), own1_kept oS g7 (fun q hq hc => own_types oI oS (by decide) (k := q) hc hq)⟩, O7, ?_⟩
                      rcases h6 with ⟨h8, q, e1, e2, e3, e4, e5⟩ | h8
                      · exact .inl ⟨h8, q, e1, e2, e3, slg_own g7 oI (by decide) (by decide) (e4.grown0 G1), e5⟩
                      · exact .inr h8
                    have kv4 : Y2.cell? ⟨Vb, 4, none⟩ = some (.slice sa k sc) := (cell_of_row _ _ _ _ _ _ hV2).trans rfl
                    have kw4 : Y2.frozen? ⟨Vb, 4, none⟩ = false := by simp [World.frozen?, hV2]
                    have kv5 : Y2.cell? ⟨Vb, 5, none⟩ = some (.int .i64 (kp : Int)) := (cell_of_row _ _ _ _ _ _ hV2).trans rfl
                    have kw5 : Y2.frozen? ⟨Vb, 5, none⟩ = false := by simp [World.frozen?, hV2]
                    clear O7 g7 oI hgb2 G1 R1 G0 SK4 hnu4 H4; refine wpAnyZ_take' (i := 8) (v := ?vz16) rfl (by kernel_rfl) (by kernel_rfl) (by kernel_rfl) (fun _ _ _ h => h) (Or.inl ⟨by rfl, ?yz16⟩) ?rz16
                    case yz16 => (intro w _; go_simp; first | done | with_reducible rfl)
                    simp only [Act.put, List.setIfInBounds_toArray, List.set_cons_zero, List.set_cons_succ]; refine wpAnyZ_one' (i := 9) (by kernel_rfl) rfl (fun K hK => ?_); go_simp; refine hK.out _ _ (fun hc => (by cases hc)) ?_; clear hK K; (try simp only [Act.put]); refine wpAnyZ_done (by kernel_rfl) ?_ _; go_wp2; go_roundw
                    case rel =>
                      obtain ⟨⟨h1, h2, h3, h4⟩, h5, h6⟩ := H7.out; have hb4 := set_blkL (L := [.int .i64 0, .int .i64 0, .int .i64 0, .slice none 0 0, .slice sa k sc, .int .i64 (kp : Int), .bool db]) 4 (.slice (some ⟨g8, 0, none⟩) (k + 1) c8) h2; refine ⟨k + 1, va, lb3, lt3, la3, ln3, lc3, ok3, some ⟨g4, 0, none⟩, c4, _, some ⟨g8, 0, none⟩, c8, rfl, by omega, by go_num, ⟨grownBy_setNew (grownBy_setNew h1 (by show Wa.heap.size ≤ Vb; omega)) (by show Wa.heap.size ≤ Vb; omega), set_blkL 5 _ hb4, set_oth 5 _ (by omega) (set_oth 4 _ (by omega) h3), own1_setT (own1_setT h4 h2 (by decide)) hb4 (by decide), ?_⟩, ?_, ?_⟩
                      · rw [HDR.out.2.2.2.2.2]; have h9 := own1_setT (j := 5) (u := .int .i64 (va : Int)) (own1_setT (j := 4) (u := .slice (some ⟨g8, 0, none⟩) (k + 1) c8) h5 h2 (by decide)) hb4 (by decide)
                        simpa [ivs] using h9
                      · rw [HDR.out.2.1, keepP_snoc, HDR.out.2.2.2.1, HRC.out.2.2.2.2.1]
                      · rcases h6 with ⟨h8, q, e1, e2, e3, e4, e5⟩ | h8
                        · exact .inl ⟨h8, q, e1, e2, e3, slg_setT (slg_setT e4 h2 (by decide) (by decide)) hb4 (by decide) (by decide), e5⟩
                        · exact .inr h8
                    case measure => simp [intOf]; omega
          · skip
            obtain rfl : mk = k := by omega
            have hkI : ¬ (mk : Int) < (mk : Int) := by omega
            have HFIN : Hid ((ok = true ∧ ∃ q : Pl, walP (F.map Fi.pf) = some (q, ((segF F).map Fi.num).take mk, kp, db) ∧ q.base = lb ∧ q.bt = lt ∧ SLg wr q.es (.slice la ln lc) ∧ PlOk q) ∨ (ok = false ∧ walP (F.map Fi.pf) = none)) := by
              have hw : walP (F.map Fi.pf) = (wread true ⟨0, 0, []⟩ (((segF F).map Fi.pf).take mk)).map fun p => (p, (((segF F).map Fi.pf).take mk).map pnum, keepP (((segF F).map Fi.pf).take mk), db) := by
                rw [walP, ← segF_map, if_pos HC.out, HQ.out.1, HQ.out.2.1]
              have hnm : (((segF F).map Fi.pf).take mk).map pnum = ((segF F).map Fi.num).take mk := by rw [List.map_take, List.map_map]; rfl
              have htk : (((segF F).map Fi.pf).take mk).take mk = (((segF F).map Fi.pf).take mk) := List.take_of_length_le (by rw [List.length_take]; omega); have hdk : (((segF F).map Fi.pf).take mk).drop mk = [] := List.drop_eq_nil_iff.2 (by rw [List.length_take]; omega); obtain ⟨-, h2, h3⟩ := HR2.out; rw [htk] at h2
              rcases h3 with ⟨h4, q, e1, e2⟩ | ⟨h4, e1⟩
              · rw [hdk] at e1; exact .inl ⟨h4, q, by rw [hw, e1, hnm, h2]; simp [wread], e2⟩
              · exact .inr ⟨h4, by rw [hw, e1]; rfl⟩
            have hx0 := grown_blk HR2.out.1.1 HR.out.2.2.1; have hx1 := grown_blk HR2.out.1.1 HR.out.2.2.2.1; have hGw : w.grownBy wr none := grownBy_trans HR.out.2.2.2.2.1 HR2.out.1.1; have l3c : wr.cell? ⟨Lb, 3, none⟩ = some (.bool ok) := (cell_of_row _ _ _ _ _ _ HR2.out.1.2.2.1).trans rfl
            cases ok with
            | false =>
              have HNO : Hid (walP (F.map Fi.pf) = none) := by
                rcases HFIN.out with ⟨h, -⟩ | ⟨-, h⟩
                · cases h
                · exact h
              clear HFIN; have HT0 : Hid (wr.there w.heap.size 0 7) := there_blk (vs := [.int .i64 0, .int .i64 0, .int .i64 0, .slice none 0 0, .slice none 0 0, .int .i64 0, .bool false]) hx0 rfl
              go_wp2_with (first | (refine wpList_store_mid (by rfl) _ (.tmp 2) (.tmp 208) (by rfl) _ _ [.int .i64 8, .int .i64 0, .int .i64 0, .slice none 0 0, .slice none 0 0, .int .i64 0, .bool false].toArray (by rfl) (by rfl) ?ra8 ?rb8 ?rc8 ?rd8; exact HT0.out; show _ = some 7; exact Tryz.sizeView; exact all_oneCell_toArray (List.all_eq_true.1 rfl); simp only [Act.put]; generalize hX : World.setCells wr w.heap.size 0 _ = W6; have hb6 : W6.heap[w.heap.size]? = some (.cells [.int .i64 8, .int .i64 0, .int .i64 0, .slice none 0 0, .slice none 0 0, .int .i64 0, .bool false].toArray 27 (0, 0)) := (by rw [← hX]; exact setCells_all (cur := [.int .i64 0, .int .i64 0, .int .i64 0, .slice none 0 0, .slice none 0 0, .int .i64 0, .bool false]) hx0 rfl); have hl6 : W6.heap[w.heap.size + 1]? = some (.cells #[.int .i64 0, .int .i64 0, .slice none 0 0, .bool false] 42 (0, 0)) := (by rw [← hX]; exact (setCells_oth _ _ (by omega) _ _ _).trans hx1); have hG6 : w.grownBy W6 none := (by rw [← hX]; exact grownBy_setCellsN (Nat.le_refl _) _ _ _ hGw); clear hX; have y0 : W6.cell? ⟨w.heap.size + 1, 0, none⟩ = some (.int .i64 0) := (cell_of_row _ _ _ _ _ _ hl6).trans rfl; have y1 : W6.cell? ⟨w.heap.size + 1, 1, none⟩ = some (.int .i64 0) := (cell_of_row _ _ _ _ _ _ hl6).trans rfl; have y2 : W6.cell? ⟨w.heap.size + 1, 2, none⟩ = some (.slice none 0 0) := (cell_of_row _ _ _ _ _ _ hl6).trans rfl; have y3 : W6.cell? ⟨w.heap.size + 1, 3, none⟩ = some (.bool false) := (cell_of_row _ _ _ _ _ _ hl6).trans rfl; have yf0 : W6.frozen? ⟨w.heap.size + 1, 0, none⟩ = false := (by simp [World.frozen?, hl6]); have yf1 : W6.frozen? ⟨w.heap.size + 1, 1, none⟩ = false := (by simp [World.frozen?, hl6]); have yf2 : W6.frozen? ⟨w.heap.size + 1, 2, none⟩ = false := (by simp [World.frozen?, hl6]); have yf3 : W6.frozen? ⟨w.heap.size + 1, 3, none⟩ = false := (by simp [World.frozen?, hl6])) | fail)
              refine bodyPost_ret (results_l3w (g := w.heap.size) (g' := w.heap.size + 1) rfl rfl rfl (set_oth 3 _ (by omega) (set_oth 2 _ (by omega) (set_oth 1 _ (by omega) (set_oth 0 _ (by omega) hb6)))) rfl (set_four hl6) rfl) rfl ?_; exact ⟨grown_four hG6 (by omega), _, 0, 0, _, false, _, rfl, ⟨_, _, _, rfl⟩, ⟨_, _, _, rfl⟩, .inl ⟨HNO.out, rfl⟩⟩
            | true =>
              obtain ⟨q, hwp, rfl, rfl, hsl, hpl⟩ : ∃ q : Pl, walP (F.map Fi.pf) = some (q, ((segF F).map Fi.num).take mk, kp, db) ∧ q.base = lb ∧ q.bt = lt ∧ SLg wr q.es (.slice la ln lc) ∧ PlOk q := by
                rcases HFIN.out with ⟨-, h⟩ | ⟨h, -⟩
                · exact h
                · cases h
              obtain ⟨la', lc', hsv, hc1, hc2, hnil⟩ := hsl.is; simp only [Value.slice.injEq] at hsv; obtain ⟨rfl, rfl, rfl⟩ := hsv; obtain ⟨el, hel⟩ : ∃ x, q.es.length = x := ⟨_, rfl⟩
              have helb : el ≤ 1000000 := by have := hpl.last; omega
              have HP : Hid (walP (F.map Fi.pf) = some (q, ((segF F).map Fi.num).take mk, kp, db) ∧ PlOk q ∧ q.es.length = el ∧ (la = none → lc = 0)) := ⟨hwp, hpl, hel, hnil⟩
              have HR3 : Hid (wr.heap[Lb]? = some (.cells #[.int .i64 (q.base : Int), .int .i64 (q.bt : Int), .slice la el lc, .bool true] 42 (0, 0)) ∧ SLg wr q.es (.slice la el lc)) := by
                rw [← hel]; exact ⟨HR2.out.1.2.2.1, hsl⟩
              have a0 : wr.cell? ⟨Lb, 0, none⟩ = some (.int .i64 (q.base : Int)) := (cell_of_row _ _ _ _ _ _ HR3.out.1).trans rfl; have a1 : wr.cell? ⟨Lb, 1, none⟩ = some (.int .i64 (q.bt : Int)) := (cell_of_row _ _ _ _ _ _ HR3.out.1).trans rfl; have b1 : wr.cell? ⟨Vb, 1, none⟩ = some (.int .i64 0) := (cell_of_row _ _ _ _ _ _ HR2.out.1.2.1).trans rfl; have b2 : wr.cell? ⟨Vb, 2, none⟩ = some (.int .i64 0) := (cell_of_row _ _ _ _ _ _ HR2.out.1.2.1).trans rfl
              have bf1 : wr.frozen? ⟨Vb, 1, none⟩ = false := by simp [World.frozen?, HR2.out.1.2.1]
              have bf2 : wr.frozen? ⟨Vb, 2, none⟩ = false := by simp [World.frozen?, HR2.out.1.2.1]
              have hVL : Vb ≠ Lb := by omega
              try rw [hel]
              clear hwp hsl hpl hnil HFIN hel hc1
              go_upto_region 49 with fail
              have H5 : Hid (((wr.setCell ⟨Vb, 1, none⟩ (.int .i64 (q.base : Int))).setCell ⟨Vb, 2, none⟩ (.int .i64 (q.bt : Int))).heap[Vb]? = some (.cells #[.int .i64 0, .int .i64 (q.base : Int), .int .i64 (q.bt : Int), .slice none 0 0, .slice sa mk sc, .int .i64 (kp : Int), .bool db] 27 (0, 0)) ∧ ((wr.setCell ⟨Vb, 1, none⟩ (.int .i64 (q.base : Int))).setCell ⟨Vb, 2, none⟩ (.int .i64 (q.bt : Int))).heap[Lb]? = some (.cells #[.int .i64 (q.base : Int), .int .i64 (q.bt : Int), .slice la el lc, .bool true] 42 (0, 0)) ∧ ((wr.setCell ⟨Vb, 1, none⟩ (.int .i64 (q.base : Int))).setCell ⟨Vb, 2, none⟩ (.int .i64 (q.bt : Int))).heap[w.heap.size]? = some (.cells #[.int .i64 0, .int .i64 0, .int .i64 0, .slice none 0 0, .slice none 0 0, .int .i64 0, .bool false] 27 (0, 0)) ∧ ((wr.setCell ⟨Vb, 1, none⟩ (.int .i64 (q.base : Int))).setCell ⟨Vb, 2, none⟩ (.int .i64 (q.bt : Int))).heap[w.heap.size + 1]? = some (.cells #[.int .i64 0, .int .i64 0, .slice none 0 0, .bool false] 42 (0, 0)) ∧ SLg ((wr.setCell ⟨Vb, 1, none⟩ (.int .i64 (q.base : Int))).setCell ⟨Vb, 2, none⟩ (.int .i64 (q.bt : Int))) q.es (.slice la el lc) ∧ ((wr.setCell ⟨Vb, 1, none⟩ (.int .i64 (q.base : Int))).setCell ⟨Vb, 2, none⟩ (.int .i64 (q.bt : Int))).ownsRow Vb 3 1 (.slice sa mk sc) mk (ivs (((segF F).map Fi.num).take mk)) ∧ w.grownBy ((wr.setCell ⟨Vb, 1, none⟩ (.int .i64 (q.base : Int))).setCell ⟨Vb, 2, none⟩ (.int .i64 (q.bt : Int))) none) := by
                obtain ⟨h1, h2, h3, h4, h5⟩ := HR2.out.1; have hb1 := set_blkL (L := [.int .i64 0, .int .i64 0, .int .i64 0, .slice none 0 0, .slice sa mk sc, .int .i64 (kp : Int), .bool db]) 1 (.int .i64 (q.base : Int)) h2; exact ⟨set_blkL 2 _ hb1, set_oth 2 _ (by omega) (set_oth 1 _ (by omega) HR3.out.1), set_oth 2 _ (by omega) (set_oth 1 _ (by omega) hx0), set_oth 2 _ (by omega) (set_oth 1 _ (by omega) hx1), slg_setT (slg_setT HR3.out.2 h2 (by decide) (by decide)) hb1 (by decide) (by decide), own1_setT (own1_setT h5 h2 (by decide)) hb1 (by decide), grownBy_setNew (grownBy_setNew hGw (by show w.heap.size ≤ Vb; omega)) (by show w.heap.size ≤ Vb; omega)⟩
              generalize ((wr.setCell ⟨Vb, 1, none⟩ (.int .i64 (q.base : Int))).setCell ⟨Vb, 2, none⟩ (.int .i64 (q.bt : Int))) = W5 at H5 ⊢; clear a0 a1 b1 b2 bf1 bf2 hx0 hx1 hGw l3c HR2 HR3; obtain ⟨E, hE1, hE2, hE3, hE4, hE5, hE6⟩ := H5.out.2.2.2.2.1.parts; rw [HP.out.2.2.1] at hE3; have HE : Hid (E.length = q.es.length ∧ E.map En.tell = q.es ∧ (∀ e ∈ E, Own W5 5 e.g e.D ∧ e.off + e.n ≤ e.D.length) ∧ (E.map En.g).Nodup ∧ (∀ e ∈ E, e.t ≤ 1000000000 ∧ e.n ≤ 8192) ∧ EnS W5 la el E) := ⟨hE1, hE2, hE4, hE5, hE6, hE3⟩; have a2 : W5.cell? ⟨Lb, 2, none⟩ = some (.slice la el lc) := (cell_of_row _ _ _ _ _ _ H5.out.2.1).trans rfl; have hLW : Lb < W5.heap.size := (Array.getElem?_eq_some_iff.1 H5.out.2.1).1
              have hLW' : ¬ Lb = W5.heap.size := by omega
              clear hE1 hE2 hE3 hE4 hE5 hE6
              go_wp2_with (at_builtin; refine wpList_appE (by rfl) (.tmp 216) (.tmp 218) (by rfl) (by rfl) (B := W5.heap.size) (World.ownsRow_made W5 #[] 0 (Nat.le_refl _) (Nat.zero_le _) rfl) (by rfl) (HE.out.2.2.2.2.2.grown0 (World.grownBy_alloc _ _ _)) HP.out.2.2.2 (by omega) (by simp) ?_)
              intro v6 Y O6 g6; have GY : W5.grownBy Y none := grown_own (e := 47) (s := 2) (World.grownBy_alloc W5 _ _) (World.ownsRow_made W5 #[] 0 (Nat.le_refl _) (Nat.zero_le _) rfl) g6
              have O6' : Y.ownsRow W5.heap.size 47 2 v6 E.length (E.flatMap En.cells) := by
                have h9 : E.length = el := HE.out.1.trans HP.out.2.2.1; rw [h9]
                simpa using O6
              obtain ⟨oa6, c6, hv6, k2, k3, k4, k5⟩ := enS_own O6' rfl (fun e he => ⟨(HE.out.2.2.1 e he).1.grown GY (by simp), (HE.out.2.2.1 e he).2⟩) HE.out.2.2.2.1; rw [HE.out.1.trans HP.out.2.2.1] at hv6; subst hv6; have hV6 := grown_blk GY H5.out.1; have b3 : Y.cell? ⟨Vb, 3, none⟩ = some (.slice none 0 0) := (cell_of_row _ _ _ _ _ _ hV6).trans rfl
              have bf3 : Y.frozen? ⟨Vb, 3, none⟩ = false := by simp [World.frozen?, hV6]
              have H6 : Hid ((Y.setCell ⟨Vb, 3, none⟩ (.slice oa6 el c6)).heap[Vb]? = some (.cells #[.int .i64 0, .int .i64 (q.base : Int), .int .i64 (q.bt : Int), .slice oa6 el c6, .slice sa mk sc, .int .i64 (kp : Int), .bool db] 27 (0, 0)) ∧ (Y.setCell ⟨Vb, 3, none⟩ (.slice oa6 el c6)).heap[Lb]? = some (.cells #[.int .i64 (q.base : Int), .int .i64 (q.bt : Int), .slice la el lc, .bool true] 42 (0, 0)) ∧ (Y.setCell ⟨Vb, 3, none⟩ (.slice oa6 el c6)).heap[w.heap.size]? = some (.cells #[.int .i64 0, .int .i64 0, .int .i64 0, .slice none 0 0, .slice none 0 0, .int .i64 0, .bool false] 27 (0, 0)) ∧ (Y.setCell ⟨Vb, 3, none⟩ (.slice oa6 el c6)).heap[w.heap.size + 1]? = some (.cells #[.int .i64 0, .int .i64 0, .slice none 0 0, .bool false] 42 (0, 0)) ∧ SEn (Y.setCell ⟨Vb, 3, none⟩ (.slice oa6 el c6)) q.es oa6 c6 E ∧ (Y.setCell ⟨Vb, 3, none⟩ (.slice oa6 el c6)).ownsRow Vb 3 1 (.slice sa mk sc) mk (ivs (((segF F).map Fi.num).take mk)) ∧ w.grownBy (Y.setCell ⟨Vb, 3, none⟩ (.slice oa6 el c6)) none ∧ (∀ ad : Addr, oa6 = some ad → Lb < ad.block)) := by
                obtain ⟨h1, h2, h3, h4, h5, h6, h7⟩ := H5.out; refine ⟨set_blkL (L := [.int .i64 0, .int .i64 (q.base : Int), .int .i64 (q.bt : Int), .slice none 0 0, .slice sa mk sc, .int .i64 (kp : Int), .bool db]) 3 _ hV6, set_oth 3 _ (by omega) (grown_blk GY h2), set_oth 3 _ (by omega) (grown_blk GY h3), set_oth 3 _ (by omega) (grown_blk GY h4), ?_, own1_setT (own1_grown h6 GY) hV6 (by decide), grownBy_setNew (grownBy_trans h7 GY) (by show w.heap.size ≤ Vb; omega), fun ad h => by have := k5 ad h; omega⟩
                exact sen_keep ⟨k2, HE.out.2.1, k3, k4, HE.out.2.2.2.2.1⟩ (fun k cur t f ht hk => set_oth 3 _ (by
                  rintro rfl; rw [hV6] at hk; have h9 := Option.some.inj hk
                  injection h9 with _ h8 _
                  rcases ht with rfl | rfl <;> exact absurd h8 (by decide)) hk)
              clear O6 O6' g6 k2 k3 k4 k5 hV6
              go_upto_region 50 with fail
              generalize Y.setCell ⟨Vb, 3, none⟩ (.slice oa6 el c6) = Y5 at H6 ⊢; clear b3 bf3
              have HFI : Hid (∀ Wf : World, w.grownBy Wf none → (∀ k, k ≠ w.heap.size → k ≠ w.heap.size + 1 → Wf.heap[k]? = Y5.heap[k]?) → WalOut w F (.returned (.tuple #[.agg [.int .i64 0, .int .i64 (q.base : Int), .int .i64 (q.bt : Int), .slice oa6 el c6, .slice sa mk sc, .int .i64 (kp : Int), .bool db].toArray, .agg #[.int .i64 (q.base : Int), .int .i64 (q.bt : Int), .slice la el lc, .bool true], .slice g9 mk c9])) Wf) := fun Wf hG hk => by
                obtain ⟨-, -, h3, h4, h5, h6, -, h8⟩ := H6.out
                have hlen : (((segF F).map Fi.num).take mk).length = mk := by rw [List.length_take, List.length_map, HM.out]; have := HQ.out.2.2; omega
                obtain ⟨sa', sc', e1, e2, e3⟩ := inS_own (ns := ((segF F).map Fi.num).take mk) (by rw [hlen]; exact h6) (fun n hn => by
                  obtain ⟨f9, -, rfl⟩ := List.mem_map.1 (List.mem_of_mem_take hn)
                  exact numLe f9)
                rw [hlen] at e1; simp only [Value.slice.injEq] at e1; obtain ⟨rfl, -, rfl⟩ := e1; refine ⟨hG, [.int .i64 0, .int .i64 (q.base : Int), .int .i64 (q.bt : Int), .slice oa6 el c6, .slice sa mk sc, .int .i64 (kp : Int), .bool db], q.base, q.bt, .slice la el lc, true, .slice g9 mk c9, rfl, ⟨_, _, _, rfl⟩, ⟨_, _, _, rfl⟩, .inr ⟨q, ((segF F).map Fi.num).take mk, kp, db, oa6, c6, E, sa, sc, HP.out.1, by rw [hlen, HP.out.2.2.1], ?_, ?_, HP.out.2.1, fun ad h => by have := h8 ad h; omega, fun ad h => by have := e3 ad h; omega⟩⟩
                · exact sen_keep h5 (fun k cur t f ht hh => by
                    rw [hk k ?_ ?_]
                    · exact hh
                    · rintro rfl; rw [h3] at hh; have h9 := Option.some.inj hh
                      injection h9 with _ h8 _
                      rcases ht with rfl | rfl <;> exact absurd h8 (by decide)
                    · rintro rfl; rw [h4] at hh; have h9 := Option.some.inj hh
                      injection h9 with _ h8 _
                      rcases ht with rfl | rfl <;> exact absurd h8 (by decide))
                · exact inS_keep e2 (fun G hG => hk G (by have := e3 _ hG; simp at this; omega) (by have := e3 _ hG; simp at this; omega))
              refine wp_region_Z (fun Y => Y.heap[Vb]? = some (.cells #[.int .i64 0, .int .i64 (q.base : Int), .int .i64 (q.bt : Int), .slice oa6 el c6, .slice sa mk sc, .int .i64 (kp : Int), .bool db] 27 (0, 0)) ∧ Y.heap[Lb]? = some (.cells #[.int .i64 (q.base : Int), .int .i64 (q.bt : Int), .slice la el lc, .bool true] 42 (0, 0))) (fun _ => false) (by kernel_rfl) ?_; have hS : Y5.drew.heap[Vb]? = some (.cells #[.int .i64 0, .int .i64 (q.base : Int), .int .i64 (q.bt : Int), .slice oa6 el c6, .slice sa mk sc, .int .i64 (kp : Int), .bool db] 27 (0, 0)) ∧ Y5.drew.heap[Lb]? = some (.cells #[.int .i64 (q.base : Int), .int .i64 (q.bt : Int), .slice la el lc, .bool true] 42 (0, 0)) := ⟨H6.out.1, H6.out.2.1⟩; refine wpAnyZ_loadS (i := 0) (v := ?vz17) rfl (by kernel_rfl) (by kernel_rfl) (by kernel_rfl) (fun _ _ _ h => h) (fun _ => rfl) (Or.inl ⟨by rfl, ?yz17⟩) hS ?rz17
              case yz17 => (intro W hW; have c0 : W.cell? ⟨Vb, 0, none⟩ = some (.int .i64 0) := (cell_of_row W _ _ _ _ _ hW.1).trans rfl; have c1 : W.cell? ⟨Vb, 1, none⟩ = some (.int .i64 (q.base : Int)) := (cell_of_row W _ _ _ _ _ hW.1).trans rfl; have c2 : W.cell? ⟨Vb, 2, none⟩ = some (.int .i64 (q.bt : Int)) := (cell_of_row W _ _ _ _ _ hW.1).trans rfl; have c3 : W.cell? ⟨Vb, 3, none⟩ = some (.slice oa6 el c6) := (cell_of_row W _ _ _ _ _ hW.1).trans rfl; have c4 : W.cell? ⟨Vb, 4, none⟩ = some (.slice sa mk sc) := (cell_of_row W _ _ _ _ _ hW.1).trans rfl; have c5 : W.cell? ⟨Vb, 5, none⟩ = some (.int .i64 (kp : Int)) := (cell_of_row W _ _ _ _ _ hW.1).trans rfl; have c6 : W.cell? ⟨Vb, 6, none⟩ = some (.bool db) := (cell_of_row W _ _ _ _ _ hW.1).trans rfl; go_simp; first | done | with_reducible rfl)
              simp only [Act.put, List.setIfInBounds_toArray, List.set_cons_zero, List.set_cons_succ]; refine wpAnyZ_loadS (i := 1) (v := ?vz18) rfl (by kernel_rfl) (by kernel_rfl) (by kernel_rfl) (fun _ _ _ h => h) (fun _ => rfl) (Or.inl ⟨by rfl, ?yz18⟩) hS ?rz18
              case yz18 => (intro W hW; have c0 : W.cell? ⟨Lb, 0, none⟩ = some (.int .i64 (q.base : Int)) := (cell_of_row W _ _ _ _ _ hW.2).trans rfl; have c1 : W.cell? ⟨Lb, 1, none⟩ = some (.int .i64 (q.bt : Int)) := (cell_of_row W _ _ _ _ _ hW.2).trans rfl; have c2 : W.cell? ⟨Lb, 2, none⟩ = some (.slice la el lc) := (cell_of_row W _ _ _ _ _ hW.2).trans rfl; have c3 : W.cell? ⟨Lb, 3, none⟩ = some (.bool true) := (cell_of_row W _ _ _ _ _ hW.2).trans rfl; go_simp; first | done | with_reducible rfl)
              simp only [Act.put, List.setIfInBounds_toArray, List.set_cons_zero, List.set_cons_succ]; refine wpAnyZ_take' (i := 2) (v := ?vz19) rfl (by kernel_rfl) (by kernel_rfl) (by kernel_rfl) (fun _ _ _ h => h) (Or.inl ⟨by rfl, ?yz19⟩) ?rz19
              case yz19 => (intro w _; go_simp; first | done | with_reducible rfl)
              simp only [Act.put, List.setIfInBounds_toArray, List.set_cons_zero, List.set_cons_succ]; have H7 : Hid (Y5.drew.heap[w.heap.size]? = some (.cells #[.int .i64 0, .int .i64 0, .int .i64 0, .slice none 0 0, .slice none 0 0, .int .i64 0, .bool false] 27 (0, 0)) ∧ Y5.drew.heap[w.heap.size + 1]? = some (.cells #[.int .i64 0, .int .i64 0, .slice none 0 0, .bool false] 42 (0, 0)) ∧ w.grownBy Y5.drew none ∧ (∀ k : Nat, Y5.drew.heap[k]? = Y5.heap[k]?)) := ⟨H6.out.2.2.1, H6.out.2.2.2.1, grownBy_drew H6.out.2.2.2.2.2.2.1, fun _ => rfl⟩; clear hS; generalize Y5.drew = Y7 at H7 ⊢; refine wpAnyZ_one' (i := 3) (by kernel_rfl) rfl (fun K hK => ?_); refine step_store_mid (by rfl) _ (.tmp 2) (.tmp 221) (by rfl) w.heap.size 0 [.int .i64 0, .int .i64 (q.base : Int), .int .i64 (q.bt : Int), .slice oa6 el c6, .slice sa mk sc, .int .i64 (kp : Int), .bool db].toArray (by rfl) (by rfl) (there_blk (vs := [.int .i64 0, .int .i64 0, .int .i64 0, .slice none 0 0, .slice none 0 0, .int .i64 0, .bool false]) H7.out.1 rfl) (by show _ = some 7; exact Tryz.sizeView) (all_oneCell_toArray (List.all_eq_true.1 rfl)) ?_; refine hK.out _ _ (fun _ h => ⟨(setCells_oth _ _ (by omega) _ _ _).trans h.1, (setCells_oth _ _ (by omega) _ _ _).trans h.2⟩) ?_; clear hK K; (try simp only [Act.put]); generalize hX : World.setCells Y7 w.heap.size 0 _ = Y8
              have hb8 : Y8.heap[w.heap.size]? = some (.cells [.int .i64 0, .int .i64 (q.base : Int), .int .i64 (q.bt : Int), .slice oa6 el c6, .slice sa mk sc, .int .i64 (kp : Int), .bool db].toArray 27 (0, 0)) := by rw [← hX]; exact setCells_all (cur := [.int .i64 0, .int .i64 0, .int .i64 0, .slice none 0 0, .slice none 0 0, .int .i64 0, .bool false]) H7.out.1 rfl
              have hl8 : Y8.heap[w.heap.size + 1]? = some (.cells #[.int .i64 0, .int .i64 0, .slice none 0 0, .bool false] 42 (0, 0)) := by rw [← hX]; exact (setCells_oth _ _ (by omega) _ _ _).trans H7.out.2.1
              have hG8 : w.grownBy Y8 none := by rw [← hX]; exact grownBy_setCellsN (Nat.le_refl _) _ _ _ H7.out.2.2.1
              have HK8 : Hid (∀ k, k ≠ w.heap.size → Y8.heap[k]? = Y5.heap[k]?) := fun k hk => by rw [← hX]; exact (setCells_oth _ _ hk _ _ _).trans (H7.out.2.2.2 k)
              clear hX; have y0 : Y8.cell? ⟨w.heap.size + 1, 0, none⟩ = some (.int .i64 0) := (cell_of_row _ _ _ _ _ _ hl8).trans rfl
              have yf0 : Y8.frozen? ⟨w.heap.size + 1, 0, none⟩ = false := by simp [World.frozen?, hl8]
              have y1 : Y8.cell? ⟨w.heap.size + 1, 1, none⟩ = some (.int .i64 0) := (cell_of_row _ _ _ _ _ _ hl8).trans rfl
              have yf1 : Y8.frozen? ⟨w.heap.size + 1, 1, none⟩ = false := by simp [World.frozen?, hl8]
              have y2 : Y8.cell? ⟨w.heap.size + 1, 2, none⟩ = some (.slice none 0 0) := (cell_of_row _ _ _ _ _ _ hl8).trans rfl
              have yf2 : Y8.frozen? ⟨w.heap.size + 1, 2, none⟩ = false := by simp [World.frozen?, hl8]
              have y3 : Y8.cell? ⟨w.heap.size + 1, 3, none⟩ = some (.bool false) := (cell_of_row _ _ _ _ _ _ hl8).trans rfl
              have yf3 : Y8.frozen? ⟨w.heap.size + 1, 3, none⟩ = false := by simp [World.frozen?, hl8]
              refine wpAnyZ_one' (i := 4) (by kernel_rfl) rfl (fun K hK => ?_); go_simp; refine hK.out _ _ (fun _ h => ⟨(keep_four _ (by omega)).trans h.1, (keep_four _ (by omega)).trans h.2⟩) ?_; clear hK K; (try simp only [Act.put]); refine wpAnyZ_take' (i := 5) (v := ?vz20) rfl (by kernel_rfl) (by kernel_rfl) (by kernel_rfl) (fun _ _ _ h => h) (Or.inl ⟨by rfl, ?yz20⟩) ?rz20
              case yz20 => (intro w _; go_simp; first | done | with_reducible rfl)
              simp only [Act.put, List.setIfInBounds_toArray, List.set_cons_zero, List.set_cons_succ]; refine wpAnyZ_done (by kernel_rfl) ?_ _; go_wp2; refine bodyPost_ret (results_l3w (g := w.heap.size) (g' := w.heap.size + 1) rfl rfl rfl (set_oth 3 _ (by omega) (set_oth 2 _ (by omega) (set_oth 1 _ (by omega) (set_oth 0 _ (by omega) hb8)))) rfl (set_four hl8) rfl) rfl ?_; exact HFI.out _ (grown_four hG8 (by omega)) (fun k h0 h1 => (keep_four k h1).trans (HK8.out k h0))
end Go.Proofs.YtjnegjgpkboocaaGreatDoor
