/-
  SpRd, SpW0
-/
import Derived.Test.YtjnegjgpkboocaaGreatDoorWal16
/-
  The model's read, walked.
-/
namespace Go.Proofs.YtjnegjgpkboocaaGreatDoor
open Go.RowKit

theorem Tryz.sizeLog : (Tryz.prog.info? 42).map (·.size) = some 4 := by kernel_rfl
theorem results_log {fn : Func} {t : Tmp} {w : World} {g : Nat} {vs : List Value} {tmps : Array Value} (h : fn.results = #[.cell t 42]) (ht : tmps.getD t undef = .pointer (some ⟨g, 0, none⟩)) (hg : w.heap[g]? = some (.cells vs.toArray 42 (0, 0))) (hl : vs.length = 4) :
    (results fn tmps).run Tryz.prog w = .ok (.agg vs.toArray) w := by
  have h1 := run_loadVar_mid (P := Tryz.prog) w g 0 42 vs _ (range_blk hg) Tryz.underlying42 rfl (by rw [hl]; exact Tryz.sizeLog)
  have ht' : tmps[t]?.getD undef = .pointer (some ⟨g, 0, none⟩) := by simpa using ht
  simp [results, h, ht', h1, asAddr]
theorem set_four {W : World} {b : Nat} {x y z u a c d e : Value} {t : TypeId} (h : W.heap[b]? = some (.cells #[x, y, z, u] t (0, 0))) : ((((W.setCell ⟨b, 0, none⟩ a).setCell ⟨b, 1, none⟩ c).setCell ⟨b, 2, none⟩ d).setCell ⟨b, 3, none⟩ e).heap[b]? = some (.cells [a, c, d, e].toArray t (0, 0)) := set_blkL 3 e (set_blkL 2 d (set_blkL 1 c (set_blkL (L := [x, y, z, u]) 0 a h)))
theorem grown_four {w W : World} {b : Nat} {a c d e : Value} (h : w.grownBy W none) (hb : w.heap.size ≤ b) : w.grownBy ((((W.setCell ⟨b, 0, none⟩ a).setCell ⟨b, 1, none⟩ c).setCell ⟨b, 2, none⟩ d).setCell ⟨b, 3, none⟩ e) none := grownBy_setNew (grownBy_setNew (grownBy_setNew (grownBy_setNew h hb) hb) hb) hb
theorem slg_keep {w w' : World} {es : List (Nat × List Nat)} {sv : Value} (h : SLg w es sv) (hk : ∀ (k : Nat) (cur : Array Value) (t : TypeId) (f : Nat × Nat), t = 47 ∨ t = 5 → w.heap[k]? = some (Obj.cells cur t f) → w'.heap[k]? = some (Obj.cells cur t f)) : SLg w' es sv := by
  obtain ⟨ea, ec, E, h1, h2⟩ := h; refine ⟨ea, ec, E, h1, ⟨?_, h2.tell, h2.cap, h2.nil, h2.sm⟩⟩; obtain ⟨hl, hE | ⟨G, hG, hR⟩⟩ := h2.en
  · exact ⟨hl, .inl hE⟩
  · refine ⟨hl, .inr ⟨G, hG, hR.kept (fun k hk' => ?_)⟩⟩
    rcases hk' with rfl | hk'
    · obtain ⟨cur, h3, -⟩ := hR.row; rw [h3, hk _ _ _ _ (.inl rfl) h3]
    · obtain ⟨e, he, rfl⟩ := List.mem_map.1 hk'; obtain ⟨-, cur, h3, -⟩ := (hR.own e he).1; rw [h3, hk _ _ _ _ (.inr rfl) h3]
theorem slg_four {W : World} {b : Nat} {a c d e : Value} {es : List (Nat × List Nat)} {sv : Value} {cur : Array Value} (h : SLg W es sv) (hb : W.heap[b]? = some (.cells cur 42 (0, 0))) : SLg ((((W.setCell ⟨b, 0, none⟩ a).setCell ⟨b, 1, none⟩ c).setCell ⟨b, 2, none⟩ d).setCell ⟨b, 3, none⟩ e) es sv := by
  refine slg_keep h (fun k cur' t f ht hk => ?_)
  have hne : k ≠ b := by
    rintro rfl; rw [hb] at hk; have := Option.some.inj hk
    injection this with _ h2 _
    rcases ht with rfl | rfl <;> exact absurd h2 (by decide)
  exact set_oth 3 _ hne (set_oth 2 _ hne (set_oth 1 _ hne (set_oth 0 _ hne hk)))
theorem slg_one {W : World} {b j : Nat} {a : Value} {es : List (Nat × List Nat)} {sv : Value} {cur : Array Value} (h : SLg W es sv) (hb : W.heap[b]? = some (.cells cur 42 (0, 0))) : SLg (W.setCell ⟨b, j, none⟩ a) es sv := by
  refine slg_keep h (fun k cur' t f ht hk => ?_)
  have hne : k ≠ b := by
    rintro rfl; rw [hb] at hk; have := Option.some.inj hk
    injection this with _ h2 _
    rcases ht with rfl | rfl <;> exact absurd h2 (by decide)
  exact set_oth j _ hne hk
theorem drew_blk {W : World} {b : Nat} {o : Option Obj} (h : W.heap[b]? = o) : W.drew.heap[b]? = o := h
theorem slg_drew {W : World} {es : List (Nat × List Nat)} {sv : Value} (h : SLg W es sv) : SLg W.drew es sv := h.grown0 (grownBy_drew (grownBy_refl _ _))
theorem step_appE {w : World} {ops : Array Oper} {o : Oper} {a : Act} {K : Act → World → Prop} {Q : Exit → Act → World → Prop} {E' : Prop} (hgd : o.guard = none) (s x : Operand) (ho : o.op = .call { callee := .builtin .append, args := #[s, x], argTypes := #[24, 24] })
    {B : Nat} {v : Value} {n : Nat} {xs : List Value} (hs : a.eval s = v) (hown : w.ownsRow B 47 2 v n xs) {ea : Option Addr} {m ec : Nat} {E : List En} (hx : a.eval x = .slice ea m ec) (hE : EnS w ea m E) (hnil : ea = none → ec = 0) (hn : n + m ≤ 2000000) (hB : B ≤ w.heap.size)
    (h : ∀ v' w', w'.ownsRow B 47 2 v' (n + m) (xs ++ E.flatMap En.cells) → w.grownBy w' v.ownBlock → K (a.put o.dst v') w') : if Region.wanted o (yielded ops a.tmps) = true then Oper.wp Tryz.prog o a w K Q else E' := by
  have hw : Region.wanted o (yielded ops a.tmps) = true := by simp [Region.wanted, hgd]
  rw [if_pos hw]; obtain ⟨v', w', hrun, h1, h2⟩ := run_append_src (ty := o.type) hown hE hnil hn hB
  unfold Oper.wp
  simp [execOp, ho, resolve, invoke, builtin, hs, hx, hrun, Result.andThen]
  exact h v' w' h1 h2
theorem SLg.parts {w : World} {es : List (Nat × List Nat)} {ea : Option Addr} {n ec : Nat} (h : SLg w es (.slice ea n ec)) : ∃ E : List En, E.length = es.length ∧ E.map En.tell = es ∧ EnS w ea es.length E ∧ (∀ e ∈ E, Own w 5 e.g e.D ∧ e.off + e.n ≤ e.D.length) ∧ (E.map En.g).Nodup ∧ (∀ e ∈ E, e.t ≤ 1000000000 ∧ e.n ≤ 8192) := by
  obtain ⟨ea', ec', E, h1, h2⟩ := h; simp only [Value.slice.injEq] at h1; obtain ⟨rfl, -, rfl⟩ := h1; have hen := h2.en; rw [h2.len] at hen; refine ⟨E, h2.len, h2.tell, hen, ?_⟩; obtain ⟨-, ⟨-, rfl⟩ | ⟨G, -, hR⟩⟩ := h2.en
  · exact ⟨by simp, by simp, by simp⟩
  · exact ⟨hR.own, hR.apart, h2.sm⟩
theorem grown_own {V Y Y' : World} {e s n : Nat} {v : Value} {xs : List Value} (h : V.grownBy Y none) (ho : Y.ownsRow V.heap.size e s v n xs) (hg : Y.grownBy Y' v.ownBlock) : V.grownBy Y' none := by
  rcases hv : v.ownBlock with _ | g
  · rw [hv] at hg; exact grownBy_trans h hg
  · rw [hv] at hg; exact grownBy_new h hg (own1_base ho hv)
theorem slg_put {w Y : World} {B : Nat} {es : List (Nat × List Nat)} {v6 : Value} {n1 gr rn rc : Nat} {rest : List Nat} {E : List En} (h1 : E.length = es.length) (h2 : E.map En.tell = es) (h4 : ∀ e ∈ E, Own w 5 e.g e.D ∧ e.off + e.n ≤ e.D.length) (h5 : (E.map En.g).Nodup) (h6 : ∀ e ∈ E, e.t ≤ 1000000000 ∧ e.n ≤ 8192) (hg : w.grownBy Y none)
    (hO : Own Y 5 gr rest) (hgr : w.heap.size ≤ gr) (hrn : rn = rest.length) (hb1 : n1 ≤ 1000000000) (hb2 : rn ≤ 8192) (hown : Y.ownsRow B 47 2 v6 (es.length + 1) (E.flatMap En.cells ++ [.int .i64 (n1 : Int), .slice (some ⟨gr, 0, none⟩) rn rc])) : SLg Y (es ++ [(n1, rest)]) v6 := by
  have hlen : (E ++ [(⟨n1, rest, 0, rn, gr, rc⟩ : En)]).length = es.length + 1 := by simp [h1]
  have hflat : (E ++ [(⟨n1, rest, 0, rn, gr, rc⟩ : En)]).flatMap En.cells = E.flatMap En.cells ++ [.int .i64 (n1 : Int), .slice (some ⟨gr, 0, none⟩) rn rc] := by simp [En.cells]
  rw [← hflat] at hown
  have hown2 : ∀ e ∈ E ++ [(⟨n1, rest, 0, rn, gr, rc⟩ : En)], Own Y 5 e.g e.D ∧ e.off + e.n ≤ e.D.length := by
    intro e he
    rcases List.mem_append.1 he with he | he
    · exact ⟨(h4 e he).1.grown hg (by simp), (h4 e he).2⟩
    · simp only [List.mem_cons, List.not_mem_nil, or_false] at he; subst he; exact ⟨hO, by simp only; omega⟩
  have hnd : ((E ++ [(⟨n1, rest, 0, rn, gr, rc⟩ : En)]).map En.g).Nodup := by
    rw [List.map_append, List.nodup_append]; refine ⟨h5, by simp, ?_⟩; intro x hx y hy hxy; obtain ⟨e, he, rfl⟩ := List.mem_map.1 hx; simp only [List.map_cons, List.map_nil, List.mem_cons, List.not_mem_nil, or_false] at hy; have := (h4 e he).1.lt
    omega
  obtain ⟨oa, c, k1, k2, k3, k4, -⟩ := enS_own hown hlen.symm hown2 hnd; refine ⟨oa, c, _, by rw [k1, hlen]; simp, ⟨k2, ?_, k3, k4, ?_⟩⟩
  · rw [List.map_append, h2]
    simp [En.tell, En.data, hrn]
  · intro e he
    rcases List.mem_append.1 he with he | he
    · exact h6 e he
    · simp only [List.mem_cons, List.not_mem_nil, or_false] at he; subst he; exact ⟨hb1, hb2⟩
theorem slg_take {w Y : World} {B k : Nat} {es : List (Nat × List Nat)} {v6 : Value} {E : List En} (h1 : E.length = es.length) (h2 : E.map En.tell = es) (h4 : ∀ e ∈ E, Own w 5 e.g e.D ∧ e.off + e.n ≤ e.D.length) (h5 : (E.map En.g).Nodup) (h6 : ∀ e ∈ E, e.t ≤ 1000000000 ∧ e.n ≤ 8192) (hg : w.grownBy Y none) (hk : k ≤ es.length)
    (hown : Y.ownsRow B 47 2 v6 k ((E.take k).flatMap En.cells)) : SLg Y (es.take k) v6 := by
  have hlen : (E.take k).length = k := by simp; omega
  obtain ⟨oa, c, k1, k2, k3, k4, -⟩ := enS_own hown hlen.symm (fun e he => ⟨(h4 e (List.mem_of_mem_take he)).1.grown hg (by simp), (h4 e (List.mem_of_mem_take he)).2⟩) (by rw [List.map_take]; exact h5.sublist (List.take_sublist _ _)); refine ⟨oa, c, _, by rw [k1, hlen]; simp; omega, ⟨k2, ?_, k3, k4, fun e he => h6 e (List.mem_of_mem_take he)⟩⟩; rw [List.map_take, h2]
theorem EnS.take {w : World} {ea : Option Addr} {n k : Nat} {E : List En} (h : EnS w ea n E) (hk : k ≤ n) : EnS w ea k (E.take k) := by
  obtain ⟨hl, ⟨h1, rfl⟩ | ⟨G, h1, hR⟩⟩ := h
  · obtain rfl : n = 0 := by simpa using hl.symm
    obtain rfl : k = 0 := by omega
    exact ⟨rfl, .inl ⟨h1, rfl⟩⟩
  · refine ⟨by simp; omega, .inr ⟨G, h1, ⟨?_, fun e he => hR.own e (List.mem_of_mem_take he), by rw [List.map_take]; exact hR.apart.sublist (List.take_sublist _ _)⟩⟩⟩; obtain ⟨cur, h2, h3⟩ := hR.row; refine ⟨cur, h2, fun i e hi => h3 i e ?_⟩; rw [List.getElem?_take] at hi
    split at hi
    · exact hi
    · cases hi
theorem wpList_appE {w : World} {ops : Array Oper} {rest : List Oper} {o : Oper} {a : Act} {Q : Exit → Act → World → Prop} (hgd : o.guard = none) (s x : Operand) (ho : o.op = .call { callee := .builtin .append, args := #[s, x], argTypes := #[24, 24] })
    {B : Nat} {v : Value} {n : Nat} {xs : List Value} (hs : a.eval s = v) (hown : w.ownsRow B 47 2 v n xs) {ea : Option Addr} {m ec : Nat} {E : List En} (hx : a.eval x = .slice ea m ec) (hE : EnS w ea m E) (hnil : ea = none → ec = 0) (hn : n + m ≤ 2000000) (hB : B ≤ w.heap.size)
    (h : ∀ v' w', w'.ownsRow B 47 2 v' (n + m) (xs ++ E.flatMap En.cells) → w.grownBy w' v.ownBlock → wpList Tryz.prog ops Q rest (a.put o.dst v') w') : wpList Tryz.prog ops Q (o :: rest) a w := by
  refine wpList_plain hgd fun K hK => ?_
  obtain ⟨v', w', hrun, h1, h2⟩ := run_append_src (ty := o.type) hown hE hnil hn hB
  unfold Oper.wp
  simp [execOp, ho, resolve, invoke, builtin, hs, hx, hrun, Result.andThen]
  exact hK _ _ (h v' w' h1 h2)
theorem own1_is {w : World} {B e s n : Nat} {v : Value} {xs : List Value} (h : w.ownsRow B e s v n xs) : ∃ oa c, v = .slice oa n c := by
  obtain ⟨-, ⟨h1, h2⟩ | ⟨g, cap, -, h1, -⟩⟩ := h
  · exact ⟨none, 0, by rw [h1, h2]⟩
  · exact ⟨_, _, h1⟩
/-- what read leaves -/
def ROut (w : World) (o : Option Pl) (e : Ending) (w' : World) : Prop :=
  w.grownBy w' none ∧ ∃ (b t : Nat) (sv : Value) (ok : Bool), e = .returned (.agg #[.int .i64 (b : Int), .int .i64 (t : Int), sv, .bool ok]) ∧ (∃ oa n c, sv = .slice oa n c) ∧ ((ok = true ∧ ∃ p', o = some p' ∧ p'.base = b ∧ p'.bt = t ∧ SLg w' p'.es sv) ∨ (ok = false ∧ o = none))
open Classical in
theorem wstep_ok {p : Pl} {num : Nat} {fst hd : Bool} {ty : Nat} {d : List Nat} (h7 : ty ≤ 7) (hh : ¬ (ty ≠ 1 ∧ hd = true)) (hok : WOk (wb ty) (wroom ty) d) : wstep p num fst hd ty d = wact p num fst hd (wn ty d 0) (wn ty d 1) (wn ty d 2) (d.drop (8 * (wb ty).length)) ty := by
  rw [wstep, if_neg (by omega), if_neg hh, if_pos hok]
open Classical in
theorem wstep_bad {p : Pl} {num : Nat} {fst hd : Bool} {ty : Nat} {d : List Nat} (h : ¬ (1 ≤ ty ∧ ty ≤ 7 ∧ WOk (wb ty) (wroom ty) d)) : wstep p num fst hd ty d = none := by
  rw [wstep]
  split
  · rfl
  · split
    · rfl
    · split
      · rename_i h1 h2 h3
        have : ty = 0 := by
          rcases Nat.eq_zero_or_pos ty with h0 | h0
          · exact h0
          · exact absurd ⟨h0, by omega, h3⟩ h
        subst this
        rfl
      · rfl
open Classical in
theorem wstep_place {p : Pl} {num : Nat} {fst hd : Bool} {ty : Nat} {d : List Nat} (h : ¬ (ty = 1 ↔ hd = true)) : wstep p num fst hd ty d = none := by
  rw [wstep]
  split
  · rfl
  · split
    · rfl
    · split
      · rename_i h1 h2 h3
        have h4 : ty = 1 ∧ hd = false := by
          by_cases hy : ty = 1
          · refine ⟨hy, ?_⟩
            cases hd
            · rfl
            · exact absurd ⟨fun _ => rfl, fun _ => hy⟩ h
          · exact absurd ⟨hy, by
              cases hd
              · exact absurd ⟨fun h5 => absurd h5 hy, fun h5 => by cases h5⟩ h
              · rfl⟩ h2
        obtain ⟨rfl, rfl⟩ := h4
        simp [wact, headStep]
      · rfl
set_option maxRecDepth 100000 in
set_option maxHeartbeats 16000000 in
theorem read_any (p : Pl) (sv : Value) (ty g cp : Nat) (d : List Nat) (at_ num : Nat) (fst : Bool) (w : World) (hp : PlOk p) (hl : SLg w p.es sv) (hty : ty < 256) (hsl : SlB w (some ⟨g, 0, none⟩) d.length d) (hlc : d.length ≤ cp) (hm : cp ≤ maxLen) (hd8 : d.length ≤ 8192) :
    Calls Tryz.prog 34 #[.agg #[.int .i64 (p.base : Int), .int .i64 (p.bt : Int), sv, .bool true], .agg #[.int .i64 (ty : Int), .slice (some ⟨g, 0, none⟩) d.length cp], .int .i64 (at_ : Int), .int .i64 (num : Int), .bool fst] w
      (ROut w (wstep p num fst (decide (at_ = 0)) ty d)) := by
  obtain ⟨ea, ec, rfl, hc1, hc2, hnil⟩ := hl.is; obtain ⟨dl, hdl⟩ : ∃ x, d.length = x := ⟨_, rfl⟩; obtain ⟨el, hel⟩ : ∃ x, p.es.length = x := ⟨_, rfl⟩; have hpl := hp.last; have hpb := hp.bt
  have HR3 : Hid (∀ w' : World, w.grownBy w' none → Calls _ _ _ w' _) := fun w' hg => L3Right_any ty g cp d w' hty (hsl.grown0 hg) hlc hm hd8
  have HP : Hid (PlOk p ∧ SLg w p.es (.slice ea p.es.length ec) ∧ d.length = dl ∧ p.es.length = el ∧ (ea = none → ec = 0) ∧ d.length ≤ 8192) := ⟨hp, hl, hdl, hel, hnil, hd8⟩; rw [hdl] at HR3 ⊢; rw [hel] at hc1 hpl ⊢; clear hp hl hsl hlc hm hdl hel hnil hd8
  go_enter Tryz.func34, Tryz.ntmps34
  go_wp2_with fail; have hG0 : w.grownBy (((w.alloc (.cells #[.int .i64 (p.base : Int), .int .i64 (p.bt : Int), .slice ea el ec, .bool true] 42)).alloc (.cells #[.int .i64 (ty : Int), .slice (some ⟨g, 0, none⟩) dl cp] 85)).alloc (.cells #[.int .i64 0, .int .i64 0, .slice none 0 0, .bool false] 42)) none := grownBy_alloc (grownBy_alloc (World.grownBy_alloc w _ _) _) _; have hb0 : (((w.alloc (.cells #[.int .i64 (p.base : Int), .int .i64 (p.bt : Int), .slice ea el ec, .bool true] 42)).alloc (.cells #[.int .i64 (ty : Int), .slice (some ⟨g, 0, none⟩) dl cp] 85)).alloc (.cells #[.int .i64 0, .int .i64 0, .slice none 0 0, .bool false] 42)).heap[w.heap.size]? = some (.cells #[.int .i64 (p.base : Int), .int .i64 (p.bt : Int), .slice ea el ec, .bool true] 42 (0, 0)) := grown_blk (grownBy_alloc (World.grownBy_alloc _ _ _) _) (heap_alloc_new w _); have hb1 : (((w.alloc (.cells #[.int .i64 (p.base : Int), .int .i64 (p.bt : Int), .slice ea el ec, .bool true] 42)).alloc (.cells #[.int .i64 (ty : Int), .slice (some ⟨g, 0, none⟩) dl cp] 85)).alloc (.cells #[.int .i64 0, .int .i64 0, .slice none 0 0, .bool false] 42)).heap[w.heap.size + 1]? = some (.cells #[.int .i64 (ty : Int), .slice (some ⟨g, 0, none⟩) dl cp] 85 (0, 0)) := grown_blk (World.grownBy_alloc _ _ _) (heap_two w _ _)
  have hb2 : (((w.alloc (.cells #[.int .i64 (p.base : Int), .int .i64 (p.bt : Int), .slice ea el ec, .bool true] 42)).alloc (.cells #[.int .i64 (ty : Int), .slice (some ⟨g, 0, none⟩) dl cp] 85)).alloc (.cells #[.int .i64 0, .int .i64 0, .slice none 0 0, .bool false] 42)).heap[w.heap.size + 1 + 1]? = some (.cells #[.int .i64 0, .int .i64 0, .slice none 0 0, .bool false] 42 (0, 0)) := by
    have h9 := heap_alloc_new ((w.alloc (.cells #[.int .i64 (p.base : Int), .int .i64 (p.bt : Int), .slice ea el ec, .bool true] 42)).alloc (.cells #[.int .i64 (ty : Int), .slice (some ⟨g, 0, none⟩) dl cp] 85)) (.cells #[.int .i64 0, .int .i64 0, .slice none 0 0, .bool false] 42 (0, 0))
    simpa using h9
  generalize ((w.alloc (.cells #[.int .i64 (p.base : Int), .int .i64 (p.bt : Int), .slice ea el ec, .bool true] 42)).alloc (.cells #[.int .i64 (ty : Int), .slice (some ⟨g, 0, none⟩) dl cp] 85)).alloc (.cells #[.int .i64 0, .int .i64 0, .slice none 0 0, .bool false] 42) = W0 at hG0 hb0 hb1 hb2 ⊢; refine (HR3.out W0 hG0).mono ?_; clear HR3; rintro e W1 ⟨nv, rv, bo, rfl, hbo, hpay, hno, hG1⟩; have hgw1 := grownBy_trans hG0 hG1; have hsl1 := HP.out.2.1.grown0 hgw1; rw [HP.out.2.2.2.1] at hsl1; have H1 : Hid (W1.heap[w.heap.size]? = some (.cells #[.int .i64 (p.base : Int), .int .i64 (p.bt : Int), .slice ea el ec, .bool true] 42 (0, 0)) ∧ W1.heap[w.heap.size + 1]? = some (.cells #[.int .i64 (ty : Int), .slice (some ⟨g, 0, none⟩) dl cp] 85 (0, 0)) ∧ W1.heap[w.heap.size + 1 + 1]? = some (.cells #[.int .i64 0, .int .i64 0, .slice none 0 0, .bool false] 42 (0, 0)) ∧ w.grownBy W1 none ∧ SLg W1 p.es (.slice ea el ec) ∧ (bo = true → Pay W1 W0.heap.size ty d nv rv) ∧ (bo = true ↔ 1 ≤ ty ∧ ty ≤ 7 ∧ WOk (wb ty) (wroom ty) d) ∧ w.heap.size + 1 + 1 < W0.heap.size) := ⟨grown_blk hG1 hb0, grown_blk hG1 hb1, grown_blk hG1 hb2, hgw1, hsl1, hpay, hbo, (Array.getElem?_eq_some_iff.1 hb2).1⟩; have hlt1 : w.heap.size + 1 + 1 < W1.heap.size := (Array.getElem?_eq_some_iff.1 H1.out.2.2.1).1
  have hsv : ∃ a b c a' b' c', nv = .slice a b c ∧ rv = .slice a' b' c' := by
    cases bo with
    | false => obtain ⟨h1, h2⟩ := hno rfl; exact ⟨_, _, _, _, _, _, h1, h2⟩
    | true => obtain ⟨gn, cn, gr, cr, h1, -, h2, -⟩ := hpay rfl; exact ⟨_, _, _, _, _, _, h1, h2⟩
  obtain ⟨na, nn, nc, ra, rn, rc, rfl, rfl⟩ := hsv; clear hG0 hb0 hb1 hb2 hbo hpay hno hG1 hgw1 hsl1
  go_upto_region 2 with fail
  have hbP : (W1.alloc (.cells #[.slice na nn nc, .slice ra rn rc] 81)).heap[W1.heap.size]? = some (.cells #[.slice na nn nc, .slice ra rn rc] 81 (0, 0)) := heap_alloc_new W1 _; have hG2 : W1.grownBy (W1.alloc (.cells #[.slice na nn nc, .slice ra rn rc] 81)) none := World.grownBy_alloc W1 _ _; generalize W1.alloc (.cells #[.slice na nn nc, .slice ra rn rc] 81) = W2 at hbP hG2 ⊢; obtain ⟨X3, hX3⟩ : ∃ x, W1.heap.size = x := ⟨_, rfl⟩; have hX3' : W1.heap.size ≤ X3 := Nat.le_of_eq hX3; rw [hX3] at hbP hlt1 ⊢; have hlt2 : X3 < W2.heap.size := (Array.getElem?_eq_some_iff.1 hbP).1; have H2 : Hid (W2.heap[w.heap.size]? = some (.cells #[.int .i64 (p.base : Int), .int .i64 (p.bt : Int), .slice ea el ec, .bool true] 42 (0, 0)) ∧ W2.heap[w.heap.size + 1]? = some (.cells #[.int .i64 (ty : Int), .slice (some ⟨g, 0, none⟩) dl cp] 85 (0, 0)) ∧ W2.heap[w.heap.size + 1 + 1]? = some (.cells #[.int .i64 0, .int .i64 0, .slice none 0 0, .bool false] 42 (0, 0)) ∧ w.grownBy W2 none ∧ SLg W2 p.es (.slice ea el ec) ∧ W2.heap[X3]? = some (.cells #[.slice na nn nc, .slice ra rn rc] 81 (0, 0)) ∧ W1.grownBy W2 none) := ⟨grown_blk hG2 H1.out.1, grown_blk hG2 H1.out.2.1, grown_blk hG2 H1.out.2.2.1, grownBy_trans H1.out.2.2.2.1 hG2, H1.out.2.2.2.2.1.grown0 hG2, hbP, hG2⟩; clear hbP hG2 hX3; have a0 : W2.cell? ⟨w.heap.size, 0, none⟩ = some (.int .i64 (p.base : Int)) := (cell_of_row _ _ _ _ _ _ H2.out.1).trans rfl; have a1 : W2.cell? ⟨w.heap.size, 1, none⟩ = some (.int .i64 (p.bt : Int)) := (cell_of_row _ _ _ _ _ _ H2.out.1).trans rfl; have a2 : W2.cell? ⟨w.heap.size, 2, none⟩ = some (.slice ea el ec) := (cell_of_row _ _ _ _ _ _ H2.out.1).trans rfl; have a3 : W2.cell? ⟨w.heap.size, 3, none⟩ = some (.bool true) := (cell_of_row _ _ _ _ _ _ H2.out.1).trans rfl
  have af3 : W2.frozen? ⟨w.heap.size, 3, none⟩ = false := by simp [World.frozen?, H2.out.1]
  have r0 : W2.cell? ⟨w.heap.size + 1, 0, none⟩ = some (.int .i64 (ty : Int)) := (cell_of_row _ _ _ _ _ _ H2.out.2.1).trans rfl; have z0 : W2.cell? ⟨w.heap.size + 1 + 1, 0, none⟩ = some (.int .i64 0) := (cell_of_row _ _ _ _ _ _ H2.out.2.2.1).trans rfl; have z1 : W2.cell? ⟨w.heap.size + 1 + 1, 1, none⟩ = some (.int .i64 0) := (cell_of_row _ _ _ _ _ _ H2.out.2.2.1).trans rfl; have z2 : W2.cell? ⟨w.heap.size + 1 + 1, 2, none⟩ = some (.slice none 0 0) := (cell_of_row _ _ _ _ _ _ H2.out.2.2.1).trans rfl; have z3 : W2.cell? ⟨w.heap.size + 1 + 1, 3, none⟩ = some (.bool false) := (cell_of_row _ _ _ _ _ _ H2.out.2.2.1).trans rfl
  have zf : ∀ o, W2.frozen? ⟨w.heap.size + 1 + 1, o, none⟩ = false := fun o => by simp [World.frozen?, H2.out.2.2.1]
  have zf0 := zf 0; have zf1 := zf 1; have zf2 := zf 2; have zf3 := zf 3; clear zf
  have HBAD : Hid (∀ o : Option Pl, o = none → ROut w o (.returned (.agg #[.int .i64 (p.base : Int), .int .i64 (p.bt : Int), .slice ea el ec, .bool false])) ((((((W2.setCell ⟨w.heap.size, 3, none⟩ (.bool false)).setCell ⟨w.heap.size + 1 + 1, 0, none⟩ (.int .i64 (p.base : Int))).setCell ⟨w.heap.size + 1 + 1, 1, none⟩ (.int .i64 (p.bt : Int))).setCell ⟨w.heap.size + 1 + 1, 2, none⟩ (.slice ea el ec)).setCell ⟨w.heap.size + 1 + 1, 3, none⟩ (.bool false)))) := fun o ho => ⟨grown_four (grownBy_setNew H2.out.2.2.2.1 (Nat.le_refl _)) (by omega), _, _, _, false, rfl, ⟨_, _, _, rfl⟩, .inr ⟨rfl, ho⟩⟩
  have HBB : Hid ((W2.setCell ⟨w.heap.size, 3, none⟩ (.bool false)).heap[w.heap.size + 1 + 1]? = some (.cells #[.int .i64 0, .int .i64 0, .slice none 0 0, .bool false] 42 (0, 0))) := set_oth 3 _ (by omega) H2.out.2.2.1
  cases bo with
  | false =>
    have HN : Hid (wstep p num fst (decide (at_ = 0)) ty d = none) := wstep_bad (fun hc => by have := H1.out.2.2.2.2.2.2.1.2 hc; cases this); go_wp2; refine bodyPost_ret (results_log (g := w.heap.size + 1 + 1) rfl rfl (set_four HBB.out) rfl) rfl ?_; exact HBAD.out _ HN.out
  | true =>
    obtain ⟨hy1, hy7, hok⟩ := H1.out.2.2.2.2.2.2.1.1 rfl; have HOK : Hid (WOk (wb ty) (wroom ty) d) := hok; obtain ⟨gn, cn, gr, cr, e1, e2, e3, e4, e5, e6, e7, e8⟩ := H1.out.2.2.2.2.2.1 rfl; simp only [Value.slice.injEq] at e1 e3; obtain ⟨rfl, rfl, rfl⟩ := e1; obtain ⟨rfl, rfl, rfl⟩ := e3; clear hok
    have HPY : Hid ((∀ i, i < (wb ty).length → W2.cell? ⟨gn, i, none⟩ = some (.int .i64 ((wn ty d i : Nat) : Int))) ∧ Own W2 5 gr (d.drop (8 * (wb ty).length)) ∧ W0.heap.size ≤ gr ∧ d.length - 8 * (wb ty).length ≤ rc ∧ rc ≤ maxLen ∧ gr < X3) := by
      refine ⟨fun i hi => ((bcell H2.out.2.2.2.2.2.2).1 _ _ (cell_block_lt (e2 i hi))).trans (e2 i hi), e5.grown H2.out.2.2.2.2.2.2 (by simp), e4, e6, e7, ?_⟩; have := e5.lt
      omega
    have HGN : Hid (W0.heap.size ≤ gn) := e8; clear e2 e4 e5 e6 e7 e8
    rcases Classical.em (ty = 1) with h1 | h1
    · rcases Classical.em (at_ = 0) with h2 | h2
      · have t1 : ((ty : Int) == 1) = true := by simp; omega
        have t2 : ((at_ : Int) == 0) = true := by simp; omega
        have HST : Hid (wstep p num fst (decide (at_ = 0)) ty d = wact p num fst (decide (at_ = 0)) (wn ty d 0) (wn ty d 1) (wn ty d 2) (d.drop (8 * (wb ty).length)) ty) := wstep_ok hy7 (by simp; omega) HOK.out; have HT1 : Hid (ty = 1 ∧ at_ = 0) := ⟨h1, h2⟩
        have hwl : (wb ty).length = 3 := by rw [h1]; rfl
        rw [hwl] at H2 HPY HST ⊢; obtain ⟨n0, hn0⟩ : ∃ x, wn ty d 0 = x := ⟨_, rfl⟩
        have q0 : W2.cell? ⟨gn, 0, none⟩ = some (.int .i64 (n0 : Int)) := by rw [← hn0]; exact HPY.out.1 0 (by omega)
        obtain ⟨n1, hn1⟩ : ∃ x, wn ty d 1 = x := ⟨_, rfl⟩
        have q1 : W2.cell? ⟨gn, 1, none⟩ = some (.int .i64 (n1 : Int)) := by rw [← hn1]; exact HPY.out.1 1 (by omega)
        obtain ⟨n2, hn2⟩ : ∃ x, wn ty d 2 = x := ⟨_, rfl⟩
        have q2 : W2.cell? ⟨gn, 2, none⟩ = some (.int .i64 (n2 : Int)) := by rw [← hn2]; exact HPY.out.1 2 (by omega)
        have hw0 : 1 ≤ n0 ∧ n0 ≤ 99999999 := by
          rw [← hn0]; exact wn_in HOK.out (i := 0) (by rw [h1]; rfl)
        have hw1 : 1 ≤ n1 ∧ n1 ≤ 1000000 := by
          rw [← hn1]; exact wn_in HOK.out (i := 1) (by rw [h1]; rfl)
        have hw2 : 0 ≤ n2 ∧ n2 ≤ 1000000000 := by
          rw [← hn2]; exact wn_in HOK.out (i := 2) (by rw [h1]; rfl)
        have HNN : Hid (wn ty d 0 = n0 ∧ wn ty d 1 = n1 ∧ wn ty d 2 = n2) := ⟨hn0, hn1, hn2⟩; clear h1 h2 hn0 hn1 hn2
        cases fst with
        | true =>
          have v1 : IntKind.i64.wrap ((n1 : Int) - 1) = ((n1 - 1 : Nat) : Int) := by rw [IntWalk.i64_in _ (by omega)]; omega
          go_upto_region 9 with fail
          refine wp_region_Z (fun V => V.heap[X3]? = some (.cells #[.slice (some ⟨gn, 0, none⟩) 3 nc, .slice (some ⟨gr, 0, none⟩) (d.length - 8 * 3) rc] 81 (0, 0)) ∧ V.heap[w.heap.size]? = some (.cells #[.int .i64 (p.base : Int), .int .i64 (p.bt : Int), .slice ea el ec, .bool true] 42 (0, 0)) ∧ V.cell? ⟨gn, 0, none⟩ = some (.int .i64 (n0 : Int)) ∧ V.cell? ⟨gn, 1, none⟩ = some (.int .i64 (n1 : Int)) ∧ V.cell? ⟨gn, 2, none⟩ = some (.int .i64 (n2 : Int))) (fun j => j == 16) (by kernel_rfl) ?_; have hS : W2.drew.heap[X3]? = some (.cells #[.slice (some ⟨gn, 0, none⟩) 3 nc, .slice (some ⟨gr, 0, none⟩) (d.length - 8 * 3) rc] 81 (0, 0)) ∧ W2.drew.heap[w.heap.size]? = some (.cells #[.int .i64 (p.base : Int), .int .i64 (p.bt : Int), .slice ea el ec, .bool true] 42 (0, 0)) ∧ W2.drew.cell? ⟨gn, 0, none⟩ = some (.int .i64 (n0 : Int)) ∧ W2.drew.cell? ⟨gn, 1, none⟩ = some (.int .i64 (n1 : Int)) ∧ W2.drew.cell? ⟨gn, 2, none⟩ = some (.int .i64 (n2 : Int)) := ⟨H2.out.2.2.2.2.2.1, H2.out.1, q0, q1, q2⟩; refine wpAnyZ_take' (i := 0) (v := ?vz1) rfl (by kernel_rfl) (by kernel_rfl) (by kernel_rfl) (fun _ _ _ h => h) (Or.inl ⟨by rfl, ?yz1⟩) ?rz1
          case yz1 => (intro w _; go_simp; first | done | with_reducible rfl)
          simp only [Act.put, List.setIfInBounds_toArray, List.set_cons_zero, List.set_cons_succ]; refine wpAnyZ_load' (i := 1) (y := 16) (v := ?vz2) rfl (by kernel_rfl) (by kernel_rfl) (by kernel_rfl) (fun _ _ _ h => h) (fun j hj => .inl (by obtain rfl : j = 16 := (by simpa using hj); kernel_rfl)) rfl (by kernel_rfl) (Or.inl ⟨by rfl, ?yz2⟩) hS ?rz2
          case yz2 => (intro W hW; have c0 : W.cell? ⟨X3, 0, none⟩ = some (.slice (some ⟨gn, 0, none⟩) 3 nc) := (cell_of_row W _ _ _ _ _ hW.1).trans rfl; go_simp; first | done | with_reducible rfl)
          simp only [Act.put, List.setIfInBounds_toArray, List.set_cons_zero, List.set_cons_succ]; refine wpAnyZ_take' (i := 2) (v := ?vz3) rfl (by kernel_rfl) (by kernel_rfl) (by kernel_rfl) (fun _ _ _ h => h) (Or.inl ⟨by rfl, ?yz3⟩) ?rz3
          case yz3 => (intro w _; go_simp; first | done | with_reducible rfl)
          simp only [Act.put, List.setIfInBounds_toArray, List.set_cons_zero, List.set_cons_succ]; refine wpAnyZ_load' (i := 3) (y := 16) (v := ?vz4) rfl (by kernel_rfl) (by kernel_rfl) (by kernel_rfl) (fun _ _ _ h => h) (fun j hj => .inl (by obtain rfl : j = 16 := (by simpa using hj); kernel_rfl)) rfl (by kernel_rfl) (Or.inl ⟨by rfl, ?yz4⟩) hS ?rz4
          case yz4 => (intro W hW; have c0 : W.cell? ⟨gn, 1, none⟩ = some (.int .i64 (n1 : Int)) := hW.2.2.2.1; go_simp; first | done | with_reducible rfl)
          simp only [Act.put, List.setIfInBounds_toArray, List.set_cons_zero, List.set_cons_succ]; refine wpAnyZ_take' (i := 4) (v := ?vz5) rfl (by kernel_rfl) (by kernel_rfl) (by kernel_rfl) (fun _ _ _ h => h) (Or.inl ⟨by rfl, ?yz5⟩) ?rz5
          case yz5 => (intro w _; go_simp; first | done | with_reducible rfl)
          simp only [Act.put, List.setIfInBounds_toArray, List.set_cons_zero, List.set_cons_succ]; refine wpAnyZ_take' (i := 5) (v := ?vz6) rfl (by kernel_rfl) (by kernel_rfl) (by kernel_rfl) (fun _ _ _ h => h) (Or.inl ⟨by rfl, ?yz6⟩) ?rz6
          case yz6 => (intro w _; go_simp; first | done | with_reducible rfl)
          simp only [Act.put, List.setIfInBounds_toArray, List.set_cons_zero, List.set_cons_succ]; refine wpAnyZ_load' (i := 6) (y := 16) (v := ?vz7) rfl (by kernel_rfl) (by kernel_rfl) (by kernel_rfl) (fun _ _ _ h => h) (fun j hj => .inl (by obtain rfl : j = 16 := (by simpa using hj); kernel_rfl)) rfl (by kernel_rfl) (Or.inl ⟨by rfl, ?yz7⟩) hS ?rz7
          case yz7 => (intro W hW; have c0 : W.cell? ⟨X3, 0, none⟩ = some (.slice (some ⟨gn, 0, none⟩) 3 nc) := (cell_of_row W _ _ _ _ _ hW.1).trans rfl; go_simp; first | done | with_reducible rfl)
          simp only [Act.put, List.setIfInBounds_toArray, List.set_cons_zero, List.set_cons_succ]; refine wpAnyZ_take' (i := 7) (v := ?vz8) rfl (by kernel_rfl) (by kernel_rfl) (by kernel_rfl) (fun _ _ _ h => h) (Or.inl ⟨by rfl, ?yz8⟩) ?rz8
          case yz8 => (intro w _; go_simp; first | done | with_reducible rfl)
          simp only [Act.put, List.setIfInBounds_toArray, List.set_cons_zero, List.set_cons_succ]; refine wpAnyZ_load' (i := 8) (y := 16) (v := ?vz9) rfl (by kernel_rfl) (by kernel_rfl) (by kernel_rfl) (fun _ _ _ h => h) (fun j hj => .inl (by obtain rfl : j = 16 := (by simpa using hj); kernel_rfl)) rfl (by kernel_rfl) (Or.inl ⟨by rfl, ?yz9⟩) hS ?rz9
          case yz9 => (intro W hW; have c0 : W.cell? ⟨gn, 2, none⟩ = some (.int .i64 (n2 : Int)) := hW.2.2.2.2; go_simp; first | done | with_reducible rfl)
          simp only [Act.put, List.setIfInBounds_toArray, List.set_cons_zero, List.set_cons_succ]; refine wpAnyZ_take' (i := 9) (v := ?vz10) rfl (by kernel_rfl) (by kernel_rfl) (by kernel_rfl) (fun _ _ _ h => h) (Or.inl ⟨by rfl, ?yz10⟩) ?rz10
          case yz10 => (intro w _; go_simp; first | done | with_reducible rfl)
          simp only [Act.put, List.setIfInBounds_toArray, List.set_cons_zero, List.set_cons_succ]; refine wpAnyZ_load' (i := 10) (y := 16) (v := ?vz11) rfl (by kernel_rfl) (by kernel_rfl) (by kernel_rfl) (fun _ _ _ h => h) (fun j hj => .inl (by obtain rfl : j = 16 := (by simpa using hj); kernel_rfl)) rfl (by kernel_rfl) (Or.inl ⟨by rfl, ?yz11⟩) hS ?rz11
          case yz11 => (intro W hW; have c0 : W.cell? ⟨X3, 0, none⟩ = some (.slice (some ⟨gn, 0, none⟩) 3 nc) := (cell_of_row W _ _ _ _ _ hW.1).trans rfl; go_simp; first | done | with_reducible rfl)
          simp only [Act.put, List.setIfInBounds_toArray, List.set_cons_zero, List.set_cons_succ]; refine wpAnyZ_take' (i := 11) (v := ?vz12) rfl (by kernel_rfl) (by kernel_rfl) (by kernel_rfl) (fun _ _ _ h => h) (Or.inl ⟨by rfl, ?yz12⟩) ?rz12
          case yz12 => (intro w _; go_simp; first | done | with_reducible rfl)
          simp only [Act.put, List.setIfInBounds_toArray, List.set_cons_zero, List.set_cons_succ]; refine wpAnyZ_load' (i := 12) (y := 16) (v := ?vz13) rfl (by kernel_rfl) (by kernel_rfl) (by kernel_rfl) (fun _ _ _ h => h) (fun j hj => .inl (by obtain rfl : j = 16 := (by simpa using hj); kernel_rfl)) rfl (by kernel_rfl) (Or.inl ⟨by rfl, ?yz13⟩) hS ?rz13
          case yz13 => (intro W hW; have c0 : W.cell? ⟨gn, 0, none⟩ = some (.int .i64 (n0 : Int)) := hW.2.2.1; go_simp; first | done | with_reducible rfl)
          simp only [Act.put, List.setIfInBounds_toArray, List.set_cons_zero, List.set_cons_succ]; refine wpAnyZ_take' (i := 13) (v := ?vz14) rfl (by kernel_rfl) (by kernel_rfl) (by kernel_rfl) (fun _ _ _ h => h) (Or.inl ⟨by rfl, ?yz14⟩) ?rz14
          case yz14 => (intro w _; go_simp; first | done | with_reducible rfl)
          simp only [Act.put, List.setIfInBounds_toArray, List.set_cons_zero, List.set_cons_succ]; refine wpAnyZ_take' (i := 14) (v := ?vz15) rfl (by kernel_rfl) (by kernel_rfl) (by kernel_rfl) (fun _ _ _ h => h) (Or.inl ⟨by rfl, ?yz15⟩) ?rz15
          case yz15 => (intro w _; go_simp; first | done | with_reducible rfl)
          simp only [Act.put, List.setIfInBounds_toArray, List.set_cons_zero, List.set_cons_succ]; refine wpAnyZ_take' (i := 15) (v := ?vz16) rfl (by kernel_rfl) (by kernel_rfl) (by kernel_rfl) (fun _ _ _ h => h) (Or.inl ⟨by rfl, ?yz16⟩) ?rz16
          case yz16 => (intro w _; go_simp; first | done | with_reducible rfl)
          simp only [Act.put, List.setIfInBounds_toArray, List.set_cons_zero, List.set_cons_succ]; refine wpAnyZ_one' (i := 16) (by kernel_rfl) rfl (fun K hK => ?_); go_simp; refine hK.out _ _ (fun hc => (by cases hc)) ?_; clear hK K; (try simp only [Act.put]); refine wpAnyZ_done (by kernel_rfl) ?_ _; go_wp2; refine bodyPost_ret (results_log (g := w.heap.size + 1 + 1) rfl rfl (drew_blk (set_four H2.out.2.2.1)) rfl) rfl ?_; refine ⟨grownBy_drew (grown_four H2.out.2.2.2.1 (by omega)), _, _, _, _, rfl, ⟨_, _, _, rfl⟩, ?_⟩; rw [HST.out, HNN.out.1, HNN.out.2.1, HNN.out.2.2]; obtain ⟨rfl, rfl⟩ := HT1.out
          by_cases hq : n0 = num
          · refine .inl ⟨by simp [hq], ⟨n1 - 1, n2, []⟩, ?_, rfl, rfl, SLg.nil _⟩
            simp [wact, headStep, hq]
          · refine .inr ⟨by simp; omega, ?_⟩
            simp [wact, headStep]
            omega
        | false =>
          obtain ⟨la, hla⟩ : ∃ x, p.last = x := ⟨_, rfl⟩; obtain ⟨lt, hlt'⟩ : ∃ x, p.term p.last = x := ⟨_, rfl⟩
          have hlab : la ≤ 1000000 := by rw [← hla]; unfold Pl.last; rw [HP.out.2.2.2.1]; omega
          have HLE : Hid (p.last = la ∧ p.term la = lt) := ⟨hla, by rw [← hla]; exact hlt'⟩
          have HLA : Hid (∀ w' : World, W2.grownBy w' none → Calls Tryz.prog 51 #[.agg #[.int .i64 (p.base : Int), .int .i64 (p.bt : Int), .slice ea el ec, .bool true]] w' fun e w'' => e = .returned (.int .i64 (la : Int)) ∧ w'.grownBy w'' none) := fun w' hg => by rw [← hla]; exact slast_any p _ true w' (H2.out.2.2.2.2.1.grown0 hg) HP.out.1
          have HTE : Hid (∀ w' : World, W2.grownBy w' none → Calls Tryz.prog 52 #[.agg #[.int .i64 (p.base : Int), .int .i64 (p.bt : Int), .slice ea el ec, .bool true], .int .i64 (la : Int)] w' fun e w'' => e = .returned (.int .i64 (lt : Int)) ∧ w'.grownBy w'' none) := fun w' hg => by rw [← hlt', ← hla]; exact sterm_any p _ true p.last w' (H2.out.2.2.2.2.1.grown0 hg) HP.out.1 (by unfold Pl.last; omega) (Nat.le_refl _)
          have SKX : ∀ {V : World}, W2.grownBy V none → (V.heap[X3]? = some (.cells #[.slice (some ⟨gn, 0, none⟩) 3 nc, .slice (some ⟨gr, 0, none⟩) (d.length - 8 * 3) rc] 81 (0, 0)) ∧ V.heap[w.heap.size]? = some (.cells #[.int .i64 (p.base : Int), .int .i64 (p.bt : Int), .slice ea el ec, .bool true] 42 (0, 0)) ∧ V.cell? ⟨gn, 0, none⟩ = some (.int .i64 (n0 : Int)) ∧ V.cell? ⟨gn, 1, none⟩ = some (.int .i64 (n1 : Int)) ∧ V.cell? ⟨gn, 2, none⟩ = some (.int .i64 (n2 : Int))) := fun {V} hv => ⟨grown_blk hv H2.out.2.2.2.2.2.1, grown_blk hv H2.out.1, ((bcell hv).1 _ _ (cell_block_lt q0)).trans q0, ((bcell hv).1 _ _ (cell_block_lt q1)).trans q1, ((bcell hv).1 _ _ (cell_block_lt q2)).trans q2⟩
          clear hla hlt'; have v2 : IntKind.i64.wrap ((la : Int) + 1) = (la : Int) + 1 := IntWalk.i64_in _ (by omega)
          rcases Classical.em (n0 = num) with k0 | k0
          · have d0 : ((n0 : Int) == (num : Int)) = true := by simp; omega
            rcases Classical.em (n1 = la + 1) with k1 | k1
            · have d1 : ((n1 : Int) == (la : Int) + 1) = true := by simp; omega
              have HQ : Hid (n0 = num ∧ n1 = la + 1) := ⟨k0, k1⟩; clear k0 k1
              go_upto_region 10 with fail
              refine wp_region_Z (fun V => V.heap[X3]? = some (.cells #[.slice (some ⟨gn, 0, none⟩) 3 nc, .slice (some ⟨gr, 0, none⟩) (d.length - 8 * 3) rc] 81 (0, 0)) ∧ V.heap[w.heap.size]? = some (.cells #[.int .i64 (p.base : Int), .int .i64 (p.bt : Int), .slice ea el ec, .bool true] 42 (0, 0)) ∧ V.cell? ⟨gn, 0, none⟩ = some (.int .i64 (n0 : Int)) ∧ V.cell? ⟨gn, 1, none⟩ = some (.int .i64 (n1 : Int)) ∧ V.cell? ⟨gn, 2, none⟩ = some (.int .i64 (n2 : Int))) (fun j => j == 28) (by kernel_rfl) ?_; have hS : W2.drew.heap[X3]? = some (.cells #[.slice (some ⟨gn, 0, none⟩) 3 nc, .slice (some ⟨gr, 0, none⟩) (d.length - 8 * 3) rc] 81 (0, 0)) ∧ W2.drew.heap[w.heap.size]? = some (.cells #[.int .i64 (p.base : Int), .int .i64 (p.bt : Int), .slice ea el ec, .bool true] 42 (0, 0)) ∧ W2.drew.cell? ⟨gn, 0, none⟩ = some (.int .i64 (n0 : Int)) ∧ W2.drew.cell? ⟨gn, 1, none⟩ = some (.int .i64 (n1 : Int)) ∧ W2.drew.cell? ⟨gn, 2, none⟩ = some (.int .i64 (n2 : Int)) := ⟨H2.out.2.2.2.2.2.1, H2.out.1, q0, q1, q2⟩; have hS0 := hS; refine wpAnyZ_take' (i := 0) (v := ?vz46) rfl (by kernel_rfl) (by kernel_rfl) (by kernel_rfl) (fun _ _ _ h => h) (Or.inl ⟨by rfl, ?yz46⟩) ?rz46
              case yz46 => (intro w _; go_simp; first | done | with_reducible rfl)
              simp only [Act.put, List.setIfInBounds_toArray, List.set_cons_zero, List.set_cons_succ]; refine wpAnyZ_load' (i := 1) (y := 28) (v := ?vz47) rfl (by kernel_rfl) (by kernel_rfl) (by kernel_rfl) (fun _ _ _ h => h) (fun j hj => .inl (by obtain rfl : j = 28 := (by simpa using hj); kernel_rfl)) rfl (by kernel_rfl) (Or.inl ⟨by rfl, ?yz47⟩) hS ?rz47
              case yz47 => (intro W hW; have c0 : W.cell? ⟨X3, 0, none⟩ = some (.slice (some ⟨gn, 0, none⟩) 3 nc) := (cell_of_row W _ _ _ _ _ hW.1).trans rfl; go_simp; first | done | with_reducible rfl)
              simp only [Act.put, List.setIfInBounds_toArray, List.set_cons_zero, List.set_cons_succ]; refine wpAnyZ_take' (i := 2) (v := ?vz48) rfl (by kernel_rfl) (by kernel_rfl) (by kernel_rfl) (fun _ _ _ h => h) (Or.inl ⟨by rfl, ?yz48⟩) ?rz48
              case yz48 => (intro w _; go_simp; first | done | with_reducible rfl)
              simp only [Act.put, List.setIfInBounds_toArray, List.set_cons_zero, List.set_cons_succ]; refine wpAnyZ_load' (i := 3) (y := 28) (v := ?vz49) rfl (by kernel_rfl) (by kernel_rfl) (by kernel_rfl) (fun _ _ _ h => h) (fun j hj => .inl (by obtain rfl : j = 28 := (by simpa using hj); kernel_rfl)) rfl (by kernel_rfl) (Or.inl ⟨by rfl, ?yz49⟩) hS ?rz49
              case yz49 => (intro W hW; have c0 : W.cell? ⟨gn, 0, none⟩ = some (.int .i64 (n0 : Int)) := hW.2.2.1; go_simp; first | done | with_reducible rfl)
              simp only [Act.put, List.setIfInBounds_toArray, List.set_cons_zero, List.set_cons_succ]; refine wpAnyZ_take' (i := 4) (v := ?vz50) rfl (by kernel_rfl) (by kernel_rfl) (by kernel_rfl) (fun _ _ _ h => h) (Or.inl ⟨by rfl, ?yz50⟩) ?rz50
              case yz50 => (intro w _; go_simp; first | done | with_reducible rfl)
              simp only [Act.put, List.setIfInBounds_toArray, List.set_cons_zero, List.set_cons_succ]; refine wpAnyZ_take' (i := 5) (v := ?vz51) rfl (by kernel_rfl) (by kernel_rfl) (by kernel_rfl) (fun _ _ _ h => h) (Or.inl ⟨by rfl, ?yz51⟩) ?rz51
              case yz51 => (intro w _; go_simp; first | done | with_reducible rfl)
              simp only [Act.put, List.setIfInBounds_toArray, List.set_cons_zero, List.set_cons_succ]; refine wpAnyZ_take' (i := 6) (v := ?vz52) rfl (by kernel_rfl) (by kernel_rfl) (by kernel_rfl) (fun _ _ _ h => h) (Or.inl ⟨by rfl, ?yz52⟩) ?rz52
              case yz52 => (intro w _; go_simp; first | done | with_reducible rfl)
              simp only [Act.put, List.setIfInBounds_toArray, List.set_cons_zero, List.set_cons_succ]; refine wpAnyZ_take' (i := 7) (v := ?vz53) rfl (by kernel_rfl) (by kernel_rfl) (by kernel_rfl) (fun _ _ _ h => h) (Or.inl ⟨by rfl, ?yz53⟩) ?rz53
              case yz53 => (intro w _; go_simp; first | done | with_reducible rfl)
              simp only [Act.put, List.setIfInBounds_toArray, List.set_cons_zero, List.set_cons_succ]; refine wpAnyZ_load' (i := 8) (y := 28) (v := ?vz54) rfl (by kernel_rfl) (by kernel_rfl) (by kernel_rfl) (fun _ _ _ h => h) (fun j hj => .inl (by obtain rfl : j = 28 := (by simpa using hj); kernel_rfl)) rfl (by kernel_rfl) (Or.inl ⟨by rfl, ?yz54⟩) hS ?rz54
              case yz54 => (intro W hW; have c0 : W.cell? ⟨X3, 0, none⟩ = some (.slice (some ⟨gn, 0, none⟩) 3 nc) := (cell_of_row W _ _ _ _ _ hW.1).trans rfl; go_simp; first | done | with_reducible rfl)
              simp only [Act.put, List.setIfInBounds_toArray, List.set_cons_zero, List.set_cons_succ]; refine wpAnyZ_take' (i := 9) (v := ?vz55) rfl (by kernel_rfl) (by kernel_rfl) (by kernel_rfl) (fun _ _ _ h => h) (Or.inl ⟨by rfl, ?yz55⟩) ?rz55
              case yz55 => (intro w _; go_simp; first | done | with_reducible rfl)
              simp only [Act.put, List.setIfInBounds_toArray, List.set_cons_zero, List.set_cons_succ]; refine wpAnyZ_load' (i := 10) (y := 28) (v := ?vz56) rfl (by kernel_rfl) (by kernel_rfl) (by kernel_rfl) (fun _ _ _ h => h) (fun j hj => .inl (by obtain rfl : j = 28 := (by simpa using hj); kernel_rfl)) rfl (by kernel_rfl) (Or.inl ⟨by rfl, ?yz56⟩) hS ?rz56
              case yz56 => (intro W hW; have c0 : W.cell? ⟨gn, 1, none⟩ = some (.int .i64 (n1 : Int)) := hW.2.2.2.1; go_simp; first | done | with_reducible rfl)
              simp only [Act.put, List.setIfInBounds_toArray, List.set_cons_zero, List.set_cons_succ]; refine wpAnyZ_load' (i := 11) (y := 28) (v := ?vz57) rfl (by kernel_rfl) (by kernel_rfl) (by kernel_rfl) (fun _ _ _ h => h) (fun j hj => .inl (by obtain rfl : j = 28 := (by simpa using hj); kernel_rfl)) rfl (by kernel_rfl) (Or.inl ⟨by rfl, ?yz57⟩) hS ?rz57
              case yz57 => (intro W hW; have c0 : W.cell? ⟨w.heap.size, 0, none⟩ = some (.int .i64 (p.base : Int)) := (cell_of_row W _ _ _ _ _ hW.2.1).trans rfl; have c1 : W.cell? ⟨w.heap.size, 1, none⟩ = some (.int .i64 (p.bt : Int)) := (cell_of_row W _ _ _ _ _ hW.2.1).trans rfl; have c2 : W.cell? ⟨w.heap.size, 2, none⟩ = some (.slice ea el ec) := (cell_of_row W _ _ _ _ _ hW.2.1).trans rfl; have c3 : W.cell? ⟨w.heap.size, 3, none⟩ = some (.bool true) := (cell_of_row W _ _ _ _ _ hW.2.1).trans rfl; go_simp; first | done | with_reducible rfl)
              simp only [Act.put, List.setIfInBounds_toArray, List.set_cons_zero, List.set_cons_succ]; refine wpAnyZ_one' (i := 12) (by kernel_rfl) rfl (fun K hK => ?_); go_simp; go_at_call 51; refine (HLA.out _ (grownBy_drew (grownBy_refl _ _))).mono ?_; rintro e w3 ⟨rfl, hgw3⟩; have HGw3 : Hid (W2.grownBy w3 none) := grownBy_trans (grownBy_drew (grownBy_refl _ _)) hgw3; refine hK.out _ _ (fun _ _ => SKX HGw3.out) ?_; clear hK K hgw3; (try simp only [Act.put, List.setIfInBounds_toArray, List.set_cons_zero, List.set_cons_succ]); refine wpAnyZ_take' (i := 13) (v := ?vz58) rfl (by kernel_rfl) (by kernel_rfl) (by kernel_rfl) (fun _ _ _ h => h) (Or.inl ⟨by rfl, ?yz58⟩) ?rz58
              case yz58 => (intro w _; go_simp; first | done | with_reducible rfl)
              simp only [Act.put, List.setIfInBounds_toArray, List.set_cons_zero, List.set_cons_succ]; refine wpAnyZ_take' (i := 14) (v := ?vz59) rfl (by kernel_rfl) (by kernel_rfl) (by kernel_rfl) (fun _ _ _ h => h) (Or.inl ⟨by rfl, ?yz59⟩) ?rz59
              case yz59 => (intro w _; go_simp; first | done | with_reducible rfl)
              simp only [Act.put, List.setIfInBounds_toArray, List.set_cons_zero, List.set_cons_succ]; refine wpAnyZ_take' (i := 15) (v := ?vz60) rfl (by kernel_rfl) (by kernel_rfl) (by kernel_rfl) (fun _ _ _ h => h) (Or.inl ⟨by rfl, ?yz60⟩) ?rz60
              case yz60 => (intro w _; go_simp; first | done | with_reducible rfl)
              simp only [Act.put, List.setIfInBounds_toArray, List.set_cons_zero, List.set_cons_succ]; refine wpAnyZ_take' (i := 16) (v := ?vz61) rfl (by kernel_rfl) (by kernel_rfl) (by kernel_rfl) (fun _ _ _ h => h) (Or.inl ⟨by rfl, ?yz61⟩) ?rz61
              case yz61 => (intro w _; go_simp; first | done | with_reducible rfl)
              simp only [Act.put, List.setIfInBounds_toArray, List.set_cons_zero, List.set_cons_succ]; have hS : w3.heap[X3]? = some (.cells #[.slice (some ⟨gn, 0, none⟩) 3 nc, .slice (some ⟨gr, 0, none⟩) (d.length - 8 * 3) rc] 81 (0, 0)) ∧ w3.heap[w.heap.size]? = some (.cells #[.int .i64 (p.base : Int), .int .i64 (p.bt : Int), .slice ea el ec, .bool true] 42 (0, 0)) ∧ w3.cell? ⟨gn, 0, none⟩ = some (.int .i64 (n0 : Int)) ∧ w3.cell? ⟨gn, 1, none⟩ = some (.int .i64 (n1 : Int)) ∧ w3.cell? ⟨gn, 2, none⟩ = some (.int .i64 (n2 : Int)) := SKX HGw3.out; refine wpAnyZ_take' (i := 17) (v := ?vz62) rfl (by kernel_rfl) (by kernel_rfl) (by kernel_rfl) (fun _ _ _ h => h) (Or.inl ⟨by rfl, ?yz62⟩) ?rz62
              case yz62 => (intro w _; go_simp; first | done | with_reducible rfl)
              simp only [Act.put, List.setIfInBounds_toArray, List.set_cons_zero, List.set_cons_succ]; refine wpAnyZ_load' (i := 18) (y := 28) (v := ?vz63) rfl (by kernel_rfl) (by kernel_rfl) (by kernel_rfl) (fun _ _ _ h => h) (fun j hj => .inl (by obtain rfl : j = 28 := (by simpa using hj); kernel_rfl)) rfl (by kernel_rfl) (Or.inl ⟨by rfl, ?yz63⟩) hS ?rz63
              case yz63 => (intro W hW; have c0 : W.cell? ⟨X3, 0, none⟩ = some (.slice (some ⟨gn, 0, none⟩) 3 nc) := (cell_of_row W _ _ _ _ _ hW.1).trans rfl; go_simp; first | done | with_reducible rfl)
              simp only [Act.put, List.setIfInBounds_toArray, List.set_cons_zero, List.set_cons_succ]; refine wpAnyZ_take' (i := 19) (v := ?vz64) rfl (by kernel_rfl) (by kernel_rfl) (by kernel_rfl) (fun _ _ _ h => h) (Or.inl ⟨by rfl, ?yz64⟩) ?rz64
              case yz64 => (intro w _; go_simp; first | done | with_reducible rfl)
              simp only [Act.put, List.setIfInBounds_toArray, List.set_cons_zero, List.set_cons_succ]; refine wpAnyZ_load' (i := 20) (y := 28) (v := ?vz65) rfl (by kernel_rfl) (by kernel_rfl) (by kernel_rfl) (fun _ _ _ h => h) (fun j hj => .inl (by obtain rfl : j = 28 := (by simpa using hj); kernel_rfl)) rfl (by kernel_rfl) (Or.inl ⟨by rfl, ?yz65⟩) hS ?rz65
              case yz65 => (intro W hW; have c0 : W.cell? ⟨gn, 2, none⟩ = some (.int .i64 (n2 : Int)) := hW.2.2.2.2; go_simp; first | done | with_reducible rfl)
              simp only [Act.put, List.setIfInBounds_toArray, List.set_cons_zero, List.set_cons_succ]; refine wpAnyZ_load' (i := 21) (y := 28) (v := ?vz66) rfl (by kernel_rfl) (by kernel_rfl) (by kernel_rfl) (fun _ _ _ h => h) (fun j hj => .inl (by obtain rfl : j = 28 := (by simpa using hj); kernel_rfl)) rfl (by kernel_rfl) (Or.inl ⟨by rfl, ?yz66⟩) hS ?rz66
              case yz66 => (intro W hW; have c0 : W.cell? ⟨w.heap.size, 0, none⟩ = some (.int .i64 (p.base : Int)) := (cell_of_row W _ _ _ _ _ hW.2.1).trans rfl; have c1 : W.cell? ⟨w.heap.size, 1, none⟩ = some (.int .i64 (p.bt : Int)) := (cell_of_row W _ _ _ _ _ hW.2.1).trans rfl; have c2 : W.cell? ⟨w.heap.size, 2, none⟩ = some (.slice ea el ec) := (cell_of_row W _ _ _ _ _ hW.2.1).trans rfl; have c3 : W.cell? ⟨w.heap.size, 3, none⟩ = some (.bool true) := (cell_of_row W _ _ _ _ _ hW.2.1).trans rfl; go_simp; first | done | with_reducible rfl)
              simp only [Act.put, List.setIfInBounds_toArray, List.set_cons_zero, List.set_cons_succ]; refine wpAnyZ_load' (i := 22) (y := 28) (v := ?vz67) rfl (by kernel_rfl) (by kernel_rfl) (by kernel_rfl) (fun _ _ _ h => h) (fun j hj => .inl (by obtain rfl : j = 28 := (by simpa using hj); kernel_rfl)) rfl (by kernel_rfl) (Or.inl ⟨by rfl, ?yz67⟩) hS ?rz67
              case yz67 => (intro W hW; have c0 : W.cell? ⟨w.heap.size, 0, none⟩ = some (.int .i64 (p.base : Int)) := (cell_of_row W _ _ _ _ _ hW.2.1).trans rfl; have c1 : W.cell? ⟨w.heap.size, 1, none⟩ = some (.int .i64 (p.bt : Int)) := (cell_of_row W _ _ _ _ _ hW.2.1).trans rfl; have c2 : W.cell? ⟨w.heap.size, 2, none⟩ = some (.slice ea el ec) := (cell_of_row W _ _ _ _ _ hW.2.1).trans rfl; have c3 : W.cell? ⟨w.heap.size, 3, none⟩ = some (.bool true) := (cell_of_row W _ _ _ _ _ hW.2.1).trans rfl; go_simp; first | done | with_reducible rfl)
              simp only [Act.put, List.setIfInBounds_toArray, List.set_cons_zero, List.set_cons_succ]; refine wpAnyZ_one' (i := 23) (by kernel_rfl) rfl (fun K hK => ?_); go_simp; go_at_call 51; refine (HLA.out _ HGw3.out).mono ?_; rintro e w4 ⟨rfl, hgw4⟩; have HGw4 : Hid (W2.grownBy w4 none) := grownBy_trans HGw3.out hgw4; refine hK.out _ _ (fun _ _ => SKX HGw4.out) ?_; clear hK K hgw4; (try simp only [Act.put, List.setIfInBounds_toArray, List.set_cons_zero, List.set_cons_succ]); refine wpAnyZ_one' (i := 24) (by kernel_rfl) rfl (fun K hK => ?_); go_simp; go_at_call 52; refine (HTE.out _ HGw4.out).mono ?_; rintro e w5 ⟨rfl, hgw5⟩; have HGw5 : Hid (W2.grownBy w5 none) := grownBy_trans HGw4.out hgw5; refine hK.out _ _ (fun _ _ => SKX HGw5.out) ?_; clear hK K hgw5; (try simp only [Act.put, List.setIfInBounds_toArray, List.set_cons_zero, List.set_cons_succ]); refine wpAnyZ_take' (i := 25) (v := ?vz68) rfl (by kernel_rfl) (by kernel_rfl) (by kernel_rfl) (fun _ _ _ h => h) (Or.inl ⟨by rfl, ?yz68⟩) ?rz68
              case yz68 => (intro w _; go_simp; first | done | with_reducible rfl)
              simp only [Act.put, List.setIfInBounds_toArray, List.set_cons_zero, List.set_cons_succ]; refine wpAnyZ_take' (i := 26) (v := ?vz69) rfl (by kernel_rfl) (by kernel_rfl) (by kernel_rfl) (fun _ _ _ h => h) (Or.inl ⟨by rfl, ?yz69⟩) ?rz69
              case yz69 => (intro w _; go_simp; first | done | with_reducible rfl)
              simp only [Act.put, List.setIfInBounds_toArray, List.set_cons_zero, List.set_cons_succ]; refine wpAnyZ_take' (i := 27) (v := ?vz70) rfl (by kernel_rfl) (by kernel_rfl) (by kernel_rfl) (fun _ _ _ h => h) (Or.inl ⟨by rfl, ?yz70⟩) ?rz70
              case yz70 => (intro w _; go_simp; first | done | with_reducible rfl)
              simp only [Act.put, List.setIfInBounds_toArray, List.set_cons_zero, List.set_cons_succ]; have hLw5 := grown_blk HGw5.out H2.out.1; have hZw5 := grown_blk HGw5.out H2.out.2.2.1; have ka0 : w5.cell? ⟨w.heap.size, 0, none⟩ = some (.int .i64 (p.base : Int)) := (cell_of_row _ _ _ _ _ _ hLw5).trans rfl; have ka1 : w5.cell? ⟨w.heap.size, 1, none⟩ = some (.int .i64 (p.bt : Int)) := (cell_of_row _ _ _ _ _ _ hLw5).trans rfl; have ka2 : w5.cell? ⟨w.heap.size, 2, none⟩ = some (.slice ea el ec) := (cell_of_row _ _ _ _ _ _ hLw5).trans rfl; have ka3 : w5.cell? ⟨w.heap.size, 3, none⟩ = some (.bool true) := (cell_of_row _ _ _ _ _ _ hLw5).trans rfl
              have kaf : w5.frozen? ⟨w.heap.size, 3, none⟩ = false := by simp [World.frozen?, hLw5]
              have kaf2 : w5.frozen? ⟨w.heap.size, 2, none⟩ = false := by simp [World.frozen?, hLw5]
              have kz0 : w5.cell? ⟨w.heap.size + 1 + 1, 0, none⟩ = some (.int .i64 0) := (cell_of_row _ _ _ _ _ _ hZw5).trans rfl
              have kzf0 : w5.frozen? ⟨w.heap.size + 1 + 1, 0, none⟩ = false := by simp [World.frozen?, hZw5]
              have kz1 : w5.cell? ⟨w.heap.size + 1 + 1, 1, none⟩ = some (.int .i64 0) := (cell_of_row _ _ _ _ _ _ hZw5).trans rfl
              have kzf1 : w5.frozen? ⟨w.heap.size + 1 + 1, 1, none⟩ = false := by simp [World.frozen?, hZw5]
              have kz2 : w5.cell? ⟨w.heap.size + 1 + 1, 2, none⟩ = some (.slice none 0 0) := (cell_of_row _ _ _ _ _ _ hZw5).trans rfl
              have kzf2 : w5.frozen? ⟨w.heap.size + 1 + 1, 2, none⟩ = false := by simp [World.frozen?, hZw5]
              have kz3 : w5.cell? ⟨w.heap.size + 1 + 1, 3, none⟩ = some (.bool false) := (cell_of_row _ _ _ _ _ _ hZw5).trans rfl
              have kzf3 : w5.frozen? ⟨w.heap.size + 1 + 1, 3, none⟩ = false := by simp [World.frozen?, hZw5]
              have HKw5 : Hid (w.grownBy w5 none ∧ SLg w5 p.es (.slice ea el ec) ∧ w5.heap[w.heap.size]? = some (.cells #[.int .i64 (p.base : Int), .int .i64 (p.bt : Int), .slice ea el ec, .bool true] 42 (0, 0)) ∧ w5.heap[w.heap.size + 1 + 1]? = some (.cells #[.int .i64 0, .int .i64 0, .slice none 0 0, .bool false] 42 (0, 0))) := ⟨grownBy_trans H2.out.2.2.2.1 HGw5.out, H2.out.2.2.2.2.1.grown0 HGw5.out, hLw5, hZw5⟩; clear hLw5 hZw5 a0 a1 a2 a3 af3 z0 z1 z2 z3 zf0 zf1 zf2 zf3 HBAD HBB; refine wpAnyZ_one' (i := 28) (by kernel_rfl) rfl (fun K hK => ?_); go_simp; refine hK.out _ _ (fun hc => (by cases hc)) ?_; clear hK K; (try simp only [Act.put]); refine wpAnyZ_done (by kernel_rfl) ?_ _; go_wp2; refine bodyPost_ret (results_log (g := w.heap.size + 1 + 1) rfl rfl (set_four (set_oth 3 _ (by omega) HKw5.out.2.2.2)) rfl) rfl ?_; refine ⟨grown_four (grownBy_setNew HKw5.out.1 (Nat.le_refl _)) (by omega), _, _, _, _, rfl, ⟨_, _, _, rfl⟩, ?_⟩; rw [HST.out, HNN.out.1, HNN.out.2.1, HNN.out.2.2]; obtain ⟨rfl, rfl⟩ := HT1.out
              by_cases hq : n2 = lt
              · refine .inl ⟨by simp [hq], p, ?_, rfl, rfl, ?_⟩
                · simp [wact, headStep, HLE.out.1, HLE.out.2, hq, HQ.out.1, HQ.out.2]
                · first | exact slg_four (slg_one HKw5.out.2.1 HKw5.out.2.2.1) (set_oth 3 _ (by omega) HKw5.out.2.2.2) | exact slg_drew (slg_four (slg_one HKw5.out.2.1 HKw5.out.2.2.1) (set_oth 3 _ (by omega) HKw5.out.2.2.2))
              · refine .inr ⟨by simp; omega, ?_⟩
                simp [wact, headStep, HLE.out.1, HLE.out.2, hq]
            · have d1 : ((n1 : Int) == (la : Int) + 1) = false := by simp; omega
              have HQ : Hid (¬ n1 = la + 1) := k1; clear k0 k1
              go_upto_region 10 with fail
              refine wp_region_Z (fun V => V.heap[X3]? = some (.cells #[.slice (some ⟨gn, 0, none⟩) 3 nc, .slice (some ⟨gr, 0, none⟩) (d.length - 8 * 3) rc] 81 (0, 0)) ∧ V.heap[w.heap.size]? = some (.cells #[.int .i64 (p.base : Int), .int .i64 (p.bt : Int), .slice ea el ec, .bool true] 42 (0, 0)) ∧ V.cell? ⟨gn, 0, none⟩ = some (.int .i64 (n0 : Int)) ∧ V.cell? ⟨gn, 1, none⟩ = some (.int .i64 (n1 : Int)) ∧ V.cell? ⟨gn, 2, none⟩ = some (.int .i64 (n2 : Int))) (fun j => j == 28) (by kernel_rfl) ?_; have hS : W2.drew.heap[X3]? = some (.cells #[.slice (some ⟨gn, 0, none⟩) 3 nc, .slice (some ⟨gr, 0, none⟩) (d.length - 8 * 3) rc] 81 (0, 0)) ∧ W2.drew.heap[w.heap.size]? = some (.cells #[.int .i64 (p.base : Int), .int .i64 (p.bt : Int), .slice ea el ec, .bool true] 42 (0, 0)) ∧ W2.drew.cell? ⟨gn, 0, none⟩ = some (.int .i64 (n0 : Int)) ∧ W2.drew.cell? ⟨gn, 1, none⟩ = some (.int .i64 (n1 : Int)) ∧ W2.drew.cell? ⟨gn, 2, none⟩ = some (.int .i64 (n2 : Int)) := ⟨H2.out.2.2.2.2.2.1, H2.out.1, q0, q1, q2⟩; have hS0 := hS; refine wpAnyZ_take' (i := 0) (v := ?vz28) rfl (by kernel_rfl) (by kernel_rfl) (by kernel_rfl) (fun _ _ _ h => h) (Or.inl ⟨by rfl, ?yz28⟩) ?rz28
              case yz28 => (intro w _; go_simp; first | done | with_reducible rfl)
              simp only [Act.put, List.setIfInBounds_toArray, List.set_cons_zero, List.set_cons_succ]; refine wpAnyZ_load' (i := 1) (y := 28) (v := ?vz29) rfl (by kernel_rfl) (by kernel_rfl) (by kernel_rfl) (fun _ _ _ h => h) (fun j hj => .inl (by obtain rfl : j = 28 := (by simpa using hj); kernel_rfl)) rfl (by kernel_rfl) (Or.inl ⟨by rfl, ?yz29⟩) hS ?rz29
              case yz29 => (intro W hW; have c0 : W.cell? ⟨X3, 0, none⟩ = some (.slice (some ⟨gn, 0, none⟩) 3 nc) := (cell_of_row W _ _ _ _ _ hW.1).trans rfl; go_simp; first | done | with_reducible rfl)
              simp only [Act.put, List.setIfInBounds_toArray, List.set_cons_zero, List.set_cons_succ]; refine wpAnyZ_take' (i := 2) (v := ?vz30) rfl (by kernel_rfl) (by kernel_rfl) (by kernel_rfl) (fun _ _ _ h => h) (Or.inl ⟨by rfl, ?yz30⟩) ?rz30
              case yz30 => (intro w _; go_simp; first | done | with_reducible rfl)
              simp only [Act.put, List.setIfInBounds_toArray, List.set_cons_zero, List.set_cons_succ]; refine wpAnyZ_load' (i := 3) (y := 28) (v := ?vz31) rfl (by kernel_rfl) (by kernel_rfl) (by kernel_rfl) (fun _ _ _ h => h) (fun j hj => .inl (by obtain rfl : j = 28 := (by simpa using hj); kernel_rfl)) rfl (by kernel_rfl) (Or.inl ⟨by rfl, ?yz31⟩) hS ?rz31
              case yz31 => (intro W hW; have c0 : W.cell? ⟨gn, 0, none⟩ = some (.int .i64 (n0 : Int)) := hW.2.2.1; go_simp; first | done | with_reducible rfl)
              simp only [Act.put, List.setIfInBounds_toArray, List.set_cons_zero, List.set_cons_succ]; refine wpAnyZ_take' (i := 4) (v := ?vz32) rfl (by kernel_rfl) (by kernel_rfl) (by kernel_rfl) (fun _ _ _ h => h) (Or.inl ⟨by rfl, ?yz32⟩) ?rz32
              case yz32 => (intro w _; go_simp; first | done | with_reducible rfl)
              simp only [Act.put, List.setIfInBounds_toArray, List.set_cons_zero, List.set_cons_succ]; refine wpAnyZ_take' (i := 5) (v := ?vz33) rfl (by kernel_rfl) (by kernel_rfl) (by kernel_rfl) (fun _ _ _ h => h) (Or.inl ⟨by rfl, ?yz33⟩) ?rz33
              case yz33 => (intro w _; go_simp; first | done | with_reducible rfl)
              simp only [Act.put, List.setIfInBounds_toArray, List.set_cons_zero, List.set_cons_succ]; refine wpAnyZ_take' (i := 6) (v := ?vz34) rfl (by kernel_rfl) (by kernel_rfl) (by kernel_rfl) (fun _ _ _ h => h) (Or.inl ⟨by rfl, ?yz34⟩) ?rz34
              case yz34 => (intro w _; go_simp; first | done | with_reducible rfl)
              simp only [Act.put, List.setIfInBounds_toArray, List.set_cons_zero, List.set_cons_succ]; refine wpAnyZ_take' (i := 7) (v := ?vz35) rfl (by kernel_rfl) (by kernel_rfl) (by kernel_rfl) (fun _ _ _ h => h) (Or.inl ⟨by rfl, ?yz35⟩) ?rz35
              case yz35 => (intro w _; go_simp; first | done | with_reducible rfl)
              simp only [Act.put, List.setIfInBounds_toArray, List.set_cons_zero, List.set_cons_succ]; refine wpAnyZ_load' (i := 8) (y := 28) (v := ?vz36) rfl (by kernel_rfl) (by kernel_rfl) (by kernel_rfl) (fun _ _ _ h => h) (fun j hj => .inl (by obtain rfl : j = 28 := (by simpa using hj); kernel_rfl)) rfl (by kernel_rfl) (Or.inl ⟨by rfl, ?yz36⟩) hS ?rz36
              case yz36 => (intro W hW; have c0 : W.cell? ⟨X3, 0, none⟩ = some (.slice (some ⟨gn, 0, none⟩) 3 nc) := (cell_of_row W _ _ _ _ _ hW.1).trans rfl; go_simp; first | done | with_reducible rfl)
              simp only [Act.put, List.setIfInBounds_toArray, List.set_cons_zero, List.set_cons_succ]; refine wpAnyZ_take' (i := 9) (v := ?vz37) rfl (by kernel_rfl) (by kernel_rfl) (by kernel_rfl) (fun _ _ _ h => h) (Or.inl ⟨by rfl, ?yz37⟩) ?rz37
              case yz37 => (intro w _; go_simp; first | done | with_reducible rfl)
              simp only [Act.put, List.setIfInBounds_toArray, List.set_cons_zero, List.set_cons_succ]; refine wpAnyZ_load' (i := 10) (y := 28) (v := ?vz38) rfl (by kernel_rfl) (by kernel_rfl) (by kernel_rfl) (fun _ _ _ h => h) (fun j hj => .inl (by obtain rfl : j = 28 := (by simpa using hj); kernel_rfl)) rfl (by kernel_rfl) (Or.inl ⟨by rfl, ?yz38⟩) hS ?rz38
              case yz38 => (intro W hW; have c0 : W.cell? ⟨gn, 1, none⟩ = some (.int .i64 (n1 : Int)) := hW.2.2.2.1; go_simp; first | done | with_reducible rfl)
              simp only [Act.put, List.setIfInBounds_toArray, List.set_cons_zero, List.set_cons_succ]; refine wpAnyZ_load' (i := 11) (y := 28) (v := ?vz39) rfl (by kernel_rfl) (by kernel_rfl) (by kernel_rfl) (fun _ _ _ h => h) (fun j hj => .inl (by obtain rfl : j = 28 := (by simpa using hj); kernel_rfl)) rfl (by kernel_rfl) (Or.inl ⟨by rfl, ?yz39⟩) hS ?rz39
              case yz39 => (intro W hW; have c0 : W.cell? ⟨w.heap.size, 0, none⟩ = some (.int .i64 (p.base : Int)) := (cell_of_row W _ _ _ _ _ hW.2.1).trans rfl; have c1 : W.cell? ⟨w.heap.size, 1, none⟩ = some (.int .i64 (p.bt : Int)) := (cell_of_row W _ _ _ _ _ hW.2.1).trans rfl; have c2 : W.cell? ⟨w.heap.size, 2, none⟩ = some (.slice ea el ec) := (cell_of_row W _ _ _ _ _ hW.2.1).trans rfl; have c3 : W.cell? ⟨w.heap.size, 3, none⟩ = some (.bool true) := (cell_of_row W _ _ _ _ _ hW.2.1).trans rfl; go_simp; first | done | with_reducible rfl)
              simp only [Act.put, List.setIfInBounds_toArray, List.set_cons_zero, List.set_cons_succ]; refine wpAnyZ_one' (i := 12) (by kernel_rfl) rfl (fun K hK => ?_); go_simp; go_at_call 51; refine (HLA.out _ (grownBy_drew (grownBy_refl _ _))).mono ?_; rintro e w3 ⟨rfl, hgw3⟩; have HGw3 : Hid (W2.grownBy w3 none) := grownBy_trans (grownBy_drew (grownBy_refl _ _)) hgw3; refine hK.out _ _ (fun _ _ => SKX HGw3.out) ?_; clear hK K hgw3; (try simp only [Act.put, List.setIfInBounds_toArray, List.set_cons_zero, List.set_cons_succ]); refine wpAnyZ_take' (i := 13) (v := ?vz40) rfl (by kernel_rfl) (by kernel_rfl) (by kernel_rfl) (fun _ _ _ h => h) (Or.inl ⟨by rfl, ?yz40⟩) ?rz40
              case yz40 => (intro w _; go_simp; first | done | with_reducible rfl)
              simp only [Act.put, List.setIfInBounds_toArray, List.set_cons_zero, List.set_cons_succ]; refine wpAnyZ_take' (i := 14) (v := ?vz41) rfl (by kernel_rfl) (by kernel_rfl) (by kernel_rfl) (fun _ _ _ h => h) (Or.inl ⟨by rfl, ?yz41⟩) ?rz41
              case yz41 => (intro w _; go_simp; first | done | with_reducible rfl)
              simp only [Act.put, List.setIfInBounds_toArray, List.set_cons_zero, List.set_cons_succ]; refine wpAnyZ_take' (i := 15) (v := ?vz42) rfl (by kernel_rfl) (by kernel_rfl) (by kernel_rfl) (fun _ _ _ h => h) (Or.inl ⟨by rfl, ?yz42⟩) ?rz42
              case yz42 => (intro w _; go_simp; first | done | with_reducible rfl)
              simp only [Act.put, List.setIfInBounds_toArray, List.set_cons_zero, List.set_cons_succ]; refine wpAnyZ_take' (i := 16) (v := ?vz43) rfl (by kernel_rfl) (by kernel_rfl) (by kernel_rfl) (fun _ _ _ h => h) (Or.inl ⟨by rfl, ?yz43⟩) ?rz43
              case yz43 => (intro w _; go_simp; first | done | with_reducible rfl)
              simp only [Act.put, List.setIfInBounds_toArray, List.set_cons_zero, List.set_cons_succ]; refine wpAnyZ_take' (i := 17) (v := undef) rfl (by kernel_rfl) (by kernel_rfl) (by kernel_rfl) (fun _ _ _ h => h) (Or.inr ⟨by rfl, rfl⟩) ?_; simp only [Act.put, List.setIfInBounds_toArray, List.set_cons_zero, List.set_cons_succ]; refine wpAnyZ_take' (i := 18) (v := undef) rfl (by kernel_rfl) (by kernel_rfl) (by kernel_rfl) (fun _ _ _ h => h) (Or.inr ⟨by rfl, rfl⟩) ?_; simp only [Act.put, List.setIfInBounds_toArray, List.set_cons_zero, List.set_cons_succ]; refine wpAnyZ_take' (i := 19) (v := undef) rfl (by kernel_rfl) (by kernel_rfl) (by kernel_rfl) (fun _ _ _ h => h) (Or.inr ⟨by rfl, rfl⟩) ?_; simp only [Act.put, List.setIfInBounds_toArray, List.set_cons_zero, List.set_cons_succ]; refine wpAnyZ_take' (i := 20) (v := undef) rfl (by kernel_rfl) (by kernel_rfl) (by kernel_rfl) (fun _ _ _ h => h) (Or.inr ⟨by rfl, rfl⟩) ?_; simp only [Act.put, List.setIfInBounds_toArray, List.set_cons_zero, List.set_cons_succ]; refine wpAnyZ_take' (i := 21) (v := undef) rfl (by kernel_rfl) (by kernel_rfl) (by kernel_rfl) (fun _ _ _ h => h) (Or.inr ⟨by rfl, rfl⟩) ?_; simp only [Act.put, List.setIfInBounds_toArray, List.set_cons_zero, List.set_cons_succ]; refine wpAnyZ_take' (i := 22) (v := undef) rfl (by kernel_rfl) (by kernel_rfl) (by kernel_rfl) (fun _ _ _ h => h) (Or.inr ⟨by rfl, rfl⟩) ?_; simp only [Act.put, List.setIfInBounds_toArray, List.set_cons_zero, List.set_cons_succ]; refine wpAnyZ_take' (i := 23) (v := undef) rfl (by kernel_rfl) (by kernel_rfl) (by kernel_rfl) (fun _ _ _ h => h) (Or.inr ⟨by rfl, rfl⟩) ?_; simp only [Act.put, List.setIfInBounds_toArray, List.set_cons_zero, List.set_cons_succ]; refine wpAnyZ_take' (i := 24) (v := undef) rfl (by kernel_rfl) (by kernel_rfl) (by kernel_rfl) (fun _ _ _ h => h) (Or.inr ⟨by rfl, rfl⟩) ?_; simp only [Act.put, List.setIfInBounds_toArray, List.set_cons_zero, List.set_cons_succ]; refine wpAnyZ_take' (i := 25) (v := undef) rfl (by kernel_rfl) (by kernel_rfl) (by kernel_rfl) (fun _ _ _ h => h) (Or.inr ⟨by rfl, rfl⟩) ?_; simp only [Act.put, List.setIfInBounds_toArray, List.set_cons_zero, List.set_cons_succ]; refine wpAnyZ_take' (i := 26) (v := ?vz44) rfl (by kernel_rfl) (by kernel_rfl) (by kernel_rfl) (fun _ _ _ h => h) (Or.inl ⟨by rfl, ?yz44⟩) ?rz44
              case yz44 => (intro w _; go_simp; first | done | with_reducible rfl)
              simp only [Act.put, List.setIfInBounds_toArray, List.set_cons_zero, List.set_cons_succ]; refine wpAnyZ_take' (i := 27) (v := ?vz45) rfl (by kernel_rfl) (by kernel_rfl) (by kernel_rfl) (fun _ _ _ h => h) (Or.inl ⟨by rfl, ?yz45⟩) ?rz45
              case yz45 => (intro w _; go_simp; first | done | with_reducible rfl)
              simp only [Act.put, List.setIfInBounds_toArray, List.set_cons_zero, List.set_cons_succ]; have hLw3 := grown_blk HGw3.out H2.out.1; have hZw3 := grown_blk HGw3.out H2.out.2.2.1; have ka0 : w3.cell? ⟨w.heap.size, 0, none⟩ = some (.int .i64 (p.base : Int)) := (cell_of_row _ _ _ _ _ _ hLw3).trans rfl; have ka1 : w3.cell? ⟨w.heap.size, 1, none⟩ = some (.int .i64 (p.bt : Int)) := (cell_of_row _ _ _ _ _ _ hLw3).trans rfl; have ka2 : w3.cell? ⟨w.heap.size, 2, none⟩ = some (.slice ea el ec) := (cell_of_row _ _ _ _ _ _ hLw3).trans rfl; have ka3 : w3.cell? ⟨w.heap.size, 3, none⟩ = some (.bool true) := (cell_of_row _ _ _ _ _ _ hLw3).trans rfl
              have kaf : w3.frozen? ⟨w.heap.size, 3, none⟩ = false := by simp [World.frozen?, hLw3]
              have kaf2 : w3.frozen? ⟨w.heap.size, 2, none⟩ = false := by simp [World.frozen?, hLw3]
              have kz0 : w3.cell? ⟨w.heap.size + 1 + 1, 0, none⟩ = some (.int .i64 0) := (cell_of_row _ _ _ _ _ _ hZw3).trans rfl
              have kzf0 : w3.frozen? ⟨w.heap.size + 1 + 1, 0, none⟩ = false := by simp [World.frozen?, hZw3]
              have kz1 : w3.cell? ⟨w.heap.size + 1 + 1, 1, none⟩ = some (.int .i64 0) := (cell_of_row _ _ _ _ _ _ hZw3).trans rfl
              have kzf1 : w3.frozen? ⟨w.heap.size + 1 + 1, 1, none⟩ = false := by simp [World.frozen?, hZw3]
              have kz2 : w3.cell? ⟨w.heap.size + 1 + 1, 2, none⟩ = some (.slice none 0 0) := (cell_of_row _ _ _ _ _ _ hZw3).trans rfl
              have kzf2 : w3.frozen? ⟨w.heap.size + 1 + 1, 2, none⟩ = false := by simp [World.frozen?, hZw3]
              have kz3 : w3.cell? ⟨w.heap.size + 1 + 1, 3, none⟩ = some (.bool false) := (cell_of_row _ _ _ _ _ _ hZw3).trans rfl
              have kzf3 : w3.frozen? ⟨w.heap.size + 1 + 1, 3, none⟩ = false := by simp [World.frozen?, hZw3]
              have HKw3 : Hid (w.grownBy w3 none ∧ SLg w3 p.es (.slice ea el ec) ∧ w3.heap[w.heap.size]? = some (.cells #[.int .i64 (p.base : Int), .int .i64 (p.bt : Int), .slice ea el ec, .bool true] 42 (0, 0)) ∧ w3.heap[w.heap.size + 1 + 1]? = some (.cells #[.int .i64 0, .int .i64 0, .slice none 0 0, .bool false] 42 (0, 0))) := ⟨grownBy_trans H2.out.2.2.2.1 HGw3.out, H2.out.2.2.2.2.1.grown0 HGw3.out, hLw3, hZw3⟩; clear hLw3 hZw3 a0 a1 a2 a3 af3 z0 z1 z2 z3 zf0 zf1 zf2 zf3 HBAD HBB; refine wpAnyZ_one' (i := 28) (by kernel_rfl) rfl (fun K hK => ?_); go_simp; refine hK.out _ _ (fun hc => (by cases hc)) ?_; clear hK K; (try simp only [Act.put]); refine wpAnyZ_done (by kernel_rfl) ?_ _; go_wp2; refine bodyPost_ret (results_log (g := w.heap.size + 1 + 1) rfl rfl (set_four (set_oth 3 _ (by omega) HKw3.out.2.2.2)) rfl) rfl ?_; refine ⟨grown_four (grownBy_setNew HKw3.out.1 (Nat.le_refl _)) (by omega), _, _, _, false, rfl, ⟨_, _, _, rfl⟩, ?_⟩; refine .inr ⟨rfl, ?_⟩; rw [HST.out, HNN.out.1, HNN.out.2.1, HNN.out.2.2]; obtain ⟨rfl, rfl⟩ := HT1.out
              simp [wact, headStep, HLE.out.1, HLE.out.2, HQ.out]
          · have d0 : ((n0 : Int) == (num : Int)) = false := by simp; omega
            have HQ : Hid (¬ num = n0) := fun hc => k0 hc.symm
            clear k0
            go_upto_region 10 with fail
            refine wp_region_Z (fun V => V.heap[X3]? = some (.cells #[.slice (some ⟨gn, 0, none⟩) 3 nc, .slice (some ⟨gr, 0, none⟩) (d.length - 8 * 3) rc] 81 (0, 0)) ∧ V.heap[w.heap.size]? = some (.cells #[.int .i64 (p.base : Int), .int .i64 (p.bt : Int), .slice ea el ec, .bool true] 42 (0, 0)) ∧ V.cell? ⟨gn, 0, none⟩ = some (.int .i64 (n0 : Int)) ∧ V.cell? ⟨gn, 1, none⟩ = some (.int .i64 (n1 : Int)) ∧ V.cell? ⟨gn, 2, none⟩ = some (.int .i64 (n2 : Int))) (fun j => j == 28) (by kernel_rfl) ?_; have hS : W2.drew.heap[X3]? = some (.cells #[.slice (some ⟨gn, 0, none⟩) 3 nc, .slice (some ⟨gr, 0, none⟩) (d.length - 8 * 3) rc] 81 (0, 0)) ∧ W2.drew.heap[w.heap.size]? = some (.cells #[.int .i64 (p.base : Int), .int .i64 (p.bt : Int), .slice ea el ec, .bool true] 42 (0, 0)) ∧ W2.drew.cell? ⟨gn, 0, none⟩ = some (.int .i64 (n0 : Int)) ∧ W2.drew.cell? ⟨gn, 1, none⟩ = some (.int .i64 (n1 : Int)) ∧ W2.drew.cell? ⟨gn, 2, none⟩ = some (.int .i64 (n2 : Int)) := ⟨H2.out.2.2.2.2.2.1, H2.out.1, q0, q1, q2⟩; have hS0 := hS; refine wpAnyZ_take' (i := 0) (v := ?vz17) rfl (by kernel_rfl) (by kernel_rfl) (by kernel_rfl) (fun _ _ _ h => h) (Or.inl ⟨by rfl, ?yz17⟩) ?rz17
            case yz17 => (intro w _; go_simp; first | done | with_reducible rfl)
            simp only [Act.put, List.setIfInBounds_toArray, List.set_cons_zero, List.set_cons_succ]; refine wpAnyZ_load' (i := 1) (y := 28) (v := ?vz18) rfl (by kernel_rfl) (by kernel_rfl) (by kernel_rfl) (fun _ _ _ h => h) (fun j hj => .inl (by obtain rfl : j = 28 := (by simpa using hj); kernel_rfl)) rfl (by kernel_rfl) (Or.inl ⟨by rfl, ?yz18⟩) hS ?rz18
            case yz18 => (intro W hW; have c0 : W.cell? ⟨X3, 0, none⟩ = some (.slice (some ⟨gn, 0, none⟩) 3 nc) := (cell_of_row W _ _ _ _ _ hW.1).trans rfl; go_simp; first | done | with_reducible rfl)
            simp only [Act.put, List.setIfInBounds_toArray, List.set_cons_zero, List.set_cons_succ]; refine wpAnyZ_take' (i := 2) (v := ?vz19) rfl (by kernel_rfl) (by kernel_rfl) (by kernel_rfl) (fun _ _ _ h => h) (Or.inl ⟨by rfl, ?yz19⟩) ?rz19
            case yz19 => (intro w _; go_simp; first | done | with_reducible rfl)
            simp only [Act.put, List.setIfInBounds_toArray, List.set_cons_zero, List.set_cons_succ]; refine wpAnyZ_load' (i := 3) (y := 28) (v := ?vz20) rfl (by kernel_rfl) (by kernel_rfl) (by kernel_rfl) (fun _ _ _ h => h) (fun j hj => .inl (by obtain rfl : j = 28 := (by simpa using hj); kernel_rfl)) rfl (by kernel_rfl) (Or.inl ⟨by rfl, ?yz20⟩) hS ?rz20
            case yz20 => (intro W hW; have c0 : W.cell? ⟨gn, 0, none⟩ = some (.int .i64 (n0 : Int)) := hW.2.2.1; go_simp; first | done | with_reducible rfl)
            simp only [Act.put, List.setIfInBounds_toArray, List.set_cons_zero, List.set_cons_succ]; refine wpAnyZ_take' (i := 4) (v := ?vz21) rfl (by kernel_rfl) (by kernel_rfl) (by kernel_rfl) (fun _ _ _ h => h) (Or.inl ⟨by rfl, ?yz21⟩) ?rz21
            case yz21 => (intro w _; go_simp; first | done | with_reducible rfl)
            simp only [Act.put, List.setIfInBounds_toArray, List.set_cons_zero, List.set_cons_succ]; refine wpAnyZ_take' (i := 5) (v := ?vz22) rfl (by kernel_rfl) (by kernel_rfl) (by kernel_rfl) (fun _ _ _ h => h) (Or.inl ⟨by rfl, ?yz22⟩) ?rz22
            case yz22 => (intro w _; go_simp; first | done | with_reducible rfl)
            simp only [Act.put, List.setIfInBounds_toArray, List.set_cons_zero, List.set_cons_succ]; refine wpAnyZ_take' (i := 6) (v := ?vz23) rfl (by kernel_rfl) (by kernel_rfl) (by kernel_rfl) (fun _ _ _ h => h) (Or.inl ⟨by rfl, ?yz23⟩) ?rz23
            case yz23 => (intro w _; go_simp; first | done | with_reducible rfl)
            simp only [Act.put, List.setIfInBounds_toArray, List.set_cons_zero, List.set_cons_succ]; refine wpAnyZ_take' (i := 7) (v := undef) rfl (by kernel_rfl) (by kernel_rfl) (by kernel_rfl) (fun _ _ _ h => h) (Or.inr ⟨by rfl, rfl⟩) ?_; simp only [Act.put, List.setIfInBounds_toArray, List.set_cons_zero, List.set_cons_succ]; refine wpAnyZ_take' (i := 8) (v := undef) rfl (by kernel_rfl) (by kernel_rfl) (by kernel_rfl) (fun _ _ _ h => h) (Or.inr ⟨by rfl, rfl⟩) ?_; simp only [Act.put, List.setIfInBounds_toArray, List.set_cons_zero, List.set_cons_succ]; refine wpAnyZ_take' (i := 9) (v := undef) rfl (by kernel_rfl) (by kernel_rfl) (by kernel_rfl) (fun _ _ _ h => h) (Or.inr ⟨by rfl, rfl⟩) ?_; simp only [Act.put, List.setIfInBounds_toArray, List.set_cons_zero, List.set_cons_succ]; refine wpAnyZ_take' (i := 10) (v := undef) rfl (by kernel_rfl) (by kernel_rfl) (by kernel_rfl) (fun _ _ _ h => h) (Or.inr ⟨by rfl, rfl⟩) ?_; simp only [Act.put, List.setIfInBounds_toArray, List.set_cons_zero, List.set_cons_succ]; refine wpAnyZ_take' (i := 11) (v := undef) rfl (by kernel_rfl) (by kernel_rfl) (by kernel_rfl) (fun _ _ _ h => h) (Or.inr ⟨by rfl, rfl⟩) ?_; simp only [Act.put, List.setIfInBounds_toArray, List.set_cons_zero, List.set_cons_succ]; refine wpAnyZ_take' (i := 12) (v := undef) rfl (by kernel_rfl) (by kernel_rfl) (by kernel_rfl) (fun _ _ _ h => h) (Or.inr ⟨by rfl, rfl⟩) ?_; simp only [Act.put, List.setIfInBounds_toArray, List.set_cons_zero, List.set_cons_succ]; refine wpAnyZ_take' (i := 13) (v := undef) rfl (by kernel_rfl) (by kernel_rfl) (by kernel_rfl) (fun _ _ _ h => h) (Or.inr ⟨by rfl, rfl⟩) ?_; simp only [Act.put, List.setIfInBounds_toArray, List.set_cons_zero, List.set_cons_succ]; refine wpAnyZ_take' (i := 14) (v := undef) rfl (by kernel_rfl) (by kernel_rfl) (by kernel_rfl) (fun _ _ _ h => h) (Or.inr ⟨by rfl, rfl⟩) ?_; simp only [Act.put, List.setIfInBounds_toArray, List.set_cons_zero, List.set_cons_succ]; refine wpAnyZ_take' (i := 15) (v := ?vz24) rfl (by kernel_rfl) (by kernel_rfl) (by kernel_rfl) (fun _ _ _ h => h) (Or.inl ⟨by rfl, ?yz24⟩) ?rz24
            case yz24 => (intro w _; go_simp; first | done | with_reducible rfl)
            simp only [Act.put, List.setIfInBounds_toArray, List.set_cons_zero, List.set_cons_succ]; refine wpAnyZ_take' (i := 16) (v := ?vz25) rfl (by kernel_rfl) (by kernel_rfl) (by kernel_rfl) (fun _ _ _ h => h) (Or.inl ⟨by rfl, ?yz25⟩) ?rz25
            case yz25 => (intro w _; go_simp; first | done | with_reducible rfl)
            simp only [Act.put, List.setIfInBounds_toArray, List.set_cons_zero, List.set_cons_succ]; refine wpAnyZ_take' (i := 17) (v := undef) rfl (by kernel_rfl) (by kernel_rfl) (by kernel_rfl) (fun _ _ _ h => h) (Or.inr ⟨by rfl, rfl⟩) ?_; simp only [Act.put, List.setIfInBounds_toArray, List.set_cons_zero, List.set_cons_succ]; refine wpAnyZ_take' (i := 18) (v := undef) rfl (by kernel_rfl) (by kernel_rfl) (by kernel_rfl) (fun _ _ _ h => h) (Or.inr ⟨by rfl, rfl⟩) ?_; simp only [Act.put, List.setIfInBounds_toArray, List.set_cons_zero, List.set_cons_succ]; refine wpAnyZ_take' (i := 19) (v := undef) rfl (by kernel_rfl) (by kernel_rfl) (by kernel_rfl) (fun _ _ _ h => h) (Or.inr ⟨by rfl, rfl⟩) ?_; simp only [Act.put, List.setIfInBounds_toArray, List.set_cons_zero, List.set_cons_succ]; refine wpAnyZ_take' (i := 20) (v := undef) rfl (by kernel_rfl) (by kernel_rfl) (by kernel_rfl) (fun _ _ _ h => h) (Or.inr ⟨by rfl, rfl⟩) ?_; simp only [Act.put, List.setIfInBounds_toArray, List.set_cons_zero, List.set_cons_succ]; refine wpAnyZ_take' (i := 21) (v := undef) rfl (by kernel_rfl) (by kernel_rfl) (by kernel_rfl) (fun _ _ _ h => h) (Or.inr ⟨by rfl, rfl⟩) ?_; simp only [Act.put, List.setIfInBounds_toArray, List.set_cons_zero, List.set_cons_succ]; refine wpAnyZ_take' (i := 22) (v := undef) rfl (by kernel_rfl) (by kernel_rfl) (by kernel_rfl) (fun _ _ _ h => h) (Or.inr ⟨by rfl, rfl⟩) ?_; simp only [Act.put, List.setIfInBounds_toArray, List.set_cons_zero, List.set_cons_succ]; refine wpAnyZ_take' (i := 23) (v := undef) rfl (by kernel_rfl) (by kernel_rfl) (by kernel_rfl) (fun _ _ _ h => h) (Or.inr ⟨by rfl, rfl⟩) ?_; simp only [Act.put, List.setIfInBounds_toArray, List.set_cons_zero, List.set_cons_succ]; refine wpAnyZ_take' (i := 24) (v := undef) rfl (by kernel_rfl) (by kernel_rfl) (by kernel_rfl) (fun _ _ _ h => h) (Or.inr ⟨by rfl, rfl⟩) ?_; simp only [Act.put, List.setIfInBounds_toArray, List.set_cons_zero, List.set_cons_succ]; refine wpAnyZ_take' (i := 25) (v := undef) rfl (by kernel_rfl) (by kernel_rfl) (by kernel_rfl) (fun _ _ _ h => h) (Or.inr ⟨by rfl, rfl⟩) ?_; simp only [Act.put, List.setIfInBounds_toArray, List.set_cons_zero, List.set_cons_succ]; refine wpAnyZ_take' (i := 26) (v := ?vz26) rfl (by kernel_rfl) (by kernel_rfl) (by kernel_rfl) (fun _ _ _ h => h) (Or.inl ⟨by rfl, ?yz26⟩) ?rz26
            case yz26 => (intro w _; go_simp; first | done | with_reducible rfl)
            simp only [Act.put, List.setIfInBounds_toArray, List.set_cons_zero, List.set_cons_succ]; refine wpAnyZ_take' (i := 27) (v := ?vz27) rfl (by kernel_rfl) (by kernel_rfl) (by kernel_rfl) (fun _ _ _ h => h) (Or.inl ⟨by rfl, ?yz27⟩) ?rz27
            case yz27 => (intro w _; go_simp; first | done | with_reducible rfl)
            simp only [Act.put, List.setIfInBounds_toArray, List.set_cons_zero, List.set_cons_succ]; refine wpAnyZ_one' (i := 28) (by kernel_rfl) rfl (fun K hK => ?_); go_simp; refine hK.out _ _ (fun hc => (by cases hc)) ?_; clear hK K; (try simp only [Act.put]); refine wpAnyZ_done (by kernel_rfl) ?_ _; go_wp2; refine bodyPost_ret (results_log (g := w.heap.size + 1 + 1) rfl rfl (drew_blk (set_four (set_oth 3 _ (by omega) H2.out.2.2.1))) rfl) rfl ?_; refine ⟨grownBy_drew (grown_four (grownBy_setNew H2.out.2.2.2.1 (Nat.le_refl _)) (by omega)), _, _, _, false, rfl, ⟨_, _, _, rfl⟩, ?_⟩; refine .inr ⟨rfl, ?_⟩; rw [HST.out, HNN.out.1, HNN.out.2.1, HNN.out.2.2]; obtain ⟨rfl, rfl⟩ := HT1.out
            simp [wact, headStep, HQ.out]
      · have t1 : ((ty : Int) == 1) = true := by simp; omega
        have t2 : ((at_ : Int) == 0) = false := by simp; omega
        have HN : Hid (wstep p num fst (decide (at_ = 0)) ty d = none) := wstep_place (by simp [h1, h2]); clear h1 h2; go_wp2; refine bodyPost_ret (results_log (g := w.heap.size + 1 + 1) rfl rfl (set_four HBB.out) rfl) rfl ?_; exact HBAD.out _ HN.out
    · have t1 : ((ty : Int) == 1) = false := by simp; omega
      rcases Classical.em (at_ = 0) with h2 | h2
      · have t2 : ((at_ : Int) == 0) = true := by simp; omega
        have HN : Hid (wstep p num fst (decide (at_ = 0)) ty d = none) := wstep_place (by simp [h1, h2]); clear h1 h2; go_wp2; refine bodyPost_ret (results_log (g := w.heap.size + 1 + 1) rfl rfl (set_four HBB.out) rfl) rfl ?_; exact HBAD.out _ HN.out
      · have t2 : ((at_ : Int) == 0) = false := by simp; omega
        have HST : Hid (wstep p num fst (decide (at_ = 0)) ty d = wact p num fst (decide (at_ = 0)) (wn ty d 0) (wn ty d 1) (wn ty d 2) (d.drop (8 * (wb ty).length)) ty) := wstep_ok hy7 (by simp [h2]) HOK.out; clear h2
        rcases Classical.em (ty = 2) with h3 | h3
        · have t3 : ((ty : Int) == 2) = true := by simp; omega
          have hwl : (wb ty).length = 2 := by rw [h3]; rfl
          rw [hwl] at H2 HPY HST ⊢; obtain ⟨n0, hn0⟩ : ∃ x, wn ty d 0 = x := ⟨_, rfl⟩
          have q0 : W2.cell? ⟨gn, 0, none⟩ = some (.int .i64 (n0 : Int)) := by rw [← hn0]; exact HPY.out.1 0 (by omega)
          obtain ⟨n1, hn1⟩ : ∃ x, wn ty d 1 = x := ⟨_, rfl⟩
          have q1 : W2.cell? ⟨gn, 1, none⟩ = some (.int .i64 (n1 : Int)) := by rw [← hn1]; exact HPY.out.1 1 (by omega)
          have hw0 : 1 ≤ n0 ∧ n0 ≤ 1000000 := by
            rw [← hn0]; exact wn_in HOK.out (i := 0) (by rw [h3]; rfl)
          have hw1 : 0 ≤ n1 ∧ n1 ≤ 1000000000 := by
            rw [← hn1]; exact wn_in HOK.out (i := 1) (by rw [h3]; rfl)
          have HNN : Hid (wn ty d 0 = n0 ∧ wn ty d 1 = n1 ∧ ty = 2) := ⟨hn0, hn1, h3⟩; clear h1 h3 hn0 hn1; obtain ⟨la, hla⟩ : ∃ x, p.last = x := ⟨_, rfl⟩; obtain ⟨lt, hlt'⟩ : ∃ x, p.term p.last = x := ⟨_, rfl⟩
          have hlab : la ≤ 1000000 := by rw [← hla]; unfold Pl.last; rw [HP.out.2.2.2.1]; omega
          have HLE : Hid (p.last = la ∧ p.term la = lt) := ⟨hla, by rw [← hla]; exact hlt'⟩
          have HLA : Hid (∀ w' : World, W2.grownBy w' none → Calls Tryz.prog 51 #[.agg #[.int .i64 (p.base : Int), .int .i64 (p.bt : Int), .slice ea el ec, .bool true]] w' fun e w'' => e = .returned (.int .i64 (la : Int)) ∧ w'.grownBy w'' none) := fun w' hg => by rw [← hla]; exact slast_any p _ true w' (H2.out.2.2.2.2.1.grown0 hg) HP.out.1
          have HTE : Hid (∀ w' : World, W2.grownBy w' none → Calls Tryz.prog 52 #[.agg #[.int .i64 (p.base : Int), .int .i64 (p.bt : Int), .slice ea el ec, .bool true], .int .i64 (la : Int)] w' fun e w'' => e = .returned (.int .i64 (lt : Int)) ∧ w'.grownBy w'' none) := fun w' hg => by rw [← hlt', ← hla]; exact sterm_any p _ true p.last w' (H2.out.2.2.2.2.1.grown0 hg) HP.out.1 (by unfold Pl.last; omega) (Nat.le_refl _)
          have SKX : ∀ {V : World}, W2.grownBy V none → (V.heap[X3]? = some (.cells #[.slice (some ⟨gn, 0, none⟩) 2 nc, .slice (some ⟨gr, 0, none⟩) (d.length - 8 * 2) rc] 81 (0, 0)) ∧ V.heap[w.heap.size]? = some (.cells #[.int .i64 (p.base : Int), .int .i64 (p.bt : Int), .slice ea el ec, .bool true] 42 (0, 0)) ∧ V.cell? ⟨gn, 0, none⟩ = some (.int .i64 (n0 : Int)) ∧ V.cell? ⟨gn, 1, none⟩ = some (.int .i64 (n1 : Int))) := fun {V} hv => ⟨grown_blk hv H2.out.2.2.2.2.2.1, grown_blk hv H2.out.1, ((bcell hv).1 _ _ (cell_block_lt q0)).trans q0, ((bcell hv).1 _ _ (cell_block_lt q1)).trans q1⟩
          clear hla hlt'; have v2 : IntKind.i64.wrap ((la : Int) + 1) = (la : Int) + 1 := IntWalk.i64_in _ (by omega)
          rcases Classical.em (n0 = la + 1) with k0 | k0
          · have d0 : ((n0 : Int) == (la : Int) + 1) = true := by simp; omega
            have HQ : Hid (n0 = la + 1) := k0; clear k0
            go_upto_region 12 with fail
            refine wp_region_Z (fun V => V.heap[X3]? = some (.cells #[.slice (some ⟨gn, 0, none⟩) 2 nc, .slice (some ⟨gr, 0, none⟩) (d.length - 8 * 2) rc] 81 (0, 0)) ∧ V.heap[w.heap.size]? = some (.cells #[.int .i64 (p.base : Int), .int .i64 (p.bt : Int), .slice ea el ec, .bool true] 42 (0, 0)) ∧ V.cell? ⟨gn, 0, none⟩ = some (.int .i64 (n0 : Int)) ∧ V.cell? ⟨gn, 1, none⟩ = some (.int .i64 (n1 : Int))) (fun j => j == 20) (by kernel_rfl) ?_; have hS : W2.drew.heap[X3]? = some (.cells #[.slice (some ⟨gn, 0, none⟩) 2 nc, .slice (some ⟨gr, 0, none⟩) (d.length - 8 * 2) rc] 81 (0, 0)) ∧ W2.drew.heap[w.heap.size]? = some (.cells #[.int .i64 (p.base : Int), .int .i64 (p.bt : Int), .slice ea el ec, .bool true] 42 (0, 0)) ∧ W2.drew.cell? ⟨gn, 0, none⟩ = some (.int .i64 (n0 : Int)) ∧ W2.drew.cell? ⟨gn, 1, none⟩ = some (.int .i64 (n1 : Int)) := ⟨H2.out.2.2.2.2.2.1, H2.out.1, q0, q1⟩; refine wpAnyZ_take' (i := 0) (v := ?vz80) rfl (by kernel_rfl) (by kernel_rfl) (by kernel_rfl) (fun _ _ _ h => h) (Or.inl ⟨by rfl, ?yz80⟩) ?rz80
            case yz80 => (intro w _; go_simp; first | done | with_reducible rfl)
            simp only [Act.put, List.setIfInBounds_toArray, List.set_cons_zero, List.set_cons_succ]; refine wpAnyZ_load' (i := 1) (y := 20) (v := ?vz81) rfl (by kernel_rfl) (by kernel_rfl) (by kernel_rfl) (fun _ _ _ h => h) (fun j hj => .inl (by obtain rfl : j = 20 := (by simpa using hj); kernel_rfl)) rfl (by kernel_rfl) (Or.inl ⟨by rfl, ?yz81⟩) hS ?rz81
            case yz81 => (intro W hW; have c0 : W.cell? ⟨X3, 0, none⟩ = some (.slice (some ⟨gn, 0, none⟩) 2 nc) := (cell_of_row W _ _ _ _ _ hW.1).trans rfl; go_simp; first | done | with_reducible rfl)
            simp only [Act.put, List.setIfInBounds_toArray, List.set_cons_zero, List.set_cons_succ]; refine wpAnyZ_take' (i := 2) (v := ?vz82) rfl (by kernel_rfl) (by kernel_rfl) (by kernel_rfl) (fun _ _ _ h => h) (Or.inl ⟨by rfl, ?yz82⟩) ?rz82
            case yz82 => (intro w _; go_simp; first | done | with_reducible rfl)
            simp only [Act.put, List.setIfInBounds_toArray, List.set_cons_zero, List.set_cons_succ]; refine wpAnyZ_load' (i := 3) (y := 20) (v := ?vz83) rfl (by kernel_rfl) (by kernel_rfl) (by kernel_rfl) (fun _ _ _ h => h) (fun j hj => .inl (by obtain rfl : j = 20 := (by simpa using hj); kernel_rfl)) rfl (by kernel_rfl) (Or.inl ⟨by rfl, ?yz83⟩) hS ?rz83
            case yz83 => (intro W hW; have c0 : W.cell? ⟨gn, 0, none⟩ = some (.int .i64 (n0 : Int)) := hW.2.2.1; go_simp; first | done | with_reducible rfl)
            simp only [Act.put, List.setIfInBounds_toArray, List.set_cons_zero, List.set_cons_succ]; refine wpAnyZ_load' (i := 4) (y := 20) (v := ?vz84) rfl (by kernel_rfl) (by kernel_rfl) (by kernel_rfl) (fun _ _ _ h => h) (fun j hj => .inl (by obtain rfl : j = 20 := (by simpa using hj); kernel_rfl)) rfl (by kernel_rfl) (Or.inl ⟨by rfl, ?yz84⟩) hS ?rz84
            case yz84 => (intro W hW; have c0 : W.cell? ⟨w.heap.size, 0, none⟩ = some (.int .i64 (p.base : Int)) := (cell_of_row W _ _ _ _ _ hW.2.1).trans rfl; have c1 : W.cell? ⟨w.heap.size, 1, none⟩ = some (.int .i64 (p.bt : Int)) := (cell_of_row W _ _ _ _ _ hW.2.1).trans rfl; have c2 : W.cell? ⟨w.heap.size, 2, none⟩ = some (.slice ea el ec) := (cell_of_row W _ _ _ _ _ hW.2.1).trans rfl; have c3 : W.cell? ⟨w.heap.size, 3, none⟩ = some (.bool true) := (cell_of_row W _ _ _ _ _ hW.2.1).trans rfl; go_simp; first | done | with_reducible rfl)
            simp only [Act.put, List.setIfInBounds_toArray, List.set_cons_zero, List.set_cons_succ]; refine wpAnyZ_one' (i := 5) (by kernel_rfl) rfl (fun K hK => ?_); go_simp; go_at_call 51; refine (HLA.out _ (grownBy_drew (grownBy_refl _ _))).mono ?_; rintro e w3 ⟨rfl, hgw3⟩; have HGw3 : Hid (W2.grownBy w3 none) := grownBy_trans (grownBy_drew (grownBy_refl _ _)) hgw3; refine hK.out _ _ (fun _ _ => SKX HGw3.out) ?_; clear hK K hgw3; (try simp only [Act.put, List.setIfInBounds_toArray, List.set_cons_zero, List.set_cons_succ]); refine wpAnyZ_take' (i := 6) (v := ?vz85) rfl (by kernel_rfl) (by kernel_rfl) (by kernel_rfl) (fun _ _ _ h => h) (Or.inl ⟨by rfl, ?yz85⟩) ?rz85
            case yz85 => (intro w _; go_simp; first | done | with_reducible rfl)
            simp only [Act.put, List.setIfInBounds_toArray, List.set_cons_zero, List.set_cons_succ]; refine wpAnyZ_take' (i := 7) (v := ?vz86) rfl (by kernel_rfl) (by kernel_rfl) (by kernel_rfl) (fun _ _ _ h => h) (Or.inl ⟨by rfl, ?yz86⟩) ?rz86
            case yz86 => (intro w _; go_simp; first | done | with_reducible rfl)
            simp only [Act.put, List.setIfInBounds_toArray, List.set_cons_zero, List.set_cons_succ]; refine wpAnyZ_take' (i := 8) (v := ?vz87) rfl (by kernel_rfl) (by kernel_rfl) (by kernel_rfl) (fun _ _ _ h => h) (Or.inl ⟨by rfl, ?yz87⟩) ?rz87
            case yz87 => (intro w _; go_simp; first | done | with_reducible rfl)
            simp only [Act.put, List.setIfInBounds_toArray, List.set_cons_zero, List.set_cons_succ]; have hS : w3.heap[X3]? = some (.cells #[.slice (some ⟨gn, 0, none⟩) 2 nc, .slice (some ⟨gr, 0, none⟩) (d.length - 8 * 2) rc] 81 (0, 0)) ∧ w3.heap[w.heap.size]? = some (.cells #[.int .i64 (p.base : Int), .int .i64 (p.bt : Int), .slice ea el ec, .bool true] 42 (0, 0)) ∧ w3.cell? ⟨gn, 0, none⟩ = some (.int .i64 (n0 : Int)) ∧ w3.cell? ⟨gn, 1, none⟩ = some (.int .i64 (n1 : Int)) := SKX HGw3.out; refine wpAnyZ_take' (i := 9) (v := ?vz88) rfl (by kernel_rfl) (by kernel_rfl) (by kernel_rfl) (fun _ _ _ h => h) (Or.inl ⟨by rfl, ?yz88⟩) ?rz88
            case yz88 => (intro w _; go_simp; first | done | with_reducible rfl)
            simp only [Act.put, List.setIfInBounds_toArray, List.set_cons_zero, List.set_cons_succ]; refine wpAnyZ_load' (i := 10) (y := 20) (v := ?vz89) rfl (by kernel_rfl) (by kernel_rfl) (by kernel_rfl) (fun _ _ _ h => h) (fun j hj => .inl (by obtain rfl : j = 20 := (by simpa using hj); kernel_rfl)) rfl (by kernel_rfl) (Or.inl ⟨by rfl, ?yz89⟩) hS ?rz89
            case yz89 => (intro W hW; have c0 : W.cell? ⟨X3, 0, none⟩ = some (.slice (some ⟨gn, 0, none⟩) 2 nc) := (cell_of_row W _ _ _ _ _ hW.1).trans rfl; go_simp; first | done | with_reducible rfl)
            simp only [Act.put, List.setIfInBounds_toArray, List.set_cons_zero, List.set_cons_succ]; refine wpAnyZ_take' (i := 11) (v := ?vz90) rfl (by kernel_rfl) (by kernel_rfl) (by kernel_rfl) (fun _ _ _ h => h) (Or.inl ⟨by rfl, ?yz90⟩) ?rz90
            case yz90 => (intro w _; go_simp; first | done | with_reducible rfl)
            simp only [Act.put, List.setIfInBounds_toArray, List.set_cons_zero, List.set_cons_succ]; refine wpAnyZ_load' (i := 12) (y := 20) (v := ?vz91) rfl (by kernel_rfl) (by kernel_rfl) (by kernel_rfl) (fun _ _ _ h => h) (fun j hj => .inl (by obtain rfl : j = 20 := (by simpa using hj); kernel_rfl)) rfl (by kernel_rfl) (Or.inl ⟨by rfl, ?yz91⟩) hS ?rz91
            case yz91 => (intro W hW; have c0 : W.cell? ⟨gn, 1, none⟩ = some (.int .i64 (n1 : Int)) := hW.2.2.2; go_simp; first | done | with_reducible rfl)
            simp only [Act.put, List.setIfInBounds_toArray, List.set_cons_zero, List.set_cons_succ]; refine wpAnyZ_load' (i := 13) (y := 20) (v := ?vz92) rfl (by kernel_rfl) (by kernel_rfl) (by kernel_rfl) (fun _ _ _ h => h) (fun j hj => .inl (by obtain rfl : j = 20 := (by simpa using hj); kernel_rfl)) rfl (by kernel_rfl) (Or.inl ⟨by rfl, ?yz92⟩) hS ?rz92
            case yz92 => (intro W hW; have c0 : W.cell? ⟨w.heap.size, 0, none⟩ = some (.int .i64 (p.base : Int)) := (cell_of_row W _ _ _ _ _ hW.2.1).trans rfl; have c1 : W.cell? ⟨w.heap.size, 1, none⟩ = some (.int .i64 (p.bt : Int)) := (cell_of_row W _ _ _ _ _ hW.2.1).trans rfl; have c2 : W.cell? ⟨w.heap.size, 2, none⟩ = some (.slice ea el ec) := (cell_of_row W _ _ _ _ _ hW.2.1).trans rfl; have c3 : W.cell? ⟨w.heap.size, 3, none⟩ = some (.bool true) := (cell_of_row W _ _ _ _ _ hW.2.1).trans rfl; go_simp; first | done | with_reducible rfl)
            simp only [Act.put, List.setIfInBounds_toArray, List.set_cons_zero, List.set_cons_succ]; refine wpAnyZ_load' (i := 14) (y := 20) (v := ?vz93) rfl (by kernel_rfl) (by kernel_rfl) (by kernel_rfl) (fun _ _ _ h => h) (fun j hj => .inl (by obtain rfl : j = 20 := (by simpa using hj); kernel_rfl)) rfl (by kernel_rfl) (Or.inl ⟨by rfl, ?yz93⟩) hS ?rz93
            case yz93 => (intro W hW; have c0 : W.cell? ⟨w.heap.size, 0, none⟩ = some (.int .i64 (p.base : Int)) := (cell_of_row W _ _ _ _ _ hW.2.1).trans rfl; have c1 : W.cell? ⟨w.heap.size, 1, none⟩ = some (.int .i64 (p.bt : Int)) := (cell_of_row W _ _ _ _ _ hW.2.1).trans rfl; have c2 : W.cell? ⟨w.heap.size, 2, none⟩ = some (.slice ea el ec) := (cell_of_row W _ _ _ _ _ hW.2.1).trans rfl; have c3 : W.cell? ⟨w.heap.size, 3, none⟩ = some (.bool true) := (cell_of_row W _ _ _ _ _ hW.2.1).trans rfl; go_simp; first | done | with_reducible rfl)
            simp only [Act.put, List.setIfInBounds_toArray, List.set_cons_zero, List.set_cons_succ]; refine wpAnyZ_one' (i := 15) (by kernel_rfl) rfl (fun K hK => ?_); go_simp; go_at_call 51; refine (HLA.out _ HGw3.out).mono ?_; rintro e w4 ⟨rfl, hgw4⟩; have HGw4 : Hid (W2.grownBy w4 none) := grownBy_trans HGw3.out hgw4; refine hK.out _ _ (fun _ _ => SKX HGw4.out) ?_; clear hK K hgw4; (try simp only [Act.put, List.setIfInBounds_toArray, List.set_cons_zero, List.set_cons_succ]); refine wpAnyZ_one' (i := 16) (by kernel_rfl) rfl (fun K hK => ?_); go_simp; go_at_call 52; refine (HTE.out _ HGw4.out).mono ?_; rintro e w5 ⟨rfl, hgw5⟩; have HGw5 : Hid (W2.grownBy w5 none) := grownBy_trans HGw4.out hgw5; refine hK.out _ _ (fun _ _ => SKX HGw5.out) ?_; clear hK K hgw5; (try simp only [Act.put, List.setIfInBounds_toArray, List.set_cons_zero, List.set_cons_succ]); refine wpAnyZ_take' (i := 17) (v := ?vz94) rfl (by kernel_rfl) (by kernel_rfl) (by kernel_rfl) (fun _ _ _ h => h) (Or.inl ⟨by rfl, ?yz94⟩) ?rz94
            case yz94 => (intro w _; go_simp; first | done | with_reducible rfl)
            simp only [Act.put, List.setIfInBounds_toArray, List.set_cons_zero, List.set_cons_succ]; refine wpAnyZ_take' (i := 18) (v := ?vz95) rfl (by kernel_rfl) (by kernel_rfl) (by kernel_rfl) (fun _ _ _ h => h) (Or.inl ⟨by rfl, ?yz95⟩) ?rz95
            case yz95 => (intro w _; go_simp; first | done | with_reducible rfl)
            simp only [Act.put, List.setIfInBounds_toArray, List.set_cons_zero, List.set_cons_succ]; refine wpAnyZ_take' (i := 19) (v := ?vz96) rfl (by kernel_rfl) (by kernel_rfl) (by kernel_rfl) (fun _ _ _ h => h) (Or.inl ⟨by rfl, ?yz96⟩) ?rz96
            case yz96 => (intro w _; go_simp; first | done | with_reducible rfl)
            simp only [Act.put, List.setIfInBounds_toArray, List.set_cons_zero, List.set_cons_succ]; have hLw5 := grown_blk HGw5.out H2.out.1; have hZw5 := grown_blk HGw5.out H2.out.2.2.1; have ka0 : w5.cell? ⟨w.heap.size, 0, none⟩ = some (.int .i64 (p.base : Int)) := (cell_of_row _ _ _ _ _ _ hLw5).trans rfl; have ka1 : w5.cell? ⟨w.heap.size, 1, none⟩ = some (.int .i64 (p.bt : Int)) := (cell_of_row _ _ _ _ _ _ hLw5).trans rfl; have ka2 : w5.cell? ⟨w.heap.size, 2, none⟩ = some (.slice ea el ec) := (cell_of_row _ _ _ _ _ _ hLw5).trans rfl; have ka3 : w5.cell? ⟨w.heap.size, 3, none⟩ = some (.bool true) := (cell_of_row _ _ _ _ _ _ hLw5).trans rfl
            have kaf : w5.frozen? ⟨w.heap.size, 3, none⟩ = false := by simp [World.frozen?, hLw5]
            have kaf2 : w5.frozen? ⟨w.heap.size, 2, none⟩ = false := by simp [World.frozen?, hLw5]
            have kz0 : w5.cell? ⟨w.heap.size + 1 + 1, 0, none⟩ = some (.int .i64 0) := (cell_of_row _ _ _ _ _ _ hZw5).trans rfl
            have kzf0 : w5.frozen? ⟨w.heap.size + 1 + 1, 0, none⟩ = false := by simp [World.frozen?, hZw5]
            have kz1 : w5.cell? ⟨w.heap.size + 1 + 1, 1, none⟩ = some (.int .i64 0) := (cell_of_row _ _ _ _ _ _ hZw5).trans rfl
            have kzf1 : w5.frozen? ⟨w.heap.size + 1 + 1, 1, none⟩ = false := by simp [World.frozen?, hZw5]
            have kz2 : w5.cell? ⟨w.heap.size + 1 + 1, 2, none⟩ = some (.slice none 0 0) := (cell_of_row _ _ _ _ _ _ hZw5).trans rfl
            have kzf2 : w5.frozen? ⟨w.heap.size + 1 + 1, 2, none⟩ = false := by simp [World.frozen?, hZw5]
            have kz3 : w5.cell? ⟨w.heap.size + 1 + 1, 3, none⟩ = some (.bool false) := (cell_of_row _ _ _ _ _ _ hZw5).trans rfl
            have kzf3 : w5.frozen? ⟨w.heap.size + 1 + 1, 3, none⟩ = false := by simp [World.frozen?, hZw5]
            have HKw5 : Hid (w.grownBy w5 none ∧ SLg w5 p.es (.slice ea el ec) ∧ w5.heap[w.heap.size]? = some (.cells #[.int .i64 (p.base : Int), .int .i64 (p.bt : Int), .slice ea el ec, .bool true] 42 (0, 0)) ∧ w5.heap[w.heap.size + 1 + 1]? = some (.cells #[.int .i64 0, .int .i64 0, .slice none 0 0, .bool false] 42 (0, 0))) := ⟨grownBy_trans H2.out.2.2.2.1 HGw5.out, H2.out.2.2.2.2.1.grown0 HGw5.out, hLw5, hZw5⟩; clear hLw5 hZw5 a0 a1 a2 a3 af3 z0 z1 z2 z3 zf0 zf1 zf2 zf3 HBAD HBB; have hPw5 := grown_blk HGw5.out H2.out.2.2.2.2.2.1; refine wpAnyZ_one' (i := 20) (by kernel_rfl) rfl (fun K hK => ?_); go_simp; refine hK.out _ _ (fun hc => (by cases hc)) ?_; clear hK K; (try simp only [Act.put]); refine wpAnyZ_done (by kernel_rfl) ?_ _
            have HV : Hid ((w5.setCell ⟨w.heap.size, 3, none⟩ (.bool (decide (lt ≤ n1)))).heap[w.heap.size]? = some (.cells #[.int .i64 (p.base : Int), .int .i64 (p.bt : Int), .slice ea el ec, .bool (decide (lt ≤ n1))] 42 (0, 0)) ∧ (w5.setCell ⟨w.heap.size, 3, none⟩ (.bool (decide (lt ≤ n1)))).heap[w.heap.size + 1 + 1]? = some (.cells #[.int .i64 0, .int .i64 0, .slice none 0 0, .bool false] 42 (0, 0)) ∧ (w5.setCell ⟨w.heap.size, 3, none⟩ (.bool (decide (lt ≤ n1)))).heap[X3]? = some (.cells #[.slice (some ⟨gn, 0, none⟩) 2 nc, .slice (some ⟨gr, 0, none⟩) (d.length - 8 * 2) rc] 81 (0, 0)) ∧ (w5.setCell ⟨w.heap.size, 3, none⟩ (.bool (decide (lt ≤ n1)))).cell? ⟨gn, 1, none⟩ = some (.int .i64 (n1 : Int)) ∧ Own (w5.setCell ⟨w.heap.size, 3, none⟩ (.bool (decide (lt ≤ n1)))) 5 gr (d.drop (8 * 2)) ∧ w.grownBy (w5.setCell ⟨w.heap.size, 3, none⟩ (.bool (decide (lt ≤ n1)))) none) := by
              have hgr0 := HPY.out.2.2.1; have hw09 := H1.out.2.2.2.2.2.2.2
              have hgn9 : gn ≠ w.heap.size := by
                intro hc; have h9 := HGN.out
                omega
              refine ⟨set_blkL (L := [.int .i64 (p.base : Int), .int .i64 (p.bt : Int), .slice ea el ec, .bool true]) 3 _ HKw5.out.2.2.1, set_oth 3 _ (by omega) HKw5.out.2.2.2, set_oth 3 _ (by omega) hPw5, ?_, ?_, grownBy_setNew HKw5.out.1 (Nat.le_refl _)⟩
              · exact (World.cell?_of_block (heap_setCell_other w5 ⟨w.heap.size, 3, none⟩ gn _ hgn9)).trans (((bcell HGw5.out).1 _ _ (cell_block_lt q1)).trans q1)
              · exact (HPY.out.2.1.grown HGw5.out (by simp)).of_block (heap_setCell_other w5 ⟨w.heap.size, 3, none⟩ gr _ (by show gr ≠ w.heap.size; omega))
            generalize w5.setCell ⟨w.heap.size, 3, none⟩ (.bool (decide (lt ≤ n1))) = V at HV ⊢; clear hPw5 ka0 ka1 ka2 ka3 kaf kaf2 kz0 kz1 kz2 kz3 kzf0 kzf1 kzf2 kzf3
            have SKV : ∀ {Y : World}, V.grownBy Y none → (Y.heap[X3]? = some (.cells #[.slice (some ⟨gn, 0, none⟩) 2 nc, .slice (some ⟨gr, 0, none⟩) (d.length - 8 * 2) rc] 81 (0, 0)) ∧ Y.heap[w.heap.size]? = some (.cells #[.int .i64 (p.base : Int), .int .i64 (p.bt : Int), .slice ea el ec, .bool (decide (lt ≤ n1))] 42 (0, 0)) ∧ Y.cell? ⟨gn, 1, none⟩ = some (.int .i64 (n1 : Int))) := fun {Y} hv => ⟨grown_blk hv HV.out.2.2.1, grown_blk hv HV.out.1, ((bcell hv).1 _ _ (cell_block_lt HV.out.2.2.2.1)).trans HV.out.2.2.2.1⟩
            go_upto_region 13 with fail
            refine wp_region_Z (fun Y => Y.heap[X3]? = some (.cells #[.slice (some ⟨gn, 0, none⟩) 2 nc, .slice (some ⟨gr, 0, none⟩) (d.length - 8 * 2) rc] 81 (0, 0)) ∧ Y.heap[w.heap.size]? = some (.cells #[.int .i64 (p.base : Int), .int .i64 (p.bt : Int), .slice ea el ec, .bool (decide (lt ≤ n1))] 42 (0, 0)) ∧ Y.cell? ⟨gn, 1, none⟩ = some (.int .i64 (n1 : Int))) (fun j => j == 14) (by kernel_rfl) ?_; have G0 : V.grownBy V.drew none := grownBy_drew (grownBy_refl _ _); generalize V.drew = Y0 at G0 ⊢; have hS : Y0.heap[X3]? = some (.cells #[.slice (some ⟨gn, 0, none⟩) 2 nc, .slice (some ⟨gr, 0, none⟩) (d.length - 8 * 2) rc] 81 (0, 0)) ∧ Y0.heap[w.heap.size]? = some (.cells #[.int .i64 (p.base : Int), .int .i64 (p.bt : Int), .slice ea el ec, .bool (decide (lt ≤ n1))] 42 (0, 0)) ∧ Y0.cell? ⟨gn, 1, none⟩ = some (.int .i64 (n1 : Int)) := SKV G0; refine wpAnyZ_take' (i := 1) (v := ?vz97) rfl (by kernel_rfl) (by kernel_rfl) (by kernel_rfl) (fun _ _ _ h => h) (Or.inl ⟨by rfl, ?yz97⟩) ?rz97
            case yz97 => (intro w _; go_simp; first | done | with_reducible rfl)
            simp only [Act.put, List.setIfInBounds_toArray, List.set_cons_zero, List.set_cons_succ]; refine wpAnyZ_load' (i := 2) (y := 14) (v := ?vz98) rfl (by kernel_rfl) (by kernel_rfl) (by kernel_rfl) (fun _ _ _ h => h) (fun j hj => .inl (by obtain rfl : j = 14 := (by simpa using hj); kernel_rfl)) rfl (by kernel_rfl) (Or.inl ⟨by rfl, ?yz98⟩) hS ?rz98
            case yz98 => (intro W hW; have c0 : W.cell? ⟨w.heap.size, 2, none⟩ = some (.slice ea el ec) := (cell_of_row W _ _ _ _ _ hW.2.1).trans rfl; go_simp; first | done | with_reducible rfl)
            simp only [Act.put, List.setIfInBounds_toArray, List.set_cons_zero, List.set_cons_succ]; refine wpAnyZ_take' (i := 4) (v := ?vz99) rfl (by kernel_rfl) (by kernel_rfl) (by kernel_rfl) (fun _ _ _ h => h) (Or.inl ⟨by rfl, ?yz99⟩) ?rz99
            case yz99 => (intro w _; go_simp; first | done | with_reducible rfl)
            simp only [Act.put, List.setIfInBounds_toArray, List.set_cons_zero, List.set_cons_succ]; refine wpAnyZ_load' (i := 5) (y := 14) (v := ?vz100) rfl (by kernel_rfl) (by kernel_rfl) (by kernel_rfl) (fun _ _ _ h => h) (fun j hj => .inl (by obtain rfl : j = 14 := (by simpa using hj); kernel_rfl)) rfl (by kernel_rfl) (Or.inl ⟨by rfl, ?yz100⟩) hS ?rz100
            case yz100 => (intro W hW; have c0 : W.cell? ⟨X3, 0, none⟩ = some (.slice (some ⟨gn, 0, none⟩) 2 nc) := (cell_of_row W _ _ _ _ _ hW.1).trans rfl; go_simp; first | done | with_reducible rfl)
            simp only [Act.put, List.setIfInBounds_toArray, List.set_cons_zero, List.set_cons_succ]; refine wpAnyZ_take' (i := 6) (v := ?vz101) rfl (by kernel_rfl) (by kernel_rfl) (by kernel_rfl) (fun _ _ _ h => h) (Or.inl ⟨by rfl, ?yz101⟩) ?rz101
            case yz101 => (intro w _; go_simp; first | done | with_reducible rfl)
            simp only [Act.put, List.setIfInBounds_toArray, List.set_cons_zero, List.set_cons_succ]; refine wpAnyZ_load' (i := 7) (y := 14) (v := ?vz102) rfl (by kernel_rfl) (by kernel_rfl) (by kernel_rfl) (fun _ _ _ h => h) (fun j hj => .inl (by obtain rfl : j = 14 := (by simpa using hj); kernel_rfl)) rfl (by kernel_rfl) (Or.inl ⟨by rfl, ?yz102⟩) hS ?rz102
            case yz102 => (intro W hW; have c0 : W.cell? ⟨gn, 1, none⟩ = some (.int .i64 (n1 : Int)) := hW.2.2; go_simp; first | done | with_reducible rfl)
            simp only [Act.put, List.setIfInBounds_toArray, List.set_cons_zero, List.set_cons_succ]; refine wpAnyZ_take' (i := 8) (v := ?vz103) rfl (by kernel_rfl) (by kernel_rfl) (by kernel_rfl) (fun _ _ _ h => h) (Or.inl ⟨by rfl, ?yz103⟩) ?rz103
            case yz103 => (intro w _; go_simp; first | done | with_reducible rfl)
            simp only [Act.put, List.setIfInBounds_toArray, List.set_cons_zero, List.set_cons_succ]; refine wpAnyZ_load' (i := 9) (y := 14) (v := ?vz104) rfl (by kernel_rfl) (by kernel_rfl) (by kernel_rfl) (fun _ _ _ h => h) (fun j hj => .inl (by obtain rfl : j = 14 := (by simpa using hj); kernel_rfl)) rfl (by kernel_rfl) (Or.inl ⟨by rfl, ?yz104⟩) hS ?rz104
            case yz104 => (intro W hW; have c0 : W.cell? ⟨X3, 1, none⟩ = some (.slice (some ⟨gr, 0, none⟩) (d.length - 8 * 2) rc) := (cell_of_row W _ _ _ _ _ hW.1).trans rfl; go_simp; first | done | with_reducible rfl)
            simp only [Act.put, List.setIfInBounds_toArray, List.set_cons_zero, List.set_cons_succ]; refine wpAnyZ_take' (i := 10) (v := ?vz105) rfl (by kernel_rfl) (by kernel_rfl) (by kernel_rfl) (fun _ _ _ h => h) (Or.inl ⟨by rfl, ?yz105⟩) ?rz105
            case yz105 => (intro w _; go_simp; first | done | with_reducible rfl)
            simp only [Act.put, List.setIfInBounds_toArray, List.set_cons_zero, List.set_cons_succ]; clear hS; obtain ⟨E, hE1, hE2, hE3, hE4, hE5, hE6⟩ := HP.out.2.1.parts; have HE : Hid (E.length = p.es.length ∧ E.map En.tell = p.es ∧ EnS w ea p.es.length E ∧ (∀ e ∈ E, Own w 5 e.g e.D ∧ e.off + e.n ≤ e.D.length) ∧ (E.map En.g).Nodup ∧ (∀ e ∈ E, e.t ≤ 1000000000 ∧ e.n ≤ 8192)) := ⟨hE1, hE2, hE3, hE4, hE5, hE6⟩; have hEV := hE3.grown0 HV.out.2.2.2.2.2; rw [HP.out.2.2.2.1] at hEV; have HEV : Hid (EnS V ea el E) := hEV; clear hE1 hE2 hE3 hE4 hE5 hE6 hEV; refine wpAnyZ_two' (i := 0) (k := 11) (by kernel_rfl) rfl rfl (fun K hK => ?_) (fun K hK => ?_)
            · go_simp; refine hK.out _ _ (fun _ _ => SKV (grownBy_alloc G0 _)) ?_; clear hK K; (try simp only [Act.put, List.setIfInBounds_toArray, List.set_cons_zero, List.set_cons_succ]); have G1 : V.grownBy (Y0.alloc (.cells #[] 47)) none := grownBy_alloc G0 _; have hy1 := G0.size
              have hs1 : Y0.heap.size < (Y0.alloc (.cells #[] 47)).heap.size := by simp
              have O0 : (Y0.alloc (.cells #[] 47)).ownsRow V.heap.size 47 2 (.slice (some ⟨Y0.heap.size, 0, none⟩) 0 0) 0 [] := World.ownsRow_made Y0 #[] 0 G0.size (Nat.zero_le _) rfl; generalize Y0.alloc (.cells #[] 47) = Y1 at G1 hs1 O0 ⊢; refine wpAnyZ_two' (i := 3) (k := 11) (by kernel_rfl) rfl rfl (fun K hK => ?_) (fun K hK => ?_)
              · refine step_appE (by rfl) (.tmp 103) (.tmp 105) (by rfl) (by rfl) O0 (by rfl) (HEV.out.grown0 G1) HP.out.2.2.2.2.1 (by omega) G1.size ?_; intro v3 Y2 O3 g3; have G2 : V.grownBy Y2 none := grown_own G1 O0 g3; refine hK.out _ _ (fun _ _ => SKV G2) ?_; clear hK K O0 g3; (try simp only [Act.put, List.setIfInBounds_toArray, List.set_cons_zero, List.set_cons_succ]); refine wpAnyZ_one' (i := 11) (by kernel_rfl) rfl (fun K hK => ?_); go_simp; refine hK.out _ _ (fun _ _ => SKV (grownBy_alloc G2 _)) ?_; clear hK K; (try simp only [Act.put, List.setIfInBounds_toArray, List.set_cons_zero, List.set_cons_succ]); have G3 : V.grownBy (Y2.alloc (.cells #[.int .i64 (n1 : Int), .slice (some ⟨gr, 0, none⟩) (d.length - 8 * 2) rc] 47)) none := grownBy_alloc G2 _; have hy3 := G2.size
                have hs3 : Y2.heap.size < (Y2.alloc (.cells #[.int .i64 (n1 : Int), .slice (some ⟨gr, 0, none⟩) (d.length - 8 * 2) rc] 47)).heap.size := by simp
                have R1 : (Y2.alloc (.cells #[.int .i64 (n1 : Int), .slice (some ⟨gr, 0, none⟩) (d.length - 8 * 2) rc] 47)).heap[Y2.heap.size]? = some (.cells #[.int .i64 (n1 : Int), .slice (some ⟨gr, 0, none⟩) (d.length - 8 * 2) rc] 47 (0, 0)) := heap_alloc_new Y2 _; have O3 := own1_grown O3 (World.grownBy_alloc Y2 (.cells #[.int .i64 (n1 : Int), .slice (some ⟨gr, 0, none⟩) (d.length - 8 * 2) rc] 47) none); generalize Y2.alloc (.cells #[.int .i64 (n1 : Int), .slice (some ⟨gr, 0, none⟩) (d.length - 8 * 2) rc] 47) = Y3 at G3 hs3 R1 O3 ⊢; refine wpAnyZ_one' (i := 12) (by kernel_rfl) rfl (fun K hK => ?_)
                refine step_append2 (by rfl) (.tmp 106) (.tmp 114) 24 47 (by rfl) Tryz.underlying24 Tryz.infoEnt rfl (B := V.heap.size) (by rfl) O3 (ad := ⟨Y2.heap.size, 0, none⟩) (c := 1) (news := [.int .i64 (n1 : Int), .slice (some ⟨gr, 0, none⟩) (d.length - 8 * 2) rc]) (by rfl) rfl (fun j u hj => (by
                    match j, hj with
                    | 0, hj => simp at hj; subst hj; exact (cell_of_row _ _ _ _ _ _ R1).trans rfl
                    | 1, hj => simp at hj; subst hj; exact (cell_of_row _ _ _ _ _ _ R1).trans rfl)) (fun u hu => (by simp at hu; rcases hu with rfl | rfl <;> rfl)) (by decide) (by omega) G3.size ?_
                intro v6 Y6 O6 g6; have G6 : V.grownBy Y6 none := grown_own G3 O3 g6; obtain ⟨g7, c7, rfl⟩ := own1_succ O6; refine hK.out _ _ (fun _ _ => SKV G6) ?_; clear hK K O3 g6 R1; (try simp only [Act.put, List.setIfInBounds_toArray, List.set_cons_zero, List.set_cons_succ])
                have e01 : 0 + el + 1 = el + 1 := by omega
                rw [e01, List.nil_append] at O6; rw [e01]; clear e01
                have HF6 : Hid (SLg Y6 (p.es ++ [(n1, d.drop (8 * 2))]) (.slice (some ⟨g7, 0, none⟩) (el + 1) c7) ∧ V.grownBy Y6 none ∧ w.grownBy Y6 none) := by
                  obtain ⟨h1, h2, -, h4, h5, h6⟩ := HE.out; have hg : w.grownBy Y6 none := grownBy_trans HV.out.2.2.2.2.2 G6; refine ⟨slg_put h1 h2 h4 h5 h6 hg (HV.out.2.2.2.2.1.grown G6 (by simp)) (by have := HPY.out.2.2.1; have := H1.out.2.2.2.2.2.2.2; omega) (rn := d.length - 8 * 2) (by simp) hw1.2 (by have := HP.out.2.2.2.2.2; omega) (rc := rc) (by rw [HP.out.2.2.2.1]; exact O6), G6, hg⟩
                have kb := SKV G6; have kzb := grown_blk G6 HV.out.2.1; have ka0 : Y6.cell? ⟨w.heap.size, 0, none⟩ = some (.int .i64 (p.base : Int)) := (cell_of_row _ _ _ _ _ _ kb.2.1).trans rfl; have ka1 : Y6.cell? ⟨w.heap.size, 1, none⟩ = some (.int .i64 (p.bt : Int)) := (cell_of_row _ _ _ _ _ _ kb.2.1).trans rfl; have ka2 : Y6.cell? ⟨w.heap.size, 2, none⟩ = some (.slice ea el ec) := (cell_of_row _ _ _ _ _ _ kb.2.1).trans rfl; have ka3 : Y6.cell? ⟨w.heap.size, 3, none⟩ = some (.bool (decide (lt ≤ n1))) := (cell_of_row _ _ _ _ _ _ kb.2.1).trans rfl
                have kaf2 : Y6.frozen? ⟨w.heap.size, 2, none⟩ = false := by simp [World.frozen?, kb.2.1]
                have kz0 : Y6.cell? ⟨w.heap.size + 1 + 1, 0, none⟩ = some (.int .i64 0) := (cell_of_row _ _ _ _ _ _ kzb).trans rfl
                have kzf0 : Y6.frozen? ⟨w.heap.size + 1 + 1, 0, none⟩ = false := by simp [World.frozen?, kzb]
                have kz1 : Y6.cell? ⟨w.heap.size + 1 + 1, 1, none⟩ = some (.int .i64 0) := (cell_of_row _ _ _ _ _ _ kzb).trans rfl
                have kzf1 : Y6.frozen? ⟨w.heap.size + 1 + 1, 1, none⟩ = false := by simp [World.frozen?, kzb]
                have kz2 : Y6.cell? ⟨w.heap.size + 1 + 1, 2, none⟩ = some (.slice none 0 0) := (cell_of_row _ _ _ _ _ _ kzb).trans rfl
                have kzf2 : Y6.frozen? ⟨w.heap.size + 1 + 1, 2, none⟩ = false := by simp [World.frozen?, kzb]
                have kz3 : Y6.cell? ⟨w.heap.size + 1 + 1, 3, none⟩ = some (.bool false) := (cell_of_row _ _ _ _ _ _ kzb).trans rfl
                have kzf3 : Y6.frozen? ⟨w.heap.size + 1 + 1, 3, none⟩ = false := by simp [World.frozen?, kzb]
                have HKB : Hid (Y6.heap[w.heap.size]? = some (.cells #[.int .i64 (p.base : Int), .int .i64 (p.bt : Int), .slice ea el ec, .bool (decide (lt ≤ n1))] 42 (0, 0)) ∧ Y6.heap[w.heap.size + 1 + 1]? = some (.cells #[.int .i64 0, .int .i64 0, .slice none 0 0, .bool false] 42 (0, 0))) := ⟨kb.2.1, kzb⟩; clear kb kzb O6; refine wpAnyZ_take' (i := 13) (v := ?vz106) rfl (by kernel_rfl) (by kernel_rfl) (by kernel_rfl) (fun _ _ _ h => h) (Or.inl ⟨by rfl, ?yz106⟩) ?rz106
                case yz106 => (intro w _; go_simp; first | done | with_reducible rfl)
                simp only [Act.put, List.setIfInBounds_toArray, List.set_cons_zero, List.set_cons_succ]; refine wpAnyZ_one' (i := 14) (by kernel_rfl) rfl (fun K hK => ?_); go_simp; refine hK.out _ _ (fun hc => (by cases hc)) ?_; clear hK K; (try simp only [Act.put]); refine wpAnyZ_done (by kernel_rfl) ?_ _; go_wp2; refine bodyPost_ret (results_log (g := w.heap.size + 1 + 1) rfl rfl (set_four (set_oth 2 _ (by omega) HKB.out.2)) rfl) rfl ?_; refine ⟨grown_four (grownBy_setNew HF6.out.2.2 (Nat.le_refl _)) (by omega), _, _, _, (decide (lt ≤ n1)), rfl, ⟨_, _, _, rfl⟩, ?_⟩; rw [HST.out, HNN.out.1, HNN.out.2.1]; obtain ⟨-, -, rfl⟩ := HNN.out
                by_cases hq : lt ≤ n1
                · exact .inl ⟨by simp [hq], { p with es := p.es ++ [(n1, d.drop (8 * 2))] }, by simp [wact, putStep, HLE.out.1, HLE.out.2, HQ.out, hq], rfl, rfl, slg_four (slg_one HF6.out.1 HKB.out.1) (set_oth 2 _ (by omega) HKB.out.2)⟩
                · refine .inr ⟨by simp [hq], ?_⟩
                  simp [wact, putStep, HLE.out.1, HLE.out.2, hq]
              · go_simp; refine hK.out _ _ (fun _ _ => SKV (grownBy_alloc G1 _)) ?_; clear hK K; (try simp only [Act.put, List.setIfInBounds_toArray, List.set_cons_zero, List.set_cons_succ]); have G2 : V.grownBy (Y1.alloc (.cells #[.int .i64 (n1 : Int), .slice (some ⟨gr, 0, none⟩) (d.length - 8 * 2) rc] 47)) none := grownBy_alloc G1 _; have hy2 := G1.size
                have hs2 : Y1.heap.size < (Y1.alloc (.cells #[.int .i64 (n1 : Int), .slice (some ⟨gr, 0, none⟩) (d.length - 8 * 2) rc] 47)).heap.size := by simp
                have R1 : (Y1.alloc (.cells #[.int .i64 (n1 : Int), .slice (some ⟨gr, 0, none⟩) (d.length - 8 * 2) rc] 47)).heap[Y1.heap.size]? = some (.cells #[.int .i64 (n1 : Int), .slice (some ⟨gr, 0, none⟩) (d.length - 8 * 2) rc] 47 (0, 0)) := heap_alloc_new Y1 _; have O0 := own1_grown O0 (World.grownBy_alloc Y1 (.cells #[.int .i64 (n1 : Int), .slice (some ⟨gr, 0, none⟩) (d.length - 8 * 2) rc] 47) none); generalize Y1.alloc (.cells #[.int .i64 (n1 : Int), .slice (some ⟨gr, 0, none⟩) (d.length - 8 * 2) rc] 47) = Y2 at G2 hs2 R1 O0 ⊢; refine wpAnyZ_one' (i := 3) (by kernel_rfl) rfl (fun K hK => ?_); refine step_appE (by rfl) (.tmp 103) (.tmp 105) (by rfl) (by rfl) O0 (by rfl) (HEV.out.grown0 G2) HP.out.2.2.2.2.1 (by omega) G2.size ?_; intro v3 Y3 O3 g3; have G3 : V.grownBy Y3 none := grown_own G2 O0 g3; have R1 : Y3.heap[Y1.heap.size]? = some (.cells #[.int .i64 (n1 : Int), .slice (some ⟨gr, 0, none⟩) (d.length - 8 * 2) rc] 47 (0, 0)) := (g3.block _ (Array.getElem?_eq_some_iff.1 R1).1 (by simp [Value.ownBlock]; omega)).trans R1; refine hK.out _ _ (fun _ _ => SKV G3) ?_; clear hK K O0 g3; (try simp only [Act.put, List.setIfInBounds_toArray, List.set_cons_zero, List.set_cons_succ]); refine wpAnyZ_one' (i := 12) (by kernel_rfl) rfl (fun K hK => ?_)
                refine step_append2 (by rfl) (.tmp 106) (.tmp 114) 24 47 (by rfl) Tryz.underlying24 Tryz.infoEnt rfl (B := V.heap.size) (by rfl) O3 (ad := ⟨Y1.heap.size, 0, none⟩) (c := 1) (news := [.int .i64 (n1 : Int), .slice (some ⟨gr, 0, none⟩) (d.length - 8 * 2) rc]) (by rfl) rfl (fun j u hj => (by
                    match j, hj with
                    | 0, hj => simp at hj; subst hj; exact (cell_of_row _ _ _ _ _ _ R1).trans rfl
                    | 1, hj => simp at hj; subst hj; exact (cell_of_row _ _ _ _ _ _ R1).trans rfl)) (fun u hu => (by simp at hu; rcases hu with rfl | rfl <;> rfl)) (by decide) (by omega) G3.size ?_
                intro v6 Y6 O6 g6; have G6 : V.grownBy Y6 none := grown_own G3 O3 g6; obtain ⟨g7, c7, rfl⟩ := own1_succ O6; refine hK.out _ _ (fun _ _ => SKV G6) ?_; clear hK K O3 g6 R1; (try simp only [Act.put, List.setIfInBounds_toArray, List.set_cons_zero, List.set_cons_succ])
                have e01 : 0 + el + 1 = el + 1 := by omega
                rw [e01, List.nil_append] at O6; rw [e01]; clear e01
                have HF6 : Hid (SLg Y6 (p.es ++ [(n1, d.drop (8 * 2))]) (.slice (some ⟨g7, 0, none⟩) (el + 1) c7) ∧ V.grownBy Y6 none ∧ w.grownBy Y6 none) := by
                  obtain ⟨h1, h2, -, h4, h5, h6⟩ := HE.out; have hg : w.grownBy Y6 none := grownBy_trans HV.out.2.2.2.2.2 G6; refine ⟨slg_put h1 h2 h4 h5 h6 hg (HV.out.2.2.2.2.1.grown G6 (by simp)) (by have := HPY.out.2.2.1; have := H1.out.2.2.2.2.2.2.2; omega) (rn := d.length - 8 * 2) (by simp) hw1.2 (by have := HP.out.2.2.2.2.2; omega) (rc := rc) (by rw [HP.out.2.2.2.1]; exact O6), G6, hg⟩
                have kb := SKV G6; have kzb := grown_blk G6 HV.out.2.1; have ka0 : Y6.cell? ⟨w.heap.size, 0, none⟩ = some (.int .i64 (p.base : Int)) := (cell_of_row _ _ _ _ _ _ kb.2.1).trans rfl; have ka1 : Y6.cell? ⟨w.heap.size, 1, none⟩ = some (.int .i64 (p.bt : Int)) := (cell_of_row _ _ _ _ _ _ kb.2.1).trans rfl; have ka2 : Y6.cell? ⟨w.heap.size, 2, none⟩ = some (.slice ea el ec) := (cell_of_row _ _ _ _ _ _ kb.2.1).trans rfl; have ka3 : Y6.cell? ⟨w.heap.size, 3, none⟩ = some (.bool (decide (lt ≤ n1))) := (cell_of_row _ _ _ _ _ _ kb.2.1).trans rfl
                have kaf2 : Y6.frozen? ⟨w.heap.size, 2, none⟩ = false := by simp [World.frozen?, kb.2.1]
                have kz0 : Y6.cell? ⟨w.heap.size + 1 + 1, 0, none⟩ = some (.int .i64 0) := (cell_of_row _ _ _ _ _ _ kzb).trans rfl
                have kzf0 : Y6.frozen? ⟨w.heap.size + 1 + 1, 0, none⟩ = false := by simp [World.frozen?, kzb]
                have kz1 : Y6.cell? ⟨w.heap.size + 1 + 1, 1, none⟩ = some (.int .i64 0) := (cell_of_row _ _ _ _ _ _ kzb).trans rfl
                have kzf1 : Y6.frozen? ⟨w.heap.size + 1 + 1, 1, none⟩ = false := by simp [World.frozen?, kzb]
                have kz2 : Y6.cell? ⟨w.heap.size + 1 + 1, 2, none⟩ = some (.slice none 0 0) := (cell_of_row _ _ _ _ _ _ kzb).trans rfl
                have kzf2 : Y6.frozen? ⟨w.heap.size + 1 + 1, 2, none⟩ = false := by simp [World.frozen?, kzb]
                have kz3 : Y6.cell? ⟨w.heap.size + 1 + 1, 3, none⟩ = some (.bool false) := (cell_of_row _ _ _ _ _ _ kzb).trans rfl
                have kzf3 : Y6.frozen? ⟨w.heap.size + 1 + 1, 3, none⟩ = false := by simp [World.frozen?, kzb]
                have HKB : Hid (Y6.heap[w.heap.size]? = some (.cells #[.int .i64 (p.base : Int), .int .i64 (p.bt : Int), .slice ea el ec, .bool (decide (lt ≤ n1))] 42 (0, 0)) ∧ Y6.heap[w.heap.size + 1 + 1]? = some (.cells #[.int .i64 0, .int .i64 0, .slice none 0 0, .bool false] 42 (0, 0))) := ⟨kb.2.1, kzb⟩; clear kb kzb O6; refine wpAnyZ_take' (i := 13) (v := ?vz107) rfl (by kernel_rfl) (by kernel_rfl) (by kernel_rfl) (fun _ _ _ h => h) (Or.inl ⟨by rfl, ?yz107⟩) ?rz107
                case yz107 => (intro w _; go_simp; first | done | with_reducible rfl)
                simp only [Act.put, List.setIfInBounds_toArray, List.set_cons_zero, List.set_cons_succ]; refine wpAnyZ_one' (i := 14) (by kernel_rfl) rfl (fun K hK => ?_); go_simp; refine hK.out _ _ (fun hc => (by cases hc)) ?_; clear hK K; (try simp only [Act.put]); refine wpAnyZ_done (by kernel_rfl) ?_ _; go_wp2; refine bodyPost_ret (results_log (g := w.heap.size + 1 + 1) rfl rfl (set_four (set_oth 2 _ (by omega) HKB.out.2)) rfl) rfl ?_; refine ⟨grown_four (grownBy_setNew HF6.out.2.2 (Nat.le_refl _)) (by omega), _, _, _, (decide (lt ≤ n1)), rfl, ⟨_, _, _, rfl⟩, ?_⟩; rw [HST.out, HNN.out.1, HNN.out.2.1]; obtain ⟨-, -, rfl⟩ := HNN.out
                by_cases hq : lt ≤ n1
                · exact .inl ⟨by simp [hq], { p with es := p.es ++ [(n1, d.drop (8 * 2))] }, by simp [wact, putStep, HLE.out.1, HLE.out.2, HQ.out, hq], rfl, rfl, slg_four (slg_one HF6.out.1 HKB.out.1) (set_oth 2 _ (by omega) HKB.out.2)⟩
                · refine .inr ⟨by simp [hq], ?_⟩
                  simp [wact, putStep, HLE.out.1, HLE.out.2, hq]
            · go_simp; refine hK.out _ _ (fun _ _ => SKV (grownBy_alloc G0 _)) ?_; clear hK K; (try simp only [Act.put, List.setIfInBounds_toArray, List.set_cons_zero, List.set_cons_succ]); have G1 : V.grownBy (Y0.alloc (.cells #[.int .i64 (n1 : Int), .slice (some ⟨gr, 0, none⟩) (d.length - 8 * 2) rc] 47)) none := grownBy_alloc G0 _; have hy1 := G0.size
              have hs1 : Y0.heap.size < (Y0.alloc (.cells #[.int .i64 (n1 : Int), .slice (some ⟨gr, 0, none⟩) (d.length - 8 * 2) rc] 47)).heap.size := by simp
              have R1 : (Y0.alloc (.cells #[.int .i64 (n1 : Int), .slice (some ⟨gr, 0, none⟩) (d.length - 8 * 2) rc] 47)).heap[Y0.heap.size]? = some (.cells #[.int .i64 (n1 : Int), .slice (some ⟨gr, 0, none⟩) (d.length - 8 * 2) rc] 47 (0, 0)) := heap_alloc_new Y0 _; generalize Y0.alloc (.cells #[.int .i64 (n1 : Int), .slice (some ⟨gr, 0, none⟩) (d.length - 8 * 2) rc] 47) = Y1 at G1 hs1 R1 ⊢; refine wpAnyZ_one' (i := 0) (by kernel_rfl) rfl (fun K hK => ?_); go_simp; refine hK.out _ _ (fun _ _ => SKV (grownBy_alloc G1 _)) ?_; clear hK K; (try simp only [Act.put, List.setIfInBounds_toArray, List.set_cons_zero, List.set_cons_succ]); have G2 : V.grownBy (Y1.alloc (.cells #[] 47)) none := grownBy_alloc G1 _; have hy2 := G1.size
              have hs2 : Y1.heap.size < (Y1.alloc (.cells #[] 47)).heap.size := by simp
              have O0 : (Y1.alloc (.cells #[] 47)).ownsRow V.heap.size 47 2 (.slice (some ⟨Y1.heap.size, 0, none⟩) 0 0) 0 [] := World.ownsRow_made Y1 #[] 0 G1.size (Nat.zero_le _) rfl; have R1 := grown_blk (World.grownBy_alloc Y1 (.cells #[] 47) none) R1; generalize Y1.alloc (.cells #[] 47) = Y2 at G2 hs2 O0 R1 ⊢; refine wpAnyZ_one' (i := 3) (by kernel_rfl) rfl (fun K hK => ?_); refine step_appE (by rfl) (.tmp 103) (.tmp 105) (by rfl) (by rfl) O0 (by rfl) (HEV.out.grown0 G2) HP.out.2.2.2.2.1 (by omega) G2.size ?_; intro v3 Y3 O3 g3; have G3 : V.grownBy Y3 none := grown_own G2 O0 g3; have R1 : Y3.heap[Y0.heap.size]? = some (.cells #[.int .i64 (n1 : Int), .slice (some ⟨gr, 0, none⟩) (d.length - 8 * 2) rc] 47 (0, 0)) := (g3.block _ (Array.getElem?_eq_some_iff.1 R1).1 (by simp [Value.ownBlock]; omega)).trans R1; refine hK.out _ _ (fun _ _ => SKV G3) ?_; clear hK K O0 g3; (try simp only [Act.put, List.setIfInBounds_toArray, List.set_cons_zero, List.set_cons_succ]); refine wpAnyZ_one' (i := 12) (by kernel_rfl) rfl (fun K hK => ?_)
              refine step_append2 (by rfl) (.tmp 106) (.tmp 114) 24 47 (by rfl) Tryz.underlying24 Tryz.infoEnt rfl (B := V.heap.size) (by rfl) O3 (ad := ⟨Y0.heap.size, 0, none⟩) (c := 1) (news := [.int .i64 (n1 : Int), .slice (some ⟨gr, 0, none⟩) (d.length - 8 * 2) rc]) (by rfl) rfl (fun j u hj => (by
                  match j, hj with
                  | 0, hj => simp at hj; subst hj; exact (cell_of_row _ _ _ _ _ _ R1).trans rfl
                  | 1, hj => simp at hj; subst hj; exact (cell_of_row _ _ _ _ _ _ R1).trans rfl)) (fun u hu => (by simp at hu; rcases hu with rfl | rfl <;> rfl)) (by decide) (by omega) G3.size ?_
              intro v6 Y6 O6 g6; have G6 : V.grownBy Y6 none := grown_own G3 O3 g6; obtain ⟨g7, c7, rfl⟩ := own1_succ O6; refine hK.out _ _ (fun _ _ => SKV G6) ?_; clear hK K O3 g6 R1; (try simp only [Act.put, List.setIfInBounds_toArray, List.set_cons_zero, List.set_cons_succ])
              have e01 : 0 + el + 1 = el + 1 := by omega
              rw [e01, List.nil_append] at O6; rw [e01]; clear e01
              have HF6 : Hid (SLg Y6 (p.es ++ [(n1, d.drop (8 * 2))]) (.slice (some ⟨g7, 0, none⟩) (el + 1) c7) ∧ V.grownBy Y6 none ∧ w.grownBy Y6 none) := by
                obtain ⟨h1, h2, -, h4, h5, h6⟩ := HE.out; have hg : w.grownBy Y6 none := grownBy_trans HV.out.2.2.2.2.2 G6; refine ⟨slg_put h1 h2 h4 h5 h6 hg (HV.out.2.2.2.2.1.grown G6 (by simp)) (by have := HPY.out.2.2.1; have := H1.out.2.2.2.2.2.2.2; omega) (rn := d.length - 8 * 2) (by simp) hw1.2 (by have := HP.out.2.2.2.2.2; omega) (rc := rc) (by rw [HP.out.2.2.2.1]; exact O6), G6, hg⟩
              have kb := SKV G6; have kzb := grown_blk G6 HV.out.2.1; have ka0 : Y6.cell? ⟨w.heap.size, 0, none⟩ = some (.int .i64 (p.base : Int)) := (cell_of_row _ _ _ _ _ _ kb.2.1).trans rfl; have ka1 : Y6.cell? ⟨w.heap.size, 1, none⟩ = some (.int .i64 (p.bt : Int)) := (cell_of_row _ _ _ _ _ _ kb.2.1).trans rfl; have ka2 : Y6.cell? ⟨w.heap.size, 2, none⟩ = some (.slice ea el ec) := (cell_of_row _ _ _ _ _ _ kb.2.1).trans rfl; have ka3 : Y6.cell? ⟨w.heap.size, 3, none⟩ = some (.bool (decide (lt ≤ n1))) := (cell_of_row _ _ _ _ _ _ kb.2.1).trans rfl
              have kaf2 : Y6.frozen? ⟨w.heap.size, 2, none⟩ = false := by simp [World.frozen?, kb.2.1]
              have kz0 : Y6.cell? ⟨w.heap.size + 1 + 1, 0, none⟩ = some (.int .i64 0) := (cell_of_row _ _ _ _ _ _ kzb).trans rfl
              have kzf0 : Y6.frozen? ⟨w.heap.size + 1 + 1, 0, none⟩ = false := by simp [World.frozen?, kzb]
              have kz1 : Y6.cell? ⟨w.heap.size + 1 + 1, 1, none⟩ = some (.int .i64 0) := (cell_of_row _ _ _ _ _ _ kzb).trans rfl
              have kzf1 : Y6.frozen? ⟨w.heap.size + 1 + 1, 1, none⟩ = false := by simp [World.frozen?, kzb]
              have kz2 : Y6.cell? ⟨w.heap.size + 1 + 1, 2, none⟩ = some (.slice none 0 0) := (cell_of_row _ _ _ _ _ _ kzb).trans rfl
              have kzf2 : Y6.frozen? ⟨w.heap.size + 1 + 1, 2, none⟩ = false := by simp [World.frozen?, kzb]
              have kz3 : Y6.cell? ⟨w.heap.size + 1 + 1, 3, none⟩ = some (.bool false) := (cell_of_row _ _ _ _ _ _ kzb).trans rfl
              have kzf3 : Y6.frozen? ⟨w.heap.size + 1 + 1, 3, none⟩ = false := by simp [World.frozen?, kzb]
              have HKB : Hid (Y6.heap[w.heap.size]? = some (.cells #[.int .i64 (p.base : Int), .int .i64 (p.bt : Int), .slice ea el ec, .bool (decide (lt ≤ n1))] 42 (0, 0)) ∧ Y6.heap[w.heap.size + 1 + 1]? = some (.cells #[.int .i64 0, .int .i64 0, .slice none 0 0, .bool false] 42 (0, 0))) := ⟨kb.2.1, kzb⟩; clear kb kzb O6; refine wpAnyZ_take' (i := 13) (v := ?vz108) rfl (by kernel_rfl) (by kernel_rfl) (by kernel_rfl) (fun _ _ _ h => h) (Or.inl ⟨by rfl, ?yz108⟩) ?rz108
              case yz108 => (intro w _; go_simp; first | done | with_reducible rfl)
              simp only [Act.put, List.setIfInBounds_toArray, List.set_cons_zero, List.set_cons_succ]; refine wpAnyZ_one' (i := 14) (by kernel_rfl) rfl (fun K hK => ?_); go_simp; refine hK.out _ _ (fun hc => (by cases hc)) ?_; clear hK K; (try simp only [Act.put]); refine wpAnyZ_done (by kernel_rfl) ?_ _; go_wp2; refine bodyPost_ret (results_log (g := w.heap.size + 1 + 1) rfl rfl (set_four (set_oth 2 _ (by omega) HKB.out.2)) rfl) rfl ?_; refine ⟨grown_four (grownBy_setNew HF6.out.2.2 (Nat.le_refl _)) (by omega), _, _, _, (decide (lt ≤ n1)), rfl, ⟨_, _, _, rfl⟩, ?_⟩; rw [HST.out, HNN.out.1, HNN.out.2.1]; obtain ⟨-, -, rfl⟩ := HNN.out
              by_cases hq : lt ≤ n1
              · exact .inl ⟨by simp [hq], { p with es := p.es ++ [(n1, d.drop (8 * 2))] }, by simp [wact, putStep, HLE.out.1, HLE.out.2, HQ.out, hq], rfl, rfl, slg_four (slg_one HF6.out.1 HKB.out.1) (set_oth 2 _ (by omega) HKB.out.2)⟩
              · refine .inr ⟨by simp [hq], ?_⟩
                simp [wact, putStep, HLE.out.1, HLE.out.2, hq]
          · have d0 : ((n0 : Int) == (la : Int) + 1) = false := by simp; omega
            have HQ : Hid (¬ n0 = la + 1) := k0; clear k0
            go_upto_region 12 with fail
            refine wp_region_Z (fun V => V.heap[X3]? = some (.cells #[.slice (some ⟨gn, 0, none⟩) 2 nc, .slice (some ⟨gr, 0, none⟩) (d.length - 8 * 2) rc] 81 (0, 0)) ∧ V.heap[w.heap.size]? = some (.cells #[.int .i64 (p.base : Int), .int .i64 (p.bt : Int), .slice ea el ec, .bool true] 42 (0, 0)) ∧ V.cell? ⟨gn, 0, none⟩ = some (.int .i64 (n0 : Int)) ∧ V.cell? ⟨gn, 1, none⟩ = some (.int .i64 (n1 : Int))) (fun j => j == 20) (by kernel_rfl) ?_; have hS : W2.drew.heap[X3]? = some (.cells #[.slice (some ⟨gn, 0, none⟩) 2 nc, .slice (some ⟨gr, 0, none⟩) (d.length - 8 * 2) rc] 81 (0, 0)) ∧ W2.drew.heap[w.heap.size]? = some (.cells #[.int .i64 (p.base : Int), .int .i64 (p.bt : Int), .slice ea el ec, .bool true] 42 (0, 0)) ∧ W2.drew.cell? ⟨gn, 0, none⟩ = some (.int .i64 (n0 : Int)) ∧ W2.drew.cell? ⟨gn, 1, none⟩ = some (.int .i64 (n1 : Int)) := ⟨H2.out.2.2.2.2.2.1, H2.out.1, q0, q1⟩; refine wpAnyZ_take' (i := 0) (v := ?vz109) rfl (by kernel_rfl) (by kernel_rfl) (by kernel_rfl) (fun _ _ _ h => h) (Or.inl ⟨by rfl, ?yz109⟩) ?rz109
            case yz109 => (intro w _; go_simp; first | done | with_reducible rfl)
            simp only [Act.put, List.setIfInBounds_toArray, List.set_cons_zero, List.set_cons_succ]; refine wpAnyZ_load' (i := 1) (y := 20) (v := ?vz110) rfl (by kernel_rfl) (by kernel_rfl) (by kernel_rfl) (fun _ _ _ h => h) (fun j hj => .inl (by obtain rfl : j = 20 := (by simpa using hj); kernel_rfl)) rfl (by kernel_rfl) (Or.inl ⟨by rfl, ?yz110⟩) hS ?rz110
            case yz110 => (intro W hW; have c0 : W.cell? ⟨X3, 0, none⟩ = some (.slice (some ⟨gn, 0, none⟩) 2 nc) := (cell_of_row W _ _ _ _ _ hW.1).trans rfl; go_simp; first | done | with_reducible rfl)
            simp only [Act.put, List.setIfInBounds_toArray, List.set_cons_zero, List.set_cons_succ]; refine wpAnyZ_take' (i := 2) (v := ?vz111) rfl (by kernel_rfl) (by kernel_rfl) (by kernel_rfl) (fun _ _ _ h => h) (Or.inl ⟨by rfl, ?yz111⟩) ?rz111
            case yz111 => (intro w _; go_simp; first | done | with_reducible rfl)
            simp only [Act.put, List.setIfInBounds_toArray, List.set_cons_zero, List.set_cons_succ]; refine wpAnyZ_load' (i := 3) (y := 20) (v := ?vz112) rfl (by kernel_rfl) (by kernel_rfl) (by kernel_rfl) (fun _ _ _ h => h) (fun j hj => .inl (by obtain rfl : j = 20 := (by simpa using hj); kernel_rfl)) rfl (by kernel_rfl) (Or.inl ⟨by rfl, ?yz112⟩) hS ?rz112
            case yz112 => (intro W hW; have c0 : W.cell? ⟨gn, 0, none⟩ = some (.int .i64 (n0 : Int)) := hW.2.2.1; go_simp; first | done | with_reducible rfl)
            simp only [Act.put, List.setIfInBounds_toArray, List.set_cons_zero, List.set_cons_succ]; refine wpAnyZ_load' (i := 4) (y := 20) (v := ?vz113) rfl (by kernel_rfl) (by kernel_rfl) (by kernel_rfl) (fun _ _ _ h => h) (fun j hj => .inl (by obtain rfl : j = 20 := (by simpa using hj); kernel_rfl)) rfl (by kernel_rfl) (Or.inl ⟨by rfl, ?yz113⟩) hS ?rz113
            case yz113 => (intro W hW; have c0 : W.cell? ⟨w.heap.size, 0, none⟩ = some (.int .i64 (p.base : Int)) := (cell_of_row W _ _ _ _ _ hW.2.1).trans rfl; have c1 : W.cell? ⟨w.heap.size, 1, none⟩ = some (.int .i64 (p.bt : Int)) := (cell_of_row W _ _ _ _ _ hW.2.1).trans rfl; have c2 : W.cell? ⟨w.heap.size, 2, none⟩ = some (.slice ea el ec) := (cell_of_row W _ _ _ _ _ hW.2.1).trans rfl; have c3 : W.cell? ⟨w.heap.size, 3, none⟩ = some (.bool true) := (cell_of_row W _ _ _ _ _ hW.2.1).trans rfl; go_simp; first | done | with_reducible rfl)
            simp only [Act.put, List.setIfInBounds_toArray, List.set_cons_zero, List.set_cons_succ]; refine wpAnyZ_one' (i := 5) (by kernel_rfl) rfl (fun K hK => ?_); go_simp; go_at_call 51; refine (HLA.out _ (grownBy_drew (grownBy_refl _ _))).mono ?_; rintro e w3 ⟨rfl, hgw3⟩; have HGw3 : Hid (W2.grownBy w3 none) := grownBy_trans (grownBy_drew (grownBy_refl _ _)) hgw3; refine hK.out _ _ (fun _ _ => SKX HGw3.out) ?_; clear hK K hgw3; (try simp only [Act.put, List.setIfInBounds_toArray, List.set_cons_zero, List.set_cons_succ]); refine wpAnyZ_take' (i := 6) (v := ?vz114) rfl (by kernel_rfl) (by kernel_rfl) (by kernel_rfl) (fun _ _ _ h => h) (Or.inl ⟨by rfl, ?yz114⟩) ?rz114
            case yz114 => (intro w _; go_simp; first | done | with_reducible rfl)
            simp only [Act.put, List.setIfInBounds_toArray, List.set_cons_zero, List.set_cons_succ]; refine wpAnyZ_take' (i := 7) (v := ?vz115) rfl (by kernel_rfl) (by kernel_rfl) (by kernel_rfl) (fun _ _ _ h => h) (Or.inl ⟨by rfl, ?yz115⟩) ?rz115
            case yz115 => (intro w _; go_simp; first | done | with_reducible rfl)
            simp only [Act.put, List.setIfInBounds_toArray, List.set_cons_zero, List.set_cons_succ]; refine wpAnyZ_take' (i := 8) (v := ?vz116) rfl (by kernel_rfl) (by kernel_rfl) (by kernel_rfl) (fun _ _ _ h => h) (Or.inl ⟨by rfl, ?yz116⟩) ?rz116
            case yz116 => (intro w _; go_simp; first | done | with_reducible rfl)
            simp only [Act.put, List.setIfInBounds_toArray, List.set_cons_zero, List.set_cons_succ]; refine wpAnyZ_take' (i := 9) (v := undef) rfl (by kernel_rfl) (by kernel_rfl) (by kernel_rfl) (fun _ _ _ h => h) (Or.inr ⟨by rfl, rfl⟩) ?_; simp only [Act.put, List.setIfInBounds_toArray, List.set_cons_zero, List.set_cons_succ]; refine wpAnyZ_take' (i := 10) (v := undef) rfl (by kernel_rfl) (by kernel_rfl) (by kernel_rfl) (fun _ _ _ h => h) (Or.inr ⟨by rfl, rfl⟩) ?_; simp only [Act.put, List.setIfInBounds_toArray, List.set_cons_zero, List.set_cons_succ]; refine wpAnyZ_take' (i := 11) (v := undef) rfl (by kernel_rfl) (by kernel_rfl) (by kernel_rfl) (fun _ _ _ h => h) (Or.inr ⟨by rfl, rfl⟩) ?_; simp only [Act.put, List.setIfInBounds_toArray, List.set_cons_zero, List.set_cons_succ]; refine wpAnyZ_take' (i := 12) (v := undef) rfl (by kernel_rfl) (by kernel_rfl) (by kernel_rfl) (fun _ _ _ h => h) (Or.inr ⟨by rfl, rfl⟩) ?_; simp only [Act.put, List.setIfInBounds_toArray, List.set_cons_zero, List.set_cons_succ]; refine wpAnyZ_take' (i := 13) (v := undef) rfl (by kernel_rfl) (by kernel_rfl) (by kernel_rfl) (fun _ _ _ h => h) (Or.inr ⟨by rfl, rfl⟩) ?_; simp only [Act.put, List.setIfInBounds_toArray, List.set_cons_zero, List.set_cons_succ]; refine wpAnyZ_take' (i := 14) (v := undef) rfl (by kernel_rfl) (by kernel_rfl) (by kernel_rfl) (fun _ _ _ h => h) (Or.inr ⟨by rfl, rfl⟩) ?_; simp only [Act.put, List.setIfInBounds_toArray, List.set_cons_zero, List.set_cons_succ]; refine wpAnyZ_take' (i := 15) (v := undef) rfl (by kernel_rfl) (by kernel_rfl) (by kernel_rfl) (fun _ _ _ h => h) (Or.inr ⟨by rfl, rfl⟩) ?_; simp only [Act.put, List.setIfInBounds_toArray, List.set_cons_zero, List.set_cons_succ]; refine wpAnyZ_take' (i := 16) (v := undef) rfl (by kernel_rfl) (by kernel_rfl) (by kernel_rfl) (fun _ _ _ h => h) (Or.inr ⟨by rfl, rfl⟩) ?_; simp only [Act.put, List.setIfInBounds_toArray, List.set_cons_zero, List.set_cons_succ]; refine wpAnyZ_take' (i := 17) (v := undef) rfl (by kernel_rfl) (by kernel_rfl) (by kernel_rfl) (fun _ _ _ h => h) (Or.inr ⟨by rfl, rfl⟩) ?_; simp only [Act.put, List.setIfInBounds_toArray, List.set_cons_zero, List.set_cons_succ]; refine wpAnyZ_take' (i := 18) (v := ?vz117) rfl (by kernel_rfl) (by kernel_rfl) (by kernel_rfl) (fun _ _ _ h => h) (Or.inl ⟨by rfl, ?yz117⟩) ?rz117
            case yz117 => (intro w _; go_simp; first | done | with_reducible rfl)
            simp only [Act.put, List.setIfInBounds_toArray, List.set_cons_zero, List.set_cons_succ]; refine wpAnyZ_take' (i := 19) (v := ?vz118) rfl (by kernel_rfl) (by kernel_rfl) (by kernel_rfl) (fun _ _ _ h => h) (Or.inl ⟨by rfl, ?yz118⟩) ?rz118
            case yz118 => (intro w _; go_simp; first | done | with_reducible rfl)
            simp only [Act.put, List.setIfInBounds_toArray, List.set_cons_zero, List.set_cons_succ]; have hLw3 := grown_blk HGw3.out H2.out.1; have hZw3 := grown_blk HGw3.out H2.out.2.2.1; have ka0 : w3.cell? ⟨w.heap.size, 0, none⟩ = some (.int .i64 (p.base : Int)) := (cell_of_row _ _ _ _ _ _ hLw3).trans rfl; have ka1 : w3.cell? ⟨w.heap.size, 1, none⟩ = some (.int .i64 (p.bt : Int)) := (cell_of_row _ _ _ _ _ _ hLw3).trans rfl; have ka2 : w3.cell? ⟨w.heap.size, 2, none⟩ = some (.slice ea el ec) := (cell_of_row _ _ _ _ _ _ hLw3).trans rfl; have ka3 : w3.cell? ⟨w.heap.size, 3, none⟩ = some (.bool true) := (cell_of_row _ _ _ _ _ _ hLw3).trans rfl
            have kaf : w3.frozen? ⟨w.heap.size, 3, none⟩ = false := by simp [World.frozen?, hLw3]
            have kaf2 : w3.frozen? ⟨w.heap.size, 2, none⟩ = false := by simp [World.frozen?, hLw3]
            have kz0 : w3.cell? ⟨w.heap.size + 1 + 1, 0, none⟩ = some (.int .i64 0) := (cell_of_row _ _ _ _ _ _ hZw3).trans rfl
            have kzf0 : w3.frozen? ⟨w.heap.size + 1 + 1, 0, none⟩ = false := by simp [World.frozen?, hZw3]
            have kz1 : w3.cell? ⟨w.heap.size + 1 + 1, 1, none⟩ = some (.int .i64 0) := (cell_of_row _ _ _ _ _ _ hZw3).trans rfl
            have kzf1 : w3.frozen? ⟨w.heap.size + 1 + 1, 1, none⟩ = false := by simp [World.frozen?, hZw3]
            have kz2 : w3.cell? ⟨w.heap.size + 1 + 1, 2, none⟩ = some (.slice none 0 0) := (cell_of_row _ _ _ _ _ _ hZw3).trans rfl
            have kzf2 : w3.frozen? ⟨w.heap.size + 1 + 1, 2, none⟩ = false := by simp [World.frozen?, hZw3]
            have kz3 : w3.cell? ⟨w.heap.size + 1 + 1, 3, none⟩ = some (.bool false) := (cell_of_row _ _ _ _ _ _ hZw3).trans rfl
            have kzf3 : w3.frozen? ⟨w.heap.size + 1 + 1, 3, none⟩ = false := by simp [World.frozen?, hZw3]
            have HKw3 : Hid (w.grownBy w3 none ∧ SLg w3 p.es (.slice ea el ec) ∧ w3.heap[w.heap.size]? = some (.cells #[.int .i64 (p.base : Int), .int .i64 (p.bt : Int), .slice ea el ec, .bool true] 42 (0, 0)) ∧ w3.heap[w.heap.size + 1 + 1]? = some (.cells #[.int .i64 0, .int .i64 0, .slice none 0 0, .bool false] 42 (0, 0))) := ⟨grownBy_trans H2.out.2.2.2.1 HGw3.out, H2.out.2.2.2.2.1.grown0 HGw3.out, hLw3, hZw3⟩; clear hLw3 hZw3 a0 a1 a2 a3 af3 z0 z1 z2 z3 zf0 zf1 zf2 zf3 HBAD HBB; have hPw3 := grown_blk HGw3.out H2.out.2.2.2.2.2.1; refine wpAnyZ_one' (i := 20) (by kernel_rfl) rfl (fun K hK => ?_); go_simp; refine hK.out _ _ (fun hc => (by cases hc)) ?_; clear hK K; (try simp only [Act.put]); refine wpAnyZ_done (by kernel_rfl) ?_ _
            have HV : Hid ((w3.setCell ⟨w.heap.size, 3, none⟩ (.bool false)).heap[w.heap.size]? = some (.cells #[.int .i64 (p.base : Int), .int .i64 (p.bt : Int), .slice ea el ec, .bool false] 42 (0, 0)) ∧ (w3.setCell ⟨w.heap.size, 3, none⟩ (.bool false)).heap[w.heap.size + 1 + 1]? = some (.cells #[.int .i64 0, .int .i64 0, .slice none 0 0, .bool false] 42 (0, 0)) ∧ (w3.setCell ⟨w.heap.size, 3, none⟩ (.bool false)).heap[X3]? = some (.cells #[.slice (some ⟨gn, 0, none⟩) 2 nc, .slice (some ⟨gr, 0, none⟩) (d.length - 8 * 2) rc] 81 (0, 0)) ∧ (w3.setCell ⟨w.heap.size, 3, none⟩ (.bool false)).cell? ⟨gn, 1, none⟩ = some (.int .i64 (n1 : Int)) ∧ Own (w3.setCell ⟨w.heap.size, 3, none⟩ (.bool false)) 5 gr (d.drop (8 * 2)) ∧ w.grownBy (w3.setCell ⟨w.heap.size, 3, none⟩ (.bool false)) none) := by
              have hgr0 := HPY.out.2.2.1; have hw09 := H1.out.2.2.2.2.2.2.2
              have hgn9 : gn ≠ w.heap.size := by
                intro hc; have h9 := HGN.out
                omega
              refine ⟨set_blkL (L := [.int .i64 (p.base : Int), .int .i64 (p.bt : Int), .slice ea el ec, .bool true]) 3 _ HKw3.out.2.2.1, set_oth 3 _ (by omega) HKw3.out.2.2.2, set_oth 3 _ (by omega) hPw3, ?_, ?_, grownBy_setNew HKw3.out.1 (Nat.le_refl _)⟩
              · exact (World.cell?_of_block (heap_setCell_other w3 ⟨w.heap.size, 3, none⟩ gn _ hgn9)).trans (((bcell HGw3.out).1 _ _ (cell_block_lt q1)).trans q1)
              · exact (HPY.out.2.1.grown HGw3.out (by simp)).of_block (heap_setCell_other w3 ⟨w.heap.size, 3, none⟩ gr _ (by show gr ≠ w.heap.size; omega))
            generalize w3.setCell ⟨w.heap.size, 3, none⟩ (.bool false) = V at HV ⊢; clear hPw3 ka0 ka1 ka2 ka3 kaf kaf2 kz0 kz1 kz2 kz3 kzf0 kzf1 kzf2 kzf3
            have SKV : ∀ {Y : World}, V.grownBy Y none → (Y.heap[X3]? = some (.cells #[.slice (some ⟨gn, 0, none⟩) 2 nc, .slice (some ⟨gr, 0, none⟩) (d.length - 8 * 2) rc] 81 (0, 0)) ∧ Y.heap[w.heap.size]? = some (.cells #[.int .i64 (p.base : Int), .int .i64 (p.bt : Int), .slice ea el ec, .bool false] 42 (0, 0)) ∧ Y.cell? ⟨gn, 1, none⟩ = some (.int .i64 (n1 : Int))) := fun {Y} hv => ⟨grown_blk hv HV.out.2.2.1, grown_blk hv HV.out.1, ((bcell hv).1 _ _ (cell_block_lt HV.out.2.2.2.1)).trans HV.out.2.2.2.1⟩
            go_upto_region 13 with fail
            refine wp_region_Z (fun Y => Y.heap[X3]? = some (.cells #[.slice (some ⟨gn, 0, none⟩) 2 nc, .slice (some ⟨gr, 0, none⟩) (d.length - 8 * 2) rc] 81 (0, 0)) ∧ Y.heap[w.heap.size]? = some (.cells #[.int .i64 (p.base : Int), .int .i64 (p.bt : Int), .slice ea el ec, .bool false] 42 (0, 0)) ∧ Y.cell? ⟨gn, 1, none⟩ = some (.int .i64 (n1 : Int))) (fun j => j == 14) (by kernel_rfl) ?_; have G0 : V.grownBy V.drew none := grownBy_drew (grownBy_refl _ _); generalize V.drew = Y0 at G0 ⊢; have hS : Y0.heap[X3]? = some (.cells #[.slice (some ⟨gn, 0, none⟩) 2 nc, .slice (some ⟨gr, 0, none⟩) (d.length - 8 * 2) rc] 81 (0, 0)) ∧ Y0.heap[w.heap.size]? = some (.cells #[.int .i64 (p.base : Int), .int .i64 (p.bt : Int), .slice ea el ec, .bool false] 42 (0, 0)) ∧ Y0.cell? ⟨gn, 1, none⟩ = some (.int .i64 (n1 : Int)) := SKV G0; refine wpAnyZ_take' (i := 1) (v := ?vz119) rfl (by kernel_rfl) (by kernel_rfl) (by kernel_rfl) (fun _ _ _ h => h) (Or.inl ⟨by rfl, ?yz119⟩) ?rz119
            case yz119 => (intro w _; go_simp; first | done | with_reducible rfl)
            simp only [Act.put, List.setIfInBounds_toArray, List.set_cons_zero, List.set_cons_succ]; refine wpAnyZ_load' (i := 2) (y := 14) (v := ?vz120) rfl (by kernel_rfl) (by kernel_rfl) (by kernel_rfl) (fun _ _ _ h => h) (fun j hj => .inl (by obtain rfl : j = 14 := (by simpa using hj); kernel_rfl)) rfl (by kernel_rfl) (Or.inl ⟨by rfl, ?yz120⟩) hS ?rz120
            case yz120 => (intro W hW; have c0 : W.cell? ⟨w.heap.size, 2, none⟩ = some (.slice ea el ec) := (cell_of_row W _ _ _ _ _ hW.2.1).trans rfl; go_simp; first | done | with_reducible rfl)
            simp only [Act.put, List.setIfInBounds_toArray, List.set_cons_zero, List.set_cons_succ]; refine wpAnyZ_take' (i := 4) (v := ?vz121) rfl (by kernel_rfl) (by kernel_rfl) (by kernel_rfl) (fun _ _ _ h => h) (Or.inl ⟨by rfl, ?yz121⟩) ?rz121
            case yz121 => (intro w _; go_simp; first | done | with_reducible rfl)
            simp only [Act.put, List.setIfInBounds_toArray, List.set_cons_zero, List.set_cons_succ]; refine wpAnyZ_load' (i := 5) (y := 14) (v := ?vz122) rfl (by kernel_rfl) (by kernel_rfl) (by kernel_rfl) (fun _ _ _ h => h) (fun j hj => .inl (by obtain rfl : j = 14 := (by simpa using hj); kernel_rfl)) rfl (by kernel_rfl) (Or.inl ⟨by rfl, ?yz122⟩) hS ?rz122
            case yz122 => (intro W hW; have c0 : W.cell? ⟨X3, 0, none⟩ = some (.slice (some ⟨gn, 0, none⟩) 2 nc) := (cell_of_row W _ _ _ _ _ hW.1).trans rfl; go_simp; first | done | with_reducible rfl)
            simp only [Act.put, List.setIfInBounds_toArray, List.set_cons_zero, List.set_cons_succ]; refine wpAnyZ_take' (i := 6) (v := ?vz123) rfl (by kernel_rfl) (by kernel_rfl) (by kernel_rfl) (fun _ _ _ h => h) (Or.inl ⟨by rfl, ?yz123⟩) ?rz123
            case yz123 => (intro w _; go_simp; first | done | with_reducible rfl)
            simp only [Act.put, List.setIfInBounds_toArray, List.set_cons_zero, List.set_cons_succ]; refine wpAnyZ_load' (i := 7) (y := 14) (v := ?vz124) rfl (by kernel_rfl) (by kernel_rfl) (by kernel_rfl) (fun _ _ _ h => h) (fun j hj => .inl (by obtain rfl : j = 14 := (by simpa using hj); kernel_rfl)) rfl (by kernel_rfl) (Or.inl ⟨by rfl, ?yz124⟩) hS ?rz124
            case yz124 => (intro W hW; have c0 : W.cell? ⟨gn, 1, none⟩ = some (.int .i64 (n1 : Int)) := hW.2.2; go_simp; first | done | with_reducible rfl)
            simp only [Act.put, List.setIfInBounds_toArray, List.set_cons_zero, List.set_cons_succ]; refine wpAnyZ_take' (i := 8) (v := ?vz125) rfl (by kernel_rfl) (by kernel_rfl) (by kernel_rfl) (fun _ _ _ h => h) (Or.inl ⟨by rfl, ?yz125⟩) ?rz125
            case yz125 => (intro w _; go_simp; first | done | with_reducible rfl)
            simp only [Act.put, List.setIfInBounds_toArray, List.set_cons_zero, List.set_cons_succ]; refine wpAnyZ_load' (i := 9) (y := 14) (v := ?vz126) rfl (by kernel_rfl) (by kernel_rfl) (by kernel_rfl) (fun _ _ _ h => h) (fun j hj => .inl (by obtain rfl : j = 14 := (by simpa using hj); kernel_rfl)) rfl (by kernel_rfl) (Or.inl ⟨by rfl, ?yz126⟩) hS ?rz126
            case yz126 => (intro W hW; have c0 : W.cell? ⟨X3, 1, none⟩ = some (.slice (some ⟨gr, 0, none⟩) (d.length - 8 * 2) rc) := (cell_of_row W _ _ _ _ _ hW.1).trans rfl; go_simp; first | done | with_reducible rfl)
            simp only [Act.put, List.setIfInBounds_toArray, List.set_cons_zero, List.set_cons_succ]; refine wpAnyZ_take' (i := 10) (v := ?vz127) rfl (by kernel_rfl) (by kernel_rfl) (by kernel_rfl) (fun _ _ _ h => h) (Or.inl ⟨by rfl, ?yz127⟩) ?rz127
            case yz127 => (intro w _; go_simp; first | done | with_reducible rfl)
            simp only [Act.put, List.setIfInBounds_toArray, List.set_cons_zero, List.set_cons_succ]; clear hS; obtain ⟨E, hE1, hE2, hE3, hE4, hE5, hE6⟩ := HP.out.2.1.parts; have HE : Hid (E.length = p.es.length ∧ E.map En.tell = p.es ∧ EnS w ea p.es.length E ∧ (∀ e ∈ E, Own w 5 e.g e.D ∧ e.off + e.n ≤ e.D.length) ∧ (E.map En.g).Nodup ∧ (∀ e ∈ E, e.t ≤ 1000000000 ∧ e.n ≤ 8192)) := ⟨hE1, hE2, hE3, hE4, hE5, hE6⟩; have hEV := hE3.grown0 HV.out.2.2.2.2.2; rw [HP.out.2.2.2.1] at hEV; have HEV : Hid (EnS V ea el E) := hEV; clear hE1 hE2 hE3 hE4 hE5 hE6 hEV; refine wpAnyZ_two' (i := 0) (k := 11) (by kernel_rfl) rfl rfl (fun K hK => ?_) (fun K hK => ?_)
            · go_simp; refine hK.out _ _ (fun _ _ => SKV (grownBy_alloc G0 _)) ?_; clear hK K; (try simp only [Act.put, List.setIfInBounds_toArray, List.set_cons_zero, List.set_cons_succ]); have G1 : V.grownBy (Y0.alloc (.cells #[] 47)) none := grownBy_alloc G0 _; have hy1 := G0.size
              have hs1 : Y0.heap.size < (Y0.alloc (.cells #[] 47)).heap.size := by simp
              have O0 : (Y0.alloc (.cells #[] 47)).ownsRow V.heap.size 47 2 (.slice (some ⟨Y0.heap.size, 0, none⟩) 0 0) 0 [] := World.ownsRow_made Y0 #[] 0 G0.size (Nat.zero_le _) rfl; generalize Y0.alloc (.cells #[] 47) = Y1 at G1 hs1 O0 ⊢; refine wpAnyZ_two' (i := 3) (k := 11) (by kernel_rfl) rfl rfl (fun K hK => ?_) (fun K hK => ?_)
              · refine step_appE (by rfl) (.tmp 103) (.tmp 105) (by rfl) (by rfl) O0 (by rfl) (HEV.out.grown0 G1) HP.out.2.2.2.2.1 (by omega) G1.size ?_; intro v3 Y2 O3 g3; have G2 : V.grownBy Y2 none := grown_own G1 O0 g3; refine hK.out _ _ (fun _ _ => SKV G2) ?_; clear hK K O0 g3; (try simp only [Act.put, List.setIfInBounds_toArray, List.set_cons_zero, List.set_cons_succ]); refine wpAnyZ_one' (i := 11) (by kernel_rfl) rfl (fun K hK => ?_); go_simp; refine hK.out _ _ (fun _ _ => SKV (grownBy_alloc G2 _)) ?_; clear hK K; (try simp only [Act.put, List.setIfInBounds_toArray, List.set_cons_zero, List.set_cons_succ]); have G3 : V.grownBy (Y2.alloc (.cells #[.int .i64 (n1 : Int), .slice (some ⟨gr, 0, none⟩) (d.length - 8 * 2) rc] 47)) none := grownBy_alloc G2 _; have hy3 := G2.size
                have hs3 : Y2.heap.size < (Y2.alloc (.cells #[.int .i64 (n1 : Int), .slice (some ⟨gr, 0, none⟩) (d.length - 8 * 2) rc] 47)).heap.size := by simp
                have R1 : (Y2.alloc (.cells #[.int .i64 (n1 : Int), .slice (some ⟨gr, 0, none⟩) (d.length - 8 * 2) rc] 47)).heap[Y2.heap.size]? = some (.cells #[.int .i64 (n1 : Int), .slice (some ⟨gr, 0, none⟩) (d.length - 8 * 2) rc] 47 (0, 0)) := heap_alloc_new Y2 _; have O3 := own1_grown O3 (World.grownBy_alloc Y2 (.cells #[.int .i64 (n1 : Int), .slice (some ⟨gr, 0, none⟩) (d.length - 8 * 2) rc] 47) none); generalize Y2.alloc (.cells #[.int .i64 (n1 : Int), .slice (some ⟨gr, 0, none⟩) (d.length - 8 * 2) rc] 47) = Y3 at G3 hs3 R1 O3 ⊢; refine wpAnyZ_one' (i := 12) (by kernel_rfl) rfl (fun K hK => ?_)
                refine step_append2 (by rfl) (.tmp 106) (.tmp 114) 24 47 (by rfl) Tryz.underlying24 Tryz.infoEnt rfl (B := V.heap.size) (by rfl) O3 (ad := ⟨Y2.heap.size, 0, none⟩) (c := 1) (news := [.int .i64 (n1 : Int), .slice (some ⟨gr, 0, none⟩) (d.length - 8 * 2) rc]) (by rfl) rfl (fun j u hj => (by
                    match j, hj with
                    | 0, hj => simp at hj; subst hj; exact (cell_of_row _ _ _ _ _ _ R1).trans rfl
                    | 1, hj => simp at hj; subst hj; exact (cell_of_row _ _ _ _ _ _ R1).trans rfl)) (fun u hu => (by simp at hu; rcases hu with rfl | rfl <;> rfl)) (by decide) (by omega) G3.size ?_
                intro v6 Y6 O6 g6; have G6 : V.grownBy Y6 none := grown_own G3 O3 g6; obtain ⟨g7, c7, rfl⟩ := own1_succ O6; refine hK.out _ _ (fun _ _ => SKV G6) ?_; clear hK K O3 g6 R1; (try simp only [Act.put, List.setIfInBounds_toArray, List.set_cons_zero, List.set_cons_succ])
                have e01 : 0 + el + 1 = el + 1 := by omega
                rw [e01, List.nil_append] at O6; rw [e01]; clear e01
                have HF6 : Hid (SLg Y6 (p.es ++ [(n1, d.drop (8 * 2))]) (.slice (some ⟨g7, 0, none⟩) (el + 1) c7) ∧ V.grownBy Y6 none ∧ w.grownBy Y6 none) := by
                  obtain ⟨h1, h2, -, h4, h5, h6⟩ := HE.out; have hg : w.grownBy Y6 none := grownBy_trans HV.out.2.2.2.2.2 G6; refine ⟨slg_put h1 h2 h4 h5 h6 hg (HV.out.2.2.2.2.1.grown G6 (by simp)) (by have := HPY.out.2.2.1; have := H1.out.2.2.2.2.2.2.2; omega) (rn := d.length - 8 * 2) (by simp) hw1.2 (by have := HP.out.2.2.2.2.2; omega) (rc := rc) (by rw [HP.out.2.2.2.1]; exact O6), G6, hg⟩
                have kb := SKV G6; have kzb := grown_blk G6 HV.out.2.1; have ka0 : Y6.cell? ⟨w.heap.size, 0, none⟩ = some (.int .i64 (p.base : Int)) := (cell_of_row _ _ _ _ _ _ kb.2.1).trans rfl; have ka1 : Y6.cell? ⟨w.heap.size, 1, none⟩ = some (.int .i64 (p.bt : Int)) := (cell_of_row _ _ _ _ _ _ kb.2.1).trans rfl; have ka2 : Y6.cell? ⟨w.heap.size, 2, none⟩ = some (.slice ea el ec) := (cell_of_row _ _ _ _ _ _ kb.2.1).trans rfl; have ka3 : Y6.cell? ⟨w.heap.size, 3, none⟩ = some (.bool false) := (cell_of_row _ _ _ _ _ _ kb.2.1).trans rfl
                have kaf2 : Y6.frozen? ⟨w.heap.size, 2, none⟩ = false := by simp [World.frozen?, kb.2.1]
                have kz0 : Y6.cell? ⟨w.heap.size + 1 + 1, 0, none⟩ = some (.int .i64 0) := (cell_of_row _ _ _ _ _ _ kzb).trans rfl
                have kzf0 : Y6.frozen? ⟨w.heap.size + 1 + 1, 0, none⟩ = false := by simp [World.frozen?, kzb]
                have kz1 : Y6.cell? ⟨w.heap.size + 1 + 1, 1, none⟩ = some (.int .i64 0) := (cell_of_row _ _ _ _ _ _ kzb).trans rfl
                have kzf1 : Y6.frozen? ⟨w.heap.size + 1 + 1, 1, none⟩ = false := by simp [World.frozen?, kzb]
                have kz2 : Y6.cell? ⟨w.heap.size + 1 + 1, 2, none⟩ = some (.slice none 0 0) := (cell_of_row _ _ _ _ _ _ kzb).trans rfl
                have kzf2 : Y6.frozen? ⟨w.heap.size + 1 + 1, 2, none⟩ = false := by simp [World.frozen?, kzb]
                have kz3 : Y6.cell? ⟨w.heap.size + 1 + 1, 3, none⟩ = some (.bool false) := (cell_of_row _ _ _ _ _ _ kzb).trans rfl
                have kzf3 : Y6.frozen? ⟨w.heap.size + 1 + 1, 3, none⟩ = false := by simp [World.frozen?, kzb]
                have HKB : Hid (Y6.heap[w.heap.size]? = some (.cells #[.int .i64 (p.base : Int), .int .i64 (p.bt : Int), .slice ea el ec, .bool false] 42 (0, 0)) ∧ Y6.heap[w.heap.size + 1 + 1]? = some (.cells #[.int .i64 0, .int .i64 0, .slice none 0 0, .bool false] 42 (0, 0))) := ⟨kb.2.1, kzb⟩; clear kb kzb O6; refine wpAnyZ_take' (i := 13) (v := ?vz128) rfl (by kernel_rfl) (by kernel_rfl) (by kernel_rfl) (fun _ _ _ h => h) (Or.inl ⟨by rfl, ?yz128⟩) ?rz128
                case yz128 => (intro w _; go_simp; first | done | with_reducible rfl)
                simp only [Act.put, List.setIfInBounds_toArray, List.set_cons_zero, List.set_cons_succ]; refine wpAnyZ_one' (i := 14) (by kernel_rfl) rfl (fun K hK => ?_); go_simp; refine hK.out _ _ (fun hc => (by cases hc)) ?_; clear hK K; (try simp only [Act.put]); refine wpAnyZ_done (by kernel_rfl) ?_ _; go_wp2; refine bodyPost_ret (results_log (g := w.heap.size + 1 + 1) rfl rfl (set_four (set_oth 2 _ (by omega) HKB.out.2)) rfl) rfl ?_; refine ⟨grown_four (grownBy_setNew HF6.out.2.2 (Nat.le_refl _)) (by omega), _, _, _, false, rfl, ⟨_, _, _, rfl⟩, ?_⟩; refine .inr ⟨rfl, ?_⟩; rw [HST.out, HNN.out.1, HNN.out.2.1]; obtain ⟨-, -, rfl⟩ := HNN.out
                simp [wact, putStep, HLE.out.1, HQ.out]
              · go_simp; refine hK.out _ _ (fun _ _ => SKV (grownBy_alloc G1 _)) ?_; clear hK K; (try simp only [Act.put, List.setIfInBounds_toArray, List.set_cons_zero, List.set_cons_succ]); have G2 : V.grownBy (Y1.alloc (.cells #[.int .i64 (n1 : Int), .slice (some ⟨gr, 0, none⟩) (d.length - 8 * 2) rc] 47)) none := grownBy_alloc G1 _; have hy2 := G1.size
                have hs2 : Y1.heap.size < (Y1.alloc (.cells #[.int .i64 (n1 : Int), .slice (some ⟨gr, 0, none⟩) (d.length - 8 * 2) rc] 47)).heap.size := by simp
                have R1 : (Y1.alloc (.cells #[.int .i64 (n1 : Int), .slice (some ⟨gr, 0, none⟩) (d.length - 8 * 2) rc] 47)).heap[Y1.heap.size]? = some (.cells #[.int .i64 (n1 : Int), .slice (some ⟨gr, 0, none⟩) (d.length - 8 * 2) rc] 47 (0, 0)) := heap_alloc_new Y1 _; have O0 := own1_grown O0 (World.grownBy_alloc Y1 (.cells #[.int .i64 (n1 : Int), .slice (some ⟨gr, 0, none⟩) (d.length - 8 * 2) rc] 47) none); generalize Y1.alloc (.cells #[.int .i64 (n1 : Int), .slice (some ⟨gr, 0, none⟩) (d.length - 8 * 2) rc] 47) = Y2 at G2 hs2 R1 O0 ⊢; refine wpAnyZ_one' (i := 3) (by kernel_rfl) rfl (fun K hK => ?_); refine step_appE (by rfl) (.tmp 103) (.tmp 105) (by rfl) (by rfl) O0 (by rfl) (HEV.out.grown0 G2) HP.out.2.2.2.2.1 (by omega) G2.size ?_; intro v3 Y3 O3 g3; have G3 : V.grownBy Y3 none := grown_own G2 O0 g3; have R1 : Y3.heap[Y1.heap.size]? = some (.cells #[.int .i64 (n1 : Int), .slice (some ⟨gr, 0, none⟩) (d.length - 8 * 2) rc] 47 (0, 0)) := (g3.block _ (Array.getElem?_eq_some_iff.1 R1).1 (by simp [Value.ownBlock]; omega)).trans R1; refine hK.out _ _ (fun _ _ => SKV G3) ?_; clear hK K O0 g3; (try simp only [Act.put, List.setIfInBounds_toArray, List.set_cons_zero, List.set_cons_succ]); refine wpAnyZ_one' (i := 12) (by kernel_rfl) rfl (fun K hK => ?_)
                refine step_append2 (by rfl) (.tmp 106) (.tmp 114) 24 47 (by rfl) Tryz.underlying24 Tryz.infoEnt rfl (B := V.heap.size) (by rfl) O3 (ad := ⟨Y1.heap.size, 0, none⟩) (c := 1) (news := [.int .i64 (n1 : Int), .slice (some ⟨gr, 0, none⟩) (d.length - 8 * 2) rc]) (by rfl) rfl (fun j u hj => (by
                    match j, hj with
                    | 0, hj => simp at hj; subst hj; exact (cell_of_row _ _ _ _ _ _ R1).trans rfl
                    | 1, hj => simp at hj; subst hj; exact (cell_of_row _ _ _ _ _ _ R1).trans rfl)) (fun u hu => (by simp at hu; rcases hu with rfl | rfl <;> rfl)) (by decide) (by omega) G3.size ?_
                intro v6 Y6 O6 g6; have G6 : V.grownBy Y6 none := grown_own G3 O3 g6; obtain ⟨g7, c7, rfl⟩ := own1_succ O6; refine hK.out _ _ (fun _ _ => SKV G6) ?_; clear hK K O3 g6 R1; (try simp only [Act.put, List.setIfInBounds_toArray, List.set_cons_zero, List.set_cons_succ])
                have e01 : 0 + el + 1 = el + 1 := by omega
                rw [e01, List.nil_append] at O6; rw [e01]; clear e01
                have HF6 : Hid (SLg Y6 (p.es ++ [(n1, d.drop (8 * 2))]) (.slice (some ⟨g7, 0, none⟩) (el + 1) c7) ∧ V.grownBy Y6 none ∧ w.grownBy Y6 none) := by
                  obtain ⟨h1, h2, -, h4, h5, h6⟩ := HE.out; have hg : w.grownBy Y6 none := grownBy_trans HV.out.2.2.2.2.2 G6; refine ⟨slg_put h1 h2 h4 h5 h6 hg (HV.out.2.2.2.2.1.grown G6 (by simp)) (by have := HPY.out.2.2.1; have := H1.out.2.2.2.2.2.2.2; omega) (rn := d.length - 8 * 2) (by simp) hw1.2 (by have := HP.out.2.2.2.2.2; omega) (rc := rc) (by rw [HP.out.2.2.2.1]; exact O6), G6, hg⟩
                have kb := SKV G6; have kzb := grown_blk G6 HV.out.2.1; have ka0 : Y6.cell? ⟨w.heap.size, 0, none⟩ = some (.int .i64 (p.base : Int)) := (cell_of_row _ _ _ _ _ _ kb.2.1).trans rfl; have ka1 : Y6.cell? ⟨w.heap.size, 1, none⟩ = some (.int .i64 (p.bt : Int)) := (cell_of_row _ _ _ _ _ _ kb.2.1).trans rfl; have ka2 : Y6.cell? ⟨w.heap.size, 2, none⟩ = some (.slice ea el ec) := (cell_of_row _ _ _ _ _ _ kb.2.1).trans rfl; have ka3 : Y6.cell? ⟨w.heap.size, 3, none⟩ = some (.bool false) := (cell_of_row _ _ _ _ _ _ kb.2.1).trans rfl
                have kaf2 : Y6.frozen? ⟨w.heap.size, 2, none⟩ = false := by simp [World.frozen?, kb.2.1]
                have kz0 : Y6.cell? ⟨w.heap.size + 1 + 1, 0, none⟩ = some (.int .i64 0) := (cell_of_row _ _ _ _ _ _ kzb).trans rfl
                have kzf0 : Y6.frozen? ⟨w.heap.size + 1 + 1, 0, none⟩ = false := by simp [World.frozen?, kzb]
                have kz1 : Y6.cell? ⟨w.heap.size + 1 + 1, 1, none⟩ = some (.int .i64 0) := (cell_of_row _ _ _ _ _ _ kzb).trans rfl
                have kzf1 : Y6.frozen? ⟨w.heap.size + 1 + 1, 1, none⟩ = false := by simp [World.frozen?, kzb]
                have kz2 : Y6.cell? ⟨w.heap.size + 1 + 1, 2, none⟩ = some (.slice none 0 0) := (cell_of_row _ _ _ _ _ _ kzb).trans rfl
                have kzf2 : Y6.frozen? ⟨w.heap.size + 1 + 1, 2, none⟩ = false := by simp [World.frozen?, kzb]
                have kz3 : Y6.cell? ⟨w.heap.size + 1 + 1, 3, none⟩ = some (.bool false) := (cell_of_row _ _ _ _ _ _ kzb).trans rfl
                have kzf3 : Y6.frozen? ⟨w.heap.size + 1 + 1, 3, none⟩ = false := by simp [World.frozen?, kzb]
                have HKB : Hid (Y6.heap[w.heap.size]? = some (.cells #[.int .i64 (p.base : Int), .int .i64 (p.bt : Int), .slice ea el ec, .bool false] 42 (0, 0)) ∧ Y6.heap[w.heap.size + 1 + 1]? = some (.cells #[.int .i64 0, .int .i64 0, .slice none 0 0, .bool false] 42 (0, 0))) := ⟨kb.2.1, kzb⟩; clear kb kzb O6; refine wpAnyZ_take' (i := 13) (v := ?vz129) rfl (by kernel_rfl) (by kernel_rfl) (by kernel_rfl) (fun _ _ _ h => h) (Or.inl ⟨by rfl, ?yz129⟩) ?rz129
                case yz129 => (intro w _; go_simp; first | done | with_reducible rfl)
                simp only [Act.put, List.setIfInBounds_toArray, List.set_cons_zero, List.set_cons_succ]; refine wpAnyZ_one' (i := 14) (by kernel_rfl) rfl (fun K hK => ?_); go_simp; refine hK.out _ _ (fun hc => (by cases hc)) ?_; clear hK K; (try simp only [Act.put]); refine wpAnyZ_done (by kernel_rfl) ?_ _; go_wp2; refine bodyPost_ret (results_log (g := w.heap.size + 1 + 1) rfl rfl (set_four (set_oth 2 _ (by omega) HKB.out.2)) rfl) rfl ?_; refine ⟨grown_four (grownBy_setNew HF6.out.2.2 (Nat.le_refl _)) (by omega), _, _, _, false, rfl, ⟨_, _, _, rfl⟩, ?_⟩; refine .inr ⟨rfl, ?_⟩; rw [HST.out, HNN.out.1, HNN.out.2.1]; obtain ⟨-, -, rfl⟩ := HNN.out
                simp [wact, putStep, HLE.out.1, HQ.out]
            · go_simp; refine hK.out _ _ (fun _ _ => SKV (grownBy_alloc G0 _)) ?_; clear hK K; (try simp only [Act.put, List.setIfInBounds_toArray, List.set_cons_zero, List.set_cons_succ]); have G1 : V.grownBy (Y0.alloc (.cells #[.int .i64 (n1 : Int), .slice (some ⟨gr, 0, none⟩) (d.length - 8 * 2) rc] 47)) none := grownBy_alloc G0 _; have hy1 := G0.size
              have hs1 : Y0.heap.size < (Y0.alloc (.cells #[.int .i64 (n1 : Int), .slice (some ⟨gr, 0, none⟩) (d.length - 8 * 2) rc] 47)).heap.size := by simp
              have R1 : (Y0.alloc (.cells #[.int .i64 (n1 : Int), .slice (some ⟨gr, 0, none⟩) (d.length - 8 * 2) rc] 47)).heap[Y0.heap.size]? = some (.cells #[.int .i64 (n1 : Int), .slice (some ⟨gr, 0, none⟩) (d.length - 8 * 2) rc] 47 (0, 0)) := heap_alloc_new Y0 _; generalize Y0.alloc (.cells #[.int .i64 (n1 : Int), .slice (some ⟨gr, 0, none⟩) (d.length - 8 * 2) rc] 47) = Y1 at G1 hs1 R1 ⊢; refine wpAnyZ_one' (i := 0) (by kernel_rfl) rfl (fun K hK => ?_); go_simp; refine hK.out _ _ (fun _ _ => SKV (grownBy_alloc G1 _)) ?_; clear hK K; (try simp only [Act.put, List.setIfInBounds_toArray, List.set_cons_zero, List.set_cons_succ]); have G2 : V.grownBy (Y1.alloc (.cells #[] 47)) none := grownBy_alloc G1 _; have hy2 := G1.size
              have hs2 : Y1.heap.size < (Y1.alloc (.cells #[] 47)).heap.size := by simp
              have O0 : (Y1.alloc (.cells #[] 47)).ownsRow V.heap.size 47 2 (.slice (some ⟨Y1.heap.size, 0, none⟩) 0 0) 0 [] := World.ownsRow_made Y1 #[] 0 G1.size (Nat.zero_le _) rfl; have R1 := grown_blk (World.grownBy_alloc Y1 (.cells #[] 47) none) R1; generalize Y1.alloc (.cells #[] 47) = Y2 at G2 hs2 O0 R1 ⊢; refine wpAnyZ_one' (i := 3) (by kernel_rfl) rfl (fun K hK => ?_); refine step_appE (by rfl) (.tmp 103) (.tmp 105) (by rfl) (by rfl) O0 (by rfl) (HEV.out.grown0 G2) HP.out.2.2.2.2.1 (by omega) G2.size ?_; intro v3 Y3 O3 g3; have G3 : V.grownBy Y3 none := grown_own G2 O0 g3; have R1 : Y3.heap[Y0.heap.size]? = some (.cells #[.int .i64 (n1 : Int), .slice (some ⟨gr, 0, none⟩) (d.length - 8 * 2) rc] 47 (0, 0)) := (g3.block _ (Array.getElem?_eq_some_iff.1 R1).1 (by simp [Value.ownBlock]; omega)).trans R1; refine hK.out _ _ (fun _ _ => SKV G3) ?_; clear hK K O0 g3; (try simp only [Act.put, List.setIfInBounds_toArray, List.set_cons_zero, List.set_cons_succ]); refine wpAnyZ_one' (i := 12) (by kernel_rfl) rfl (fun K hK => ?_)
              refine step_append2 (by rfl) (.tmp 106) (.tmp 114) 24 47 (by rfl) Tryz.underlying24 Tryz.infoEnt rfl (B := V.heap.size) (by rfl) O3 (ad := ⟨Y0.heap.size, 0, none⟩) (c := 1) (news := [.int .i64 (n1 : Int), .slice (some ⟨gr, 0, none⟩) (d.length - 8 * 2) rc]) (by rfl) rfl (fun j u hj => (by
                  match j, hj with
                  | 0, hj => simp at hj; subst hj; exact (cell_of_row _ _ _ _ _ _ R1).trans rfl
                  | 1, hj => simp at hj; subst hj; exact (cell_of_row _ _ _ _ _ _ R1).trans rfl)) (fun u hu => (by simp at hu; rcases hu with rfl | rfl <;> rfl)) (by decide) (by omega) G3.size ?_
              intro v6 Y6 O6 g6; have G6 : V.grownBy Y6 none := grown_own G3 O3 g6; obtain ⟨g7, c7, rfl⟩ := own1_succ O6; refine hK.out _ _ (fun _ _ => SKV G6) ?_; clear hK K O3 g6 R1; (try simp only [Act.put, List.setIfInBounds_toArray, List.set_cons_zero, List.set_cons_succ])
              have e01 : 0 + el + 1 = el + 1 := by omega
              rw [e01, List.nil_append] at O6; rw [e01]; clear e01
              have HF6 : Hid (SLg Y6 (p.es ++ [(n1, d.drop (8 * 2))]) (.slice (some ⟨g7, 0, none⟩) (el + 1) c7) ∧ V.grownBy Y6 none ∧ w.grownBy Y6 none) := by
                obtain ⟨h1, h2, -, h4, h5, h6⟩ := HE.out; have hg : w.grownBy Y6 none := grownBy_trans HV.out.2.2.2.2.2 G6; refine ⟨slg_put h1 h2 h4 h5 h6 hg (HV.out.2.2.2.2.1.grown G6 (by simp)) (by have := HPY.out.2.2.1; have := H1.out.2.2.2.2.2.2.2; omega) (rn := d.length - 8 * 2) (by simp) hw1.2 (by have := HP.out.2.2.2.2.2; omega) (rc := rc) (by rw [HP.out.2.2.2.1]; exact O6), G6, hg⟩
              have kb := SKV G6; have kzb := grown_blk G6 HV.out.2.1; have ka0 : Y6.cell? ⟨w.heap.size, 0, none⟩ = some (.int .i64 (p.base : Int)) := (cell_of_row _ _ _ _ _ _ kb.2.1).trans rfl; have ka1 : Y6.cell? ⟨w.heap.size, 1, none⟩ = some (.int .i64 (p.bt : Int)) := (cell_of_row _ _ _ _ _ _ kb.2.1).trans rfl; have ka2 : Y6.cell? ⟨w.heap.size, 2, none⟩ = some (.slice ea el ec) := (cell_of_row _ _ _ _ _ _ kb.2.1).trans rfl; have ka3 : Y6.cell? ⟨w.heap.size, 3, none⟩ = some (.bool false) := (cell_of_row _ _ _ _ _ _ kb.2.1).trans rfl
              have kaf2 : Y6.frozen? ⟨w.heap.size, 2, none⟩ = false := by simp [World.frozen?, kb.2.1]
              have kz0 : Y6.cell? ⟨w.heap.size + 1 + 1, 0, none⟩ = some (.int .i64 0) := (cell_of_row _ _ _ _ _ _ kzb).trans rfl
              have kzf0 : Y6.frozen? ⟨w.heap.size + 1 + 1, 0, none⟩ = false := by simp [World.frozen?, kzb]
              have kz1 : Y6.cell? ⟨w.heap.size + 1 + 1, 1, none⟩ = some (.int .i64 0) := (cell_of_row _ _ _ _ _ _ kzb).trans rfl
              have kzf1 : Y6.frozen? ⟨w.heap.size + 1 + 1, 1, none⟩ = false := by simp [World.frozen?, kzb]
              have kz2 : Y6.cell? ⟨w.heap.size + 1 + 1, 2, none⟩ = some (.slice none 0 0) := (cell_of_row _ _ _ _ _ _ kzb).trans rfl
              have kzf2 : Y6.frozen? ⟨w.heap.size + 1 + 1, 2, none⟩ = false := by simp [World.frozen?, kzb]
              have kz3 : Y6.cell? ⟨w.heap.size + 1 + 1, 3, none⟩ = some (.bool false) := (cell_of_row _ _ _ _ _ _ kzb).trans rfl
              have kzf3 : Y6.frozen? ⟨w.heap.size + 1 + 1, 3, none⟩ = false := by simp [World.frozen?, kzb]
              have HKB : Hid (Y6.heap[w.heap.size]? = some (.cells #[.int .i64 (p.base : Int), .int .i64 (p.bt : Int), .slice ea el ec, .bool false] 42 (0, 0)) ∧ Y6.heap[w.heap.size + 1 + 1]? = some (.cells #[.int .i64 0, .int .i64 0, .slice none 0 0, .bool false] 42 (0, 0))) := ⟨kb.2.1, kzb⟩; clear kb kzb O6; refine wpAnyZ_take' (i := 13) (v := ?vz130) rfl (by kernel_rfl) (by kernel_rfl) (by kernel_rfl) (fun _ _ _ h => h) (Or.inl ⟨by rfl, ?yz130⟩) ?rz130
              case yz130 => (intro w _; go_simp; first | done | with_reducible rfl)
              simp only [Act.put, List.setIfInBounds_toArray, List.set_cons_zero, List.set_cons_succ]; refine wpAnyZ_one' (i := 14) (by kernel_rfl) rfl (fun K hK => ?_); go_simp; refine hK.out _ _ (fun hc => (by cases hc)) ?_; clear hK K; (try simp only [Act.put]); refine wpAnyZ_done (by kernel_rfl) ?_ _; go_wp2; refine bodyPost_ret (results_log (g := w.heap.size + 1 + 1) rfl rfl (set_four (set_oth 2 _ (by omega) HKB.out.2)) rfl) rfl ?_; refine ⟨grown_four (grownBy_setNew HF6.out.2.2 (Nat.le_refl _)) (by omega), _, _, _, false, rfl, ⟨_, _, _, rfl⟩, ?_⟩; refine .inr ⟨rfl, ?_⟩; rw [HST.out, HNN.out.1, HNN.out.2.1]; obtain ⟨-, -, rfl⟩ := HNN.out
              simp [wact, putStep, HLE.out.1, HQ.out]
        · have t3 : ((ty : Int) == 2) = false := by simp; omega
          rcases Classical.em (ty = 3) with h4 | h4
          · have t4 : ((ty : Int) == 3) = true := by simp; omega
            have hwl : (wb ty).length = 2 := by rw [h4]; rfl
            rw [hwl] at H2 HPY HST ⊢; obtain ⟨n0, hn0⟩ : ∃ x, wn ty d 0 = x := ⟨_, rfl⟩
            have q0 : W2.cell? ⟨gn, 0, none⟩ = some (.int .i64 (n0 : Int)) := by rw [← hn0]; exact HPY.out.1 0 (by omega)
            obtain ⟨n1, hn1⟩ : ∃ x, wn ty d 1 = x := ⟨_, rfl⟩
            have q1 : W2.cell? ⟨gn, 1, none⟩ = some (.int .i64 (n1 : Int)) := by rw [← hn1]; exact HPY.out.1 1 (by omega)
            have hw0 : 1 ≤ n0 ∧ n0 ≤ 1000000 := by
              rw [← hn0]; exact wn_in HOK.out (i := 0) (by rw [h4]; rfl)
            have hw1 : 0 ≤ n1 ∧ n1 ≤ 1000000000 := by
              rw [← hn1]; exact wn_in HOK.out (i := 1) (by rw [h4]; rfl)
            have HNN : Hid (wn ty d 0 = n0 ∧ wn ty d 1 = n1 ∧ ty = 3) := ⟨hn0, hn1, h4⟩; clear h1 h3 h4 hn0 hn1; obtain ⟨bf, hbf⟩ : ∃ bf, n0 = bf + 1 := ⟨n0 - 1, by omega⟩
            have v1 : IntKind.i64.wrap ((n0 : Int) - 1) = (bf : Int) := by rw [IntWalk.i64_in _ (by omega)]; omega
            have HBF : Hid (n0 = bf + 1) := hbf
            have hbfb : bf ≤ 1000000 := by omega
            clear hbf; have p0 : W2.cell? ⟨X3, 0, none⟩ = some (.slice (some ⟨gn, 0, none⟩) 2 nc) := (cell_of_row _ _ _ _ _ _ H2.out.2.2.2.2.2.1).trans rfl; obtain ⟨la, hla⟩ : ∃ x, p.last = x := ⟨_, rfl⟩; obtain ⟨lt, hlt'⟩ : ∃ x, p.term p.last = x := ⟨_, rfl⟩
            have hlab : la ≤ 1000000 := by rw [← hla]; unfold Pl.last; rw [HP.out.2.2.2.1]; omega
            have HLE : Hid (p.last = la ∧ p.term la = lt) := ⟨hla, by rw [← hla]; exact hlt'⟩; clear hlt'
            rcases Classical.em (bf < p.base) with kb | kb
            · have d0 : (bf : Int) < (p.base : Int) := by omega
              have HQ : Hid (bf < p.base) := kb; clear kb hla; go_wp2; refine bodyPost_ret (results_log (g := w.heap.size + 1 + 1) rfl rfl (set_four H2.out.2.2.1) rfl) rfl ?_; refine ⟨grown_four H2.out.2.2.2.1 (by omega), _, _, _, true, rfl, ⟨_, _, _, rfl⟩, .inl ⟨rfl, ⟨bf, n1, []⟩, ?_, rfl, rfl, SLg.nil _⟩⟩; rw [HST.out, HNN.out.1, HNN.out.2.1]; obtain ⟨-, -, rfl⟩ := HNN.out; rw [HBF.out]
              simp [wact, cutStep, HQ.out]
            · have d0 : ¬ (bf : Int) < (p.base : Int) := by omega
              obtain ⟨k, hk⟩ : ∃ k, bf = p.base + k := ⟨bf - p.base, by omega⟩
              have HLA : Hid (∀ w' : World, W2.grownBy w' none → Calls Tryz.prog 51 #[.agg #[.int .i64 (p.base : Int), .int .i64 (p.bt : Int), .slice ea el ec, .bool true]] w' fun e w'' => e = .returned (.int .i64 (la : Int)) ∧ w'.grownBy w'' none) := fun w' hg => by rw [← hla]; exact slast_any p _ true w' (H2.out.2.2.2.2.1.grown0 hg) HP.out.1
              have SKX : ∀ {V : World}, W2.grownBy V none → (V.heap[X3]? = some (.cells #[.slice (some ⟨gn, 0, none⟩) 2 nc, .slice (some ⟨gr, 0, none⟩) (d.length - 8 * 2) rc] 81 (0, 0)) ∧ V.heap[w.heap.size]? = some (.cells #[.int .i64 (p.base : Int), .int .i64 (p.bt : Int), .slice ea el ec, .bool true] 42 (0, 0)) ∧ V.cell? ⟨gn, 0, none⟩ = some (.int .i64 (n0 : Int)) ∧ V.cell? ⟨gn, 1, none⟩ = some (.int .i64 (n1 : Int))) := fun {V} hv => ⟨grown_blk hv H2.out.2.2.2.2.2.1, grown_blk hv H2.out.1, ((bcell hv).1 _ _ (cell_block_lt q0)).trans q0, ((bcell hv).1 _ _ (cell_block_lt q1)).trans q1⟩
              rcases Classical.em (la < bf) with kl | kl
              · have d1 : (la : Int) < (bf : Int) := by omega
                have HQ : Hid (¬ bf < p.base ∧ ¬ bf ≤ la) := ⟨kb, by omega⟩; clear kb kl hk hla
                go_upto_region 18 with fail
                refine wp_region_Z (fun V => V.heap[X3]? = some (.cells #[.slice (some ⟨gn, 0, none⟩) 2 nc, .slice (some ⟨gr, 0, none⟩) (d.length - 8 * 2) rc] 81 (0, 0)) ∧ V.heap[w.heap.size]? = some (.cells #[.int .i64 (p.base : Int), .int .i64 (p.bt : Int), .slice ea el ec, .bool true] 42 (0, 0)) ∧ V.cell? ⟨gn, 0, none⟩ = some (.int .i64 (n0 : Int)) ∧ V.cell? ⟨gn, 1, none⟩ = some (.int .i64 (n1 : Int))) (fun _ => false) (by kernel_rfl) ?_; have hS : W2.drew.heap[X3]? = some (.cells #[.slice (some ⟨gn, 0, none⟩) 2 nc, .slice (some ⟨gr, 0, none⟩) (d.length - 8 * 2) rc] 81 (0, 0)) ∧ W2.drew.heap[w.heap.size]? = some (.cells #[.int .i64 (p.base : Int), .int .i64 (p.bt : Int), .slice ea el ec, .bool true] 42 (0, 0)) ∧ W2.drew.cell? ⟨gn, 0, none⟩ = some (.int .i64 (n0 : Int)) ∧ W2.drew.cell? ⟨gn, 1, none⟩ = some (.int .i64 (n1 : Int)) := ⟨H2.out.2.2.2.2.2.1, H2.out.1, q0, q1⟩; refine wpAnyZ_take' (i := 0) (v := ?vz131) rfl (by kernel_rfl) (by kernel_rfl) (by kernel_rfl) (fun _ _ _ h => h) (Or.inl ⟨by rfl, ?yz131⟩) ?rz131
                case yz131 => (intro w _; go_simp; first | done | with_reducible rfl)
                simp only [Act.put, List.setIfInBounds_toArray, List.set_cons_zero, List.set_cons_succ]; refine wpAnyZ_loadS (i := 1) (v := ?vz132) rfl (by kernel_rfl) (by kernel_rfl) (by kernel_rfl) (fun _ _ _ h => h) (fun _ => rfl) (Or.inl ⟨by rfl, ?yz132⟩) hS ?rz132
                case yz132 => (intro W hW; have c0 : W.cell? ⟨w.heap.size, 0, none⟩ = some (.int .i64 (p.base : Int)) := (cell_of_row W _ _ _ _ _ hW.2.1).trans rfl; have c1 : W.cell? ⟨w.heap.size, 1, none⟩ = some (.int .i64 (p.bt : Int)) := (cell_of_row W _ _ _ _ _ hW.2.1).trans rfl; have c2 : W.cell? ⟨w.heap.size, 2, none⟩ = some (.slice ea el ec) := (cell_of_row W _ _ _ _ _ hW.2.1).trans rfl; have c3 : W.cell? ⟨w.heap.size, 3, none⟩ = some (.bool true) := (cell_of_row W _ _ _ _ _ hW.2.1).trans rfl; go_simp; first | done | with_reducible rfl)
                simp only [Act.put, List.setIfInBounds_toArray, List.set_cons_zero, List.set_cons_succ]; refine wpAnyZ_one' (i := 2) (by kernel_rfl) rfl (fun K hK => ?_); go_simp; go_at_call 51; refine (HLA.out _ (grownBy_drew (grownBy_refl _ _))).mono ?_; rintro e w3 ⟨rfl, hgw3⟩; have HGw3 : Hid (W2.grownBy w3 none) := grownBy_trans (grownBy_drew (grownBy_refl _ _)) hgw3; refine hK.out _ _ (fun _ _ => SKX HGw3.out) ?_; clear hK K hgw3; (try simp only [Act.put, List.setIfInBounds_toArray, List.set_cons_zero, List.set_cons_succ]); refine wpAnyZ_take' (i := 3) (v := ?vz133) rfl (by kernel_rfl) (by kernel_rfl) (by kernel_rfl) (fun _ _ _ h => h) (Or.inl ⟨by rfl, ?yz133⟩) ?rz133
                case yz133 => (intro w _; go_simp; first | done | with_reducible rfl)
                simp only [Act.put, List.setIfInBounds_toArray, List.set_cons_zero, List.set_cons_succ]; refine wpAnyZ_take' (i := 4) (v := ?vz134) rfl (by kernel_rfl) (by kernel_rfl) (by kernel_rfl) (fun _ _ _ h => h) (Or.inl ⟨by rfl, ?yz134⟩) ?rz134
                case yz134 => (intro w _; go_simp; first | done | with_reducible rfl)
                simp only [Act.put, List.setIfInBounds_toArray, List.set_cons_zero, List.set_cons_succ]; refine wpAnyZ_take' (i := 5) (v := undef) rfl (by kernel_rfl) (by kernel_rfl) (by kernel_rfl) (fun _ _ _ h => h) (Or.inr ⟨by rfl, rfl⟩) ?_; simp only [Act.put, List.setIfInBounds_toArray, List.set_cons_zero, List.set_cons_succ]; refine wpAnyZ_take' (i := 6) (v := undef) rfl (by kernel_rfl) (by kernel_rfl) (by kernel_rfl) (fun _ _ _ h => h) (Or.inr ⟨by rfl, rfl⟩) ?_; simp only [Act.put, List.setIfInBounds_toArray, List.set_cons_zero, List.set_cons_succ]; refine wpAnyZ_take' (i := 7) (v := undef) rfl (by kernel_rfl) (by kernel_rfl) (by kernel_rfl) (fun _ _ _ h => h) (Or.inr ⟨by rfl, rfl⟩) ?_; simp only [Act.put, List.setIfInBounds_toArray, List.set_cons_zero, List.set_cons_succ]; refine wpAnyZ_take' (i := 8) (v := undef) rfl (by kernel_rfl) (by kernel_rfl) (by kernel_rfl) (fun _ _ _ h => h) (Or.inr ⟨by rfl, rfl⟩) ?_; simp only [Act.put, List.setIfInBounds_toArray, List.set_cons_zero, List.set_cons_succ]; refine wpAnyZ_take' (i := 9) (v := undef) rfl (by kernel_rfl) (by kernel_rfl) (by kernel_rfl) (fun _ _ _ h => h) (Or.inr ⟨by rfl, rfl⟩) ?_; simp only [Act.put, List.setIfInBounds_toArray, List.set_cons_zero, List.set_cons_succ]; refine wpAnyZ_take' (i := 10) (v := undef) rfl (by kernel_rfl) (by kernel_rfl) (by kernel_rfl) (fun _ _ _ h => h) (Or.inr ⟨by rfl, rfl⟩) ?_; simp only [Act.put, List.setIfInBounds_toArray, List.set_cons_zero, List.set_cons_succ]; refine wpAnyZ_take' (i := 11) (v := undef) rfl (by kernel_rfl) (by kernel_rfl) (by kernel_rfl) (fun _ _ _ h => h) (Or.inr ⟨by rfl, rfl⟩) ?_; simp only [Act.put, List.setIfInBounds_toArray, List.set_cons_zero, List.set_cons_succ]; refine wpAnyZ_take' (i := 12) (v := undef) rfl (by kernel_rfl) (by kernel_rfl) (by kernel_rfl) (fun _ _ _ h => h) (Or.inr ⟨by rfl, rfl⟩) ?_; simp only [Act.put, List.setIfInBounds_toArray, List.set_cons_zero, List.set_cons_succ]; refine wpAnyZ_take' (i := 13) (v := ?vz135) rfl (by kernel_rfl) (by kernel_rfl) (by kernel_rfl) (fun _ _ _ h => h) (Or.inl ⟨by rfl, ?yz135⟩) ?rz135
                case yz135 => (intro w _; go_simp; first | done | with_reducible rfl)
                simp only [Act.put, List.setIfInBounds_toArray, List.set_cons_zero, List.set_cons_succ]; refine wpAnyZ_done (by kernel_rfl) ?_ _; have hLw3 := grown_blk HGw3.out H2.out.1; have hZw3 := grown_blk HGw3.out H2.out.2.2.1; have ka0 : w3.cell? ⟨w.heap.size, 0, none⟩ = some (.int .i64 (p.base : Int)) := (cell_of_row _ _ _ _ _ _ hLw3).trans rfl; have ka1 : w3.cell? ⟨w.heap.size, 1, none⟩ = some (.int .i64 (p.bt : Int)) := (cell_of_row _ _ _ _ _ _ hLw3).trans rfl; have ka2 : w3.cell? ⟨w.heap.size, 2, none⟩ = some (.slice ea el ec) := (cell_of_row _ _ _ _ _ _ hLw3).trans rfl; have ka3 : w3.cell? ⟨w.heap.size, 3, none⟩ = some (.bool true) := (cell_of_row _ _ _ _ _ _ hLw3).trans rfl
                have kaf : w3.frozen? ⟨w.heap.size, 3, none⟩ = false := by simp [World.frozen?, hLw3]
                have kaf2 : w3.frozen? ⟨w.heap.size, 2, none⟩ = false := by simp [World.frozen?, hLw3]
                have kz0 : w3.cell? ⟨w.heap.size + 1 + 1, 0, none⟩ = some (.int .i64 0) := (cell_of_row _ _ _ _ _ _ hZw3).trans rfl
                have kzf0 : w3.frozen? ⟨w.heap.size + 1 + 1, 0, none⟩ = false := by simp [World.frozen?, hZw3]
                have kz1 : w3.cell? ⟨w.heap.size + 1 + 1, 1, none⟩ = some (.int .i64 0) := (cell_of_row _ _ _ _ _ _ hZw3).trans rfl
                have kzf1 : w3.frozen? ⟨w.heap.size + 1 + 1, 1, none⟩ = false := by simp [World.frozen?, hZw3]
                have kz2 : w3.cell? ⟨w.heap.size + 1 + 1, 2, none⟩ = some (.slice none 0 0) := (cell_of_row _ _ _ _ _ _ hZw3).trans rfl
                have kzf2 : w3.frozen? ⟨w.heap.size + 1 + 1, 2, none⟩ = false := by simp [World.frozen?, hZw3]
                have kz3 : w3.cell? ⟨w.heap.size + 1 + 1, 3, none⟩ = some (.bool false) := (cell_of_row _ _ _ _ _ _ hZw3).trans rfl
                have kzf3 : w3.frozen? ⟨w.heap.size + 1 + 1, 3, none⟩ = false := by simp [World.frozen?, hZw3]
                have HKw3 : Hid (w.grownBy w3 none ∧ SLg w3 p.es (.slice ea el ec) ∧ w3.heap[w.heap.size]? = some (.cells #[.int .i64 (p.base : Int), .int .i64 (p.bt : Int), .slice ea el ec, .bool true] 42 (0, 0)) ∧ w3.heap[w.heap.size + 1 + 1]? = some (.cells #[.int .i64 0, .int .i64 0, .slice none 0 0, .bool false] 42 (0, 0))) := ⟨grownBy_trans H2.out.2.2.2.1 HGw3.out, H2.out.2.2.2.2.1.grown0 HGw3.out, hLw3, hZw3⟩; clear hLw3 hZw3 a0 a1 a2 a3 af3 z0 z1 z2 z3 zf0 zf1 zf2 zf3 HBAD HBB; go_wp2; refine bodyPost_ret (results_log (g := w.heap.size + 1 + 1) rfl rfl (set_four (set_oth 3 _ (by omega) HKw3.out.2.2.2)) rfl) rfl ?_; refine ⟨grown_four (grownBy_setNew HKw3.out.1 (Nat.le_refl _)) (by omega), _, _, _, false, rfl, ⟨_, _, _, rfl⟩, ?_⟩; refine .inr ⟨rfl, ?_⟩; rw [HST.out, HNN.out.1, HNN.out.2.1]; obtain ⟨-, -, rfl⟩ := HNN.out; rw [HBF.out]
                simp [wact, cutStep, HLE.out.1, HQ.out.1, HQ.out.2]
              · have d1 : ¬ (la : Int) < (bf : Int) := by omega
                obtain ⟨tb, htb⟩ : ∃ x, p.term bf = x := ⟨_, rfl⟩
                have HTE : Hid (∀ w' : World, W2.grownBy w' none → Calls Tryz.prog 52 #[.agg #[.int .i64 (p.base : Int), .int .i64 (p.bt : Int), .slice ea el ec, .bool true], .int .i64 (bf : Int)] w' fun e w'' => e = .returned (.int .i64 (tb : Int)) ∧ w'.grownBy w'' none) := fun w' hg => by rw [← htb]; exact sterm_any p _ true bf w' (H2.out.2.2.2.2.1.grown0 hg) HP.out.1 (by omega) (by omega)
                have hkel : k ≤ el := by have h9 := hla; unfold Pl.last at h9; rw [HP.out.2.2.2.1] at h9; omega
                have v3 : IntKind.i64.wrap ((bf : Int) - (p.base : Int)) = (k : Int) := by rw [IntWalk.i64_in _ (by omega)]; omega
                have HTB : Hid (p.term bf = tb ∧ bf = p.base + k) := ⟨htb, hk⟩
                rcases Classical.em (tb = n1) with kt | kt
                · have d2 : ((tb : Int) != (n1 : Int)) = false := by simp; omega
                  have HQ : Hid (¬ bf < p.base ∧ bf ≤ la ∧ tb = n1) := ⟨kb, by omega, kt⟩; clear kb kl hk hla kt htb
                  go_upto_region 18 with fail
                  refine wp_region_Z (fun V => V.heap[X3]? = some (.cells #[.slice (some ⟨gn, 0, none⟩) 2 nc, .slice (some ⟨gr, 0, none⟩) (d.length - 8 * 2) rc] 81 (0, 0)) ∧ V.heap[w.heap.size]? = some (.cells #[.int .i64 (p.base : Int), .int .i64 (p.bt : Int), .slice ea el ec, .bool true] 42 (0, 0)) ∧ V.cell? ⟨gn, 0, none⟩ = some (.int .i64 (n0 : Int)) ∧ V.cell? ⟨gn, 1, none⟩ = some (.int .i64 (n1 : Int))) (fun _ => false) (by kernel_rfl) ?_; have hS : W2.drew.heap[X3]? = some (.cells #[.slice (some ⟨gn, 0, none⟩) 2 nc, .slice (some ⟨gr, 0, none⟩) (d.length - 8 * 2) rc] 81 (0, 0)) ∧ W2.drew.heap[w.heap.size]? = some (.cells #[.int .i64 (p.base : Int), .int .i64 (p.bt : Int), .slice ea el ec, .bool true] 42 (0, 0)) ∧ W2.drew.cell? ⟨gn, 0, none⟩ = some (.int .i64 (n0 : Int)) ∧ W2.drew.cell? ⟨gn, 1, none⟩ = some (.int .i64 (n1 : Int)) := ⟨H2.out.2.2.2.2.2.1, H2.out.1, q0, q1⟩; refine wpAnyZ_take' (i := 0) (v := ?vz136) rfl (by kernel_rfl) (by kernel_rfl) (by kernel_rfl) (fun _ _ _ h => h) (Or.inl ⟨by rfl, ?yz136⟩) ?rz136
                  case yz136 => (intro w _; go_simp; first | done | with_reducible rfl)
                  simp only [Act.put, List.setIfInBounds_toArray, List.set_cons_zero, List.set_cons_succ]; refine wpAnyZ_loadS (i := 1) (v := ?vz137) rfl (by kernel_rfl) (by kernel_rfl) (by kernel_rfl) (fun _ _ _ h => h) (fun _ => rfl) (Or.inl ⟨by rfl, ?yz137⟩) hS ?rz137
                  case yz137 => (intro W hW; have c0 : W.cell? ⟨w.heap.size, 0, none⟩ = some (.int .i64 (p.base : Int)) := (cell_of_row W _ _ _ _ _ hW.2.1).trans rfl; have c1 : W.cell? ⟨w.heap.size, 1, none⟩ = some (.int .i64 (p.bt : Int)) := (cell_of_row W _ _ _ _ _ hW.2.1).trans rfl; have c2 : W.cell? ⟨w.heap.size, 2, none⟩ = some (.slice ea el ec) := (cell_of_row W _ _ _ _ _ hW.2.1).trans rfl; have c3 : W.cell? ⟨w.heap.size, 3, none⟩ = some (.bool true) := (cell_of_row W _ _ _ _ _ hW.2.1).trans rfl; go_simp; first | done | with_reducible rfl)
                  simp only [Act.put, List.setIfInBounds_toArray, List.set_cons_zero, List.set_cons_succ]; refine wpAnyZ_one' (i := 2) (by kernel_rfl) rfl (fun K hK => ?_); go_simp; go_at_call 51; refine (HLA.out _ (grownBy_drew (grownBy_refl _ _))).mono ?_; rintro e w3 ⟨rfl, hgw3⟩; have HGw3 : Hid (W2.grownBy w3 none) := grownBy_trans (grownBy_drew (grownBy_refl _ _)) hgw3; refine hK.out _ _ (fun _ _ => SKX HGw3.out) ?_; clear hK K hgw3; (try simp only [Act.put, List.setIfInBounds_toArray, List.set_cons_zero, List.set_cons_succ]); refine wpAnyZ_take' (i := 3) (v := ?vz138) rfl (by kernel_rfl) (by kernel_rfl) (by kernel_rfl) (fun _ _ _ h => h) (Or.inl ⟨by rfl, ?yz138⟩) ?rz138
                  case yz138 => (intro w _; go_simp; first | done | with_reducible rfl)
                  simp only [Act.put, List.setIfInBounds_toArray, List.set_cons_zero, List.set_cons_succ]; refine wpAnyZ_take' (i := 4) (v := ?vz139) rfl (by kernel_rfl) (by kernel_rfl) (by kernel_rfl) (fun _ _ _ h => h) (Or.inl ⟨by rfl, ?yz139⟩) ?rz139
                  case yz139 => (intro w _; go_simp; first | done | with_reducible rfl)
                  simp only [Act.put, List.setIfInBounds_toArray, List.set_cons_zero, List.set_cons_succ]; have hS : w3.heap[X3]? = some (.cells #[.slice (some ⟨gn, 0, none⟩) 2 nc, .slice (some ⟨gr, 0, none⟩) (d.length - 8 * 2) rc] 81 (0, 0)) ∧ w3.heap[w.heap.size]? = some (.cells #[.int .i64 (p.base : Int), .int .i64 (p.bt : Int), .slice ea el ec, .bool true] 42 (0, 0)) ∧ w3.cell? ⟨gn, 0, none⟩ = some (.int .i64 (n0 : Int)) ∧ w3.cell? ⟨gn, 1, none⟩ = some (.int .i64 (n1 : Int)) := SKX HGw3.out; refine wpAnyZ_loadS (i := 5) (v := ?vz140) rfl (by kernel_rfl) (by kernel_rfl) (by kernel_rfl) (fun _ _ _ h => h) (fun _ => rfl) (Or.inl ⟨by rfl, ?yz140⟩) hS ?rz140
                  case yz140 => (intro W hW; have c0 : W.cell? ⟨w.heap.size, 0, none⟩ = some (.int .i64 (p.base : Int)) := (cell_of_row W _ _ _ _ _ hW.2.1).trans rfl; have c1 : W.cell? ⟨w.heap.size, 1, none⟩ = some (.int .i64 (p.bt : Int)) := (cell_of_row W _ _ _ _ _ hW.2.1).trans rfl; have c2 : W.cell? ⟨w.heap.size, 2, none⟩ = some (.slice ea el ec) := (cell_of_row W _ _ _ _ _ hW.2.1).trans rfl; have c3 : W.cell? ⟨w.heap.size, 3, none⟩ = some (.bool true) := (cell_of_row W _ _ _ _ _ hW.2.1).trans rfl; go_simp; first | done | with_reducible rfl)
                  simp only [Act.put, List.setIfInBounds_toArray, List.set_cons_zero, List.set_cons_succ]; refine wpAnyZ_take' (i := 6) (v := ?vz141) rfl (by kernel_rfl) (by kernel_rfl) (by kernel_rfl) (fun _ _ _ h => h) (Or.inl ⟨by rfl, ?yz141⟩) ?rz141
                  case yz141 => (intro w _; go_simp; first | done | with_reducible rfl)
                  simp only [Act.put, List.setIfInBounds_toArray, List.set_cons_zero, List.set_cons_succ]; refine wpAnyZ_take' (i := 8) (v := ?vz142) rfl (by kernel_rfl) (by kernel_rfl) (by kernel_rfl) (fun _ _ _ h => h) (Or.inl ⟨by rfl, ?yz142⟩) ?rz142
                  case yz142 => (intro w _; go_simp; first | done | with_reducible rfl)
                  simp only [Act.put, List.setIfInBounds_toArray, List.set_cons_zero, List.set_cons_succ]; refine wpAnyZ_loadS (i := 9) (v := ?vz143) rfl (by kernel_rfl) (by kernel_rfl) (by kernel_rfl) (fun _ _ _ h => h) (fun _ => rfl) (Or.inl ⟨by rfl, ?yz143⟩) hS ?rz143
                  case yz143 => (intro W hW; have c0 : W.cell? ⟨X3, 0, none⟩ = some (.slice (some ⟨gn, 0, none⟩) 2 nc) := (cell_of_row W _ _ _ _ _ hW.1).trans rfl; go_simp; first | done | with_reducible rfl)
                  simp only [Act.put, List.setIfInBounds_toArray, List.set_cons_zero, List.set_cons_succ]; refine wpAnyZ_take' (i := 10) (v := ?vz144) rfl (by kernel_rfl) (by kernel_rfl) (by kernel_rfl) (fun _ _ _ h => h) (Or.inl ⟨by rfl, ?yz144⟩) ?rz144
                  case yz144 => (intro w _; go_simp; first | done | with_reducible rfl)
                  simp only [Act.put, List.setIfInBounds_toArray, List.set_cons_zero, List.set_cons_succ]; refine wpAnyZ_loadS (i := 11) (v := ?vz145) rfl (by kernel_rfl) (by kernel_rfl) (by kernel_rfl) (fun _ _ _ h => h) (fun _ => rfl) (Or.inl ⟨by rfl, ?yz145⟩) hS ?rz145
                  case yz145 => (intro W hW; have c0 : W.cell? ⟨gn, 1, none⟩ = some (.int .i64 (n1 : Int)) := hW.2.2.2; go_simp; first | done | with_reducible rfl)
                  simp only [Act.put, List.setIfInBounds_toArray, List.set_cons_zero, List.set_cons_succ]; refine wpAnyZ_one' (i := 7) (by kernel_rfl) rfl (fun K hK => ?_); go_simp; go_at_call 52; refine (HTE.out _ HGw3.out).mono ?_; rintro e w5 ⟨rfl, hgw5⟩; have HGw5 : Hid (W2.grownBy w5 none) := grownBy_trans HGw3.out hgw5; refine hK.out _ _ (fun _ _ => SKX HGw5.out) ?_; clear hK K hgw5; (try simp only [Act.put, List.setIfInBounds_toArray, List.set_cons_zero, List.set_cons_succ]); refine wpAnyZ_take' (i := 12) (v := ?vz146) rfl (by kernel_rfl) (by kernel_rfl) (by kernel_rfl) (fun _ _ _ h => h) (Or.inl ⟨by rfl, ?yz146⟩) ?rz146
                  case yz146 => (intro w _; go_simp; first | done | with_reducible rfl)
                  simp only [Act.put, List.setIfInBounds_toArray, List.set_cons_zero, List.set_cons_succ]; refine wpAnyZ_take' (i := 13) (v := ?vz147) rfl (by kernel_rfl) (by kernel_rfl) (by kernel_rfl) (fun _ _ _ h => h) (Or.inl ⟨by rfl, ?yz147⟩) ?rz147
                  case yz147 => (intro w _; go_simp; first | done | with_reducible rfl)
                  simp only [Act.put, List.setIfInBounds_toArray, List.set_cons_zero, List.set_cons_succ]; refine wpAnyZ_done (by kernel_rfl) ?_ _; have hLw5 := grown_blk HGw5.out H2.out.1; have hZw5 := grown_blk HGw5.out H2.out.2.2.1; have ka0 : w5.cell? ⟨w.heap.size, 0, none⟩ = some (.int .i64 (p.base : Int)) := (cell_of_row _ _ _ _ _ _ hLw5).trans rfl; have ka1 : w5.cell? ⟨w.heap.size, 1, none⟩ = some (.int .i64 (p.bt : Int)) := (cell_of_row _ _ _ _ _ _ hLw5).trans rfl; have ka2 : w5.cell? ⟨w.heap.size, 2, none⟩ = some (.slice ea el ec) := (cell_of_row _ _ _ _ _ _ hLw5).trans rfl; have ka3 : w5.cell? ⟨w.heap.size, 3, none⟩ = some (.bool true) := (cell_of_row _ _ _ _ _ _ hLw5).trans rfl
                  have kaf : w5.frozen? ⟨w.heap.size, 3, none⟩ = false := by simp [World.frozen?, hLw5]
                  have kaf2 : w5.frozen? ⟨w.heap.size, 2, none⟩ = false := by simp [World.frozen?, hLw5]
                  have kz0 : w5.cell? ⟨w.heap.size + 1 + 1, 0, none⟩ = some (.int .i64 0) := (cell_of_row _ _ _ _ _ _ hZw5).trans rfl
                  have kzf0 : w5.frozen? ⟨w.heap.size + 1 + 1, 0, none⟩ = false := by simp [World.frozen?, hZw5]
                  have kz1 : w5.cell? ⟨w.heap.size + 1 + 1, 1, none⟩ = some (.int .i64 0) := (cell_of_row _ _ _ _ _ _ hZw5).trans rfl
                  have kzf1 : w5.frozen? ⟨w.heap.size + 1 + 1, 1, none⟩ = false := by simp [World.frozen?, hZw5]
                  have kz2 : w5.cell? ⟨w.heap.size + 1 + 1, 2, none⟩ = some (.slice none 0 0) := (cell_of_row _ _ _ _ _ _ hZw5).trans rfl
                  have kzf2 : w5.frozen? ⟨w.heap.size + 1 + 1, 2, none⟩ = false := by simp [World.frozen?, hZw5]
                  have kz3 : w5.cell? ⟨w.heap.size + 1 + 1, 3, none⟩ = some (.bool false) := (cell_of_row _ _ _ _ _ _ hZw5).trans rfl
                  have kzf3 : w5.frozen? ⟨w.heap.size + 1 + 1, 3, none⟩ = false := by simp [World.frozen?, hZw5]
                  have HKw5 : Hid (w.grownBy w5 none ∧ SLg w5 p.es (.slice ea el ec) ∧ w5.heap[w.heap.size]? = some (.cells #[.int .i64 (p.base : Int), .int .i64 (p.bt : Int), .slice ea el ec, .bool true] 42 (0, 0)) ∧ w5.heap[w.heap.size + 1 + 1]? = some (.cells #[.int .i64 0, .int .i64 0, .slice none 0 0, .bool false] 42 (0, 0))) := ⟨grownBy_trans H2.out.2.2.2.1 HGw5.out, H2.out.2.2.2.2.1.grown0 HGw5.out, hLw5, hZw5⟩; clear hLw5 hZw5 a0 a1 a2 a3 af3 z0 z1 z2 z3 zf0 zf1 zf2 zf3 HBAD HBB; obtain ⟨E, hE1, hE2, hE3, hE4, hE5, hE6⟩ := HP.out.2.1.parts; have HE : Hid (E.length = p.es.length ∧ E.map En.tell = p.es ∧ (∀ e ∈ E, Own w 5 e.g e.D ∧ e.off + e.n ≤ e.D.length) ∧ (E.map En.g).Nodup ∧ (∀ e ∈ E, e.t ≤ 1000000000 ∧ e.n ≤ 8192)) := ⟨hE1, hE2, hE4, hE5, hE6⟩; have hEV := hE3.grown0 HKw5.out.1; rw [HP.out.2.2.2.1] at hEV; have HEK : Hid (EnS w5 ea k (E.take k)) := hEV.take hkel; clear hE1 hE2 hE3 hE4 hE5 hE6 hEV
                  have e1 : (k : Int) ≤ (ec : Int) := by omega
                  have e2 : (0 : Int) ≤ (k : Int) := by omega
                  have hs5 := HGw5.out.size
                  have hw5 : w.heap.size < w5.heap.size := by omega
                  have hne5 : ¬ w.heap.size = w5.heap.size := by omega
                  have hw52 : w.heap.size + 1 + 1 < w5.heap.size := by omega
                  have hne52 : ¬ w.heap.size + 1 + 1 = w5.heap.size := by omega
                  go_wp2_with (at_builtin; refine wpList_appE (by rfl) (.tmp 150) (.tmp 157) (by rfl) (by rfl) (B := w5.heap.size) (World.ownsRow_made w5 #[] 0 (Nat.le_refl _) (Nat.zero_le _) rfl) (by rfl) (HEK.out.grown0 (World.grownBy_alloc _ _ _)) HP.out.2.2.2.2.1 (by omega) (by simp) ?_)
                  intro v6 Y O6 g6; have GY : w5.grownBy Y none := grown_own (e := 47) (s := 2) (World.grownBy_alloc w5 _ _) (World.ownsRow_made w5 #[] 0 (Nat.le_refl _) (Nat.zero_le _) rfl) g6; obtain ⟨oa6, c6, rfl⟩ := own1_is O6
                  have HF6 : Hid (SLg Y (p.es.take k) (.slice oa6 k c6) ∧ w.grownBy Y none) := by
                    obtain ⟨h1, h2, h4, h5, h6⟩ := HE.out; have hg : w.grownBy Y none := grownBy_trans HKw5.out.1 GY; exact ⟨slg_take h1 h2 h4 h5 h6 hg (by rw [HP.out.2.2.2.1]; exact hkel) O6, hg⟩
                  have kb := grown_blk GY HKw5.out.2.2.1; have kzb := grown_blk GY HKw5.out.2.2.2; have la0 : Y.cell? ⟨w.heap.size, 0, none⟩ = some (.int .i64 (p.base : Int)) := (cell_of_row _ _ _ _ _ _ kb).trans rfl; have la1 : Y.cell? ⟨w.heap.size, 1, none⟩ = some (.int .i64 (p.bt : Int)) := (cell_of_row _ _ _ _ _ _ kb).trans rfl; have la2 : Y.cell? ⟨w.heap.size, 2, none⟩ = some (.slice ea el ec) := (cell_of_row _ _ _ _ _ _ kb).trans rfl; have la3 : Y.cell? ⟨w.heap.size, 3, none⟩ = some (.bool true) := (cell_of_row _ _ _ _ _ _ kb).trans rfl
                  have laf2 : Y.frozen? ⟨w.heap.size, 2, none⟩ = false := by simp [World.frozen?, kb]
                  have lz0 : Y.cell? ⟨w.heap.size + 1 + 1, 0, none⟩ = some (.int .i64 0) := (cell_of_row _ _ _ _ _ _ kzb).trans rfl
                  have lzf0 : Y.frozen? ⟨w.heap.size + 1 + 1, 0, none⟩ = false := by simp [World.frozen?, kzb]
                  have lz1 : Y.cell? ⟨w.heap.size + 1 + 1, 1, none⟩ = some (.int .i64 0) := (cell_of_row _ _ _ _ _ _ kzb).trans rfl
                  have lzf1 : Y.frozen? ⟨w.heap.size + 1 + 1, 1, none⟩ = false := by simp [World.frozen?, kzb]
                  have lz2 : Y.cell? ⟨w.heap.size + 1 + 1, 2, none⟩ = some (.slice none 0 0) := (cell_of_row _ _ _ _ _ _ kzb).trans rfl
                  have lzf2 : Y.frozen? ⟨w.heap.size + 1 + 1, 2, none⟩ = false := by simp [World.frozen?, kzb]
                  have lz3 : Y.cell? ⟨w.heap.size + 1 + 1, 3, none⟩ = some (.bool false) := (cell_of_row _ _ _ _ _ _ kzb).trans rfl
                  have lzf3 : Y.frozen? ⟨w.heap.size + 1 + 1, 3, none⟩ = false := by simp [World.frozen?, kzb]
                  have HKB : Hid (Y.heap[w.heap.size]? = some (.cells #[.int .i64 (p.base : Int), .int .i64 (p.bt : Int), .slice ea el ec, .bool true] 42 (0, 0)) ∧ Y.heap[w.heap.size + 1 + 1]? = some (.cells #[.int .i64 0, .int .i64 0, .slice none 0 0, .bool false] 42 (0, 0))) := ⟨kb, kzb⟩; clear kb kzb O6 g6 ka0 ka1 ka2 ka3 kaf kaf2 kz0 kz1 kz2 kz3 kzf0 kzf1 kzf2 kzf3; go_wp2; refine bodyPost_ret (results_log (g := w.heap.size + 1 + 1) rfl rfl (set_four (set_oth 2 _ (by omega) HKB.out.2)) rfl) rfl ?_; refine ⟨grown_four (grownBy_setNew HF6.out.2 (Nat.le_refl _)) (by omega), _, _, _, true, rfl, ⟨_, _, _, rfl⟩, .inl ⟨rfl, { p with es := p.es.take k }, ?_, rfl, rfl, slg_four (slg_one HF6.out.1 HKB.out.1) (set_oth 2 _ (by omega) HKB.out.2)⟩⟩; rw [HST.out, HNN.out.1, HNN.out.2.1]; obtain ⟨-, -, rfl⟩ := HNN.out; rw [HBF.out]
                  have hk9 : bf - p.base = k := by have := HTB.out.2; omega
                  simp [wact, cutStep, HLE.out.1, HTB.out.1, HQ.out.1, HQ.out.2.1, HQ.out.2.2, hk9]
                · have d2 : ((tb : Int) != (n1 : Int)) = true := by simp; omega
                  have HQ : Hid (¬ bf < p.base ∧ ¬ tb = n1) := ⟨kb, kt⟩; clear kb kl hk hla kt htb
                  go_upto_region 18 with fail
                  refine wp_region_Z (fun V => V.heap[X3]? = some (.cells #[.slice (some ⟨gn, 0, none⟩) 2 nc, .slice (some ⟨gr, 0, none⟩) (d.length - 8 * 2) rc] 81 (0, 0)) ∧ V.heap[w.heap.size]? = some (.cells #[.int .i64 (p.base : Int), .int .i64 (p.bt : Int), .slice ea el ec, .bool true] 42 (0, 0)) ∧ V.cell? ⟨gn, 0, none⟩ = some (.int .i64 (n0 : Int)) ∧ V.cell? ⟨gn, 1, none⟩ = some (.int .i64 (n1 : Int))) (fun _ => false) (by kernel_rfl) ?_; have hS : W2.drew.heap[X3]? = some (.cells #[.slice (some ⟨gn, 0, none⟩) 2 nc, .slice (some ⟨gr, 0, none⟩) (d.length - 8 * 2) rc] 81 (0, 0)) ∧ W2.drew.heap[w.heap.size]? = some (.cells #[.int .i64 (p.base : Int), .int .i64 (p.bt : Int), .slice ea el ec, .bool true] 42 (0, 0)) ∧ W2.drew.cell? ⟨gn, 0, none⟩ = some (.int .i64 (n0 : Int)) ∧ W2.drew.cell? ⟨gn, 1, none⟩ = some (.int .i64 (n1 : Int)) := ⟨H2.out.2.2.2.2.2.1, H2.out.1, q0, q1⟩; refine wpAnyZ_take' (i := 0) (v := ?vz148) rfl (by kernel_rfl) (by kernel_rfl) (by kernel_rfl) (fun _ _ _ h => h) (Or.inl ⟨by rfl, ?yz148⟩) ?rz148
                  case yz148 => (intro w _; go_simp; first | done | with_reducible rfl)
                  simp only [Act.put, List.setIfInBounds_toArray, List.set_cons_zero, List.set_cons_succ]; refine wpAnyZ_loadS (i := 1) (v := ?vz149) rfl (by kernel_rfl) (by kernel_rfl) (by kernel_rfl) (fun _ _ _ h => h) (fun _ => rfl) (Or.inl ⟨by rfl, ?yz149⟩) hS ?rz149
                  case yz149 => (intro W hW; have c0 : W.cell? ⟨w.heap.size, 0, none⟩ = some (.int .i64 (p.base : Int)) := (cell_of_row W _ _ _ _ _ hW.2.1).trans rfl; have c1 : W.cell? ⟨w.heap.size, 1, none⟩ = some (.int .i64 (p.bt : Int)) := (cell_of_row W _ _ _ _ _ hW.2.1).trans rfl; have c2 : W.cell? ⟨w.heap.size, 2, none⟩ = some (.slice ea el ec) := (cell_of_row W _ _ _ _ _ hW.2.1).trans rfl; have c3 : W.cell? ⟨w.heap.size, 3, none⟩ = some (.bool true) := (cell_of_row W _ _ _ _ _ hW.2.1).trans rfl; go_simp; first | done | with_reducible rfl)
                  simp only [Act.put, List.setIfInBounds_toArray, List.set_cons_zero, List.set_cons_succ]; refine wpAnyZ_one' (i := 2) (by kernel_rfl) rfl (fun K hK => ?_); go_simp; go_at_call 51; refine (HLA.out _ (grownBy_drew (grownBy_refl _ _))).mono ?_; rintro e w3 ⟨rfl, hgw3⟩; have HGw3 : Hid (W2.grownBy w3 none) := grownBy_trans (grownBy_drew (grownBy_refl _ _)) hgw3; refine hK.out _ _ (fun _ _ => SKX HGw3.out) ?_; clear hK K hgw3; (try simp only [Act.put, List.setIfInBounds_toArray, List.set_cons_zero, List.set_cons_succ]); refine wpAnyZ_take' (i := 3) (v := ?vz150) rfl (by kernel_rfl) (by kernel_rfl) (by kernel_rfl) (fun _ _ _ h => h) (Or.inl ⟨by rfl, ?yz150⟩) ?rz150
                  case yz150 => (intro w _; go_simp; first | done | with_reducible rfl)
                  simp only [Act.put, List.setIfInBounds_toArray, List.set_cons_zero, List.set_cons_succ]; refine wpAnyZ_take' (i := 4) (v := ?vz151) rfl (by kernel_rfl) (by kernel_rfl) (by kernel_rfl) (fun _ _ _ h => h) (Or.inl ⟨by rfl, ?yz151⟩) ?rz151
                  case yz151 => (intro w _; go_simp; first | done | with_reducible rfl)
                  simp only [Act.put, List.setIfInBounds_toArray, List.set_cons_zero, List.set_cons_succ]; have hS : w3.heap[X3]? = some (.cells #[.slice (some ⟨gn, 0, none⟩) 2 nc, .slice (some ⟨gr, 0, none⟩) (d.length - 8 * 2) rc] 81 (0, 0)) ∧ w3.heap[w.heap.size]? = some (.cells #[.int .i64 (p.base : Int), .int .i64 (p.bt : Int), .slice ea el ec, .bool true] 42 (0, 0)) ∧ w3.cell? ⟨gn, 0, none⟩ = some (.int .i64 (n0 : Int)) ∧ w3.cell? ⟨gn, 1, none⟩ = some (.int .i64 (n1 : Int)) := SKX HGw3.out; refine wpAnyZ_loadS (i := 5) (v := ?vz152) rfl (by kernel_rfl) (by kernel_rfl) (by kernel_rfl) (fun _ _ _ h => h) (fun _ => rfl) (Or.inl ⟨by rfl, ?yz152⟩) hS ?rz152
                  case yz152 => (intro W hW; have c0 : W.cell? ⟨w.heap.size, 0, none⟩ = some (.int .i64 (p.base : Int)) := (cell_of_row W _ _ _ _ _ hW.2.1).trans rfl; have c1 : W.cell? ⟨w.heap.size, 1, none⟩ = some (.int .i64 (p.bt : Int)) := (cell_of_row W _ _ _ _ _ hW.2.1).trans rfl; have c2 : W.cell? ⟨w.heap.size, 2, none⟩ = some (.slice ea el ec) := (cell_of_row W _ _ _ _ _ hW.2.1).trans rfl; have c3 : W.cell? ⟨w.heap.size, 3, none⟩ = some (.bool true) := (cell_of_row W _ _ _ _ _ hW.2.1).trans rfl; go_simp; first | done | with_reducible rfl)
                  simp only [Act.put, List.setIfInBounds_toArray, List.set_cons_zero, List.set_cons_succ]; refine wpAnyZ_take' (i := 6) (v := ?vz153) rfl (by kernel_rfl) (by kernel_rfl) (by kernel_rfl) (fun _ _ _ h => h) (Or.inl ⟨by rfl, ?yz153⟩) ?rz153
                  case yz153 => (intro w _; go_simp; first | done | with_reducible rfl)
                  simp only [Act.put, List.setIfInBounds_toArray, List.set_cons_zero, List.set_cons_succ]; refine wpAnyZ_take' (i := 8) (v := ?vz154) rfl (by kernel_rfl) (by kernel_rfl) (by kernel_rfl) (fun _ _ _ h => h) (Or.inl ⟨by rfl, ?yz154⟩) ?rz154
                  case yz154 => (intro w _; go_simp; first | done | with_reducible rfl)
                  simp only [Act.put, List.setIfInBounds_toArray, List.set_cons_zero, List.set_cons_succ]; refine wpAnyZ_loadS (i := 9) (v := ?vz155) rfl (by kernel_rfl) (by kernel_rfl) (by kernel_rfl) (fun _ _ _ h => h) (fun _ => rfl) (Or.inl ⟨by rfl, ?yz155⟩) hS ?rz155
                  case yz155 => (intro W hW; have c0 : W.cell? ⟨X3, 0, none⟩ = some (.slice (some ⟨gn, 0, none⟩) 2 nc) := (cell_of_row W _ _ _ _ _ hW.1).trans rfl; go_simp; first | done | with_reducible rfl)
                  simp only [Act.put, List.setIfInBounds_toArray, List.set_cons_zero, List.set_cons_succ]; refine wpAnyZ_take' (i := 10) (v := ?vz156) rfl (by kernel_rfl) (by kernel_rfl) (by kernel_rfl) (fun _ _ _ h => h) (Or.inl ⟨by rfl, ?yz156⟩) ?rz156
                  case yz156 => (intro w _; go_simp; first | done | with_reducible rfl)
                  simp only [Act.put, List.setIfInBounds_toArray, List.set_cons_zero, List.set_cons_succ]; refine wpAnyZ_loadS (i := 11) (v := ?vz157) rfl (by kernel_rfl) (by kernel_rfl) (by kernel_rfl) (fun _ _ _ h => h) (fun _ => rfl) (Or.inl ⟨by rfl, ?yz157⟩) hS ?rz157
                  case yz157 => (intro W hW; have c0 : W.cell? ⟨gn, 1, none⟩ = some (.int .i64 (n1 : Int)) := hW.2.2.2; go_simp; first | done | with_reducible rfl)
                  simp only [Act.put, List.setIfInBounds_toArray, List.set_cons_zero, List.set_cons_succ]; refine wpAnyZ_one' (i := 7) (by kernel_rfl) rfl (fun K hK => ?_); go_simp; go_at_call 52; refine (HTE.out _ HGw3.out).mono ?_; rintro e w5 ⟨rfl, hgw5⟩; have HGw5 : Hid (W2.grownBy w5 none) := grownBy_trans HGw3.out hgw5; refine hK.out _ _ (fun _ _ => SKX HGw5.out) ?_; clear hK K hgw5; (try simp only [Act.put, List.setIfInBounds_toArray, List.set_cons_zero, List.set_cons_succ]); refine wpAnyZ_take' (i := 12) (v := ?vz158) rfl (by kernel_rfl) (by kernel_rfl) (by kernel_rfl) (fun _ _ _ h => h) (Or.inl ⟨by rfl, ?yz158⟩) ?rz158
                  case yz158 => (intro w _; go_simp; first | done | with_reducible rfl)
                  simp only [Act.put, List.setIfInBounds_toArray, List.set_cons_zero, List.set_cons_succ]; refine wpAnyZ_take' (i := 13) (v := ?vz159) rfl (by kernel_rfl) (by kernel_rfl) (by kernel_rfl) (fun _ _ _ h => h) (Or.inl ⟨by rfl, ?yz159⟩) ?rz159
                  case yz159 => (intro w _; go_simp; first | done | with_reducible rfl)
                  simp only [Act.put, List.setIfInBounds_toArray, List.set_cons_zero, List.set_cons_succ]; refine wpAnyZ_done (by kernel_rfl) ?_ _; have hLw5 := grown_blk HGw5.out H2.out.1; have hZw5 := grown_blk HGw5.out H2.out.2.2.1; have ka0 : w5.cell? ⟨w.heap.size, 0, none⟩ = some (.int .i64 (p.base : Int)) := (cell_of_row _ _ _ _ _ _ hLw5).trans rfl; have ka1 : w5.cell? ⟨w.heap.size, 1, none⟩ = some (.int .i64 (p.bt : Int)) := (cell_of_row _ _ _ _ _ _ hLw5).trans rfl; have ka2 : w5.cell? ⟨w.heap.size, 2, none⟩ = some (.slice ea el ec) := (cell_of_row _ _ _ _ _ _ hLw5).trans rfl; have ka3 : w5.cell? ⟨w.heap.size, 3, none⟩ = some (.bool true) := (cell_of_row _ _ _ _ _ _ hLw5).trans rfl
                  have kaf : w5.frozen? ⟨w.heap.size, 3, none⟩ = false := by simp [World.frozen?, hLw5]
                  have kaf2 : w5.frozen? ⟨w.heap.size, 2, none⟩ = false := by simp [World.frozen?, hLw5]
                  have kz0 : w5.cell? ⟨w.heap.size + 1 + 1, 0, none⟩ = some (.int .i64 0) := (cell_of_row _ _ _ _ _ _ hZw5).trans rfl
                  have kzf0 : w5.frozen? ⟨w.heap.size + 1 + 1, 0, none⟩ = false := by simp [World.frozen?, hZw5]
                  have kz1 : w5.cell? ⟨w.heap.size + 1 + 1, 1, none⟩ = some (.int .i64 0) := (cell_of_row _ _ _ _ _ _ hZw5).trans rfl
                  have kzf1 : w5.frozen? ⟨w.heap.size + 1 + 1, 1, none⟩ = false := by simp [World.frozen?, hZw5]
                  have kz2 : w5.cell? ⟨w.heap.size + 1 + 1, 2, none⟩ = some (.slice none 0 0) := (cell_of_row _ _ _ _ _ _ hZw5).trans rfl
                  have kzf2 : w5.frozen? ⟨w.heap.size + 1 + 1, 2, none⟩ = false := by simp [World.frozen?, hZw5]
                  have kz3 : w5.cell? ⟨w.heap.size + 1 + 1, 3, none⟩ = some (.bool false) := (cell_of_row _ _ _ _ _ _ hZw5).trans rfl
                  have kzf3 : w5.frozen? ⟨w.heap.size + 1 + 1, 3, none⟩ = false := by simp [World.frozen?, hZw5]
                  have HKw5 : Hid (w.grownBy w5 none ∧ SLg w5 p.es (.slice ea el ec) ∧ w5.heap[w.heap.size]? = some (.cells #[.int .i64 (p.base : Int), .int .i64 (p.bt : Int), .slice ea el ec, .bool true] 42 (0, 0)) ∧ w5.heap[w.heap.size + 1 + 1]? = some (.cells #[.int .i64 0, .int .i64 0, .slice none 0 0, .bool false] 42 (0, 0))) := ⟨grownBy_trans H2.out.2.2.2.1 HGw5.out, H2.out.2.2.2.2.1.grown0 HGw5.out, hLw5, hZw5⟩; clear hLw5 hZw5 a0 a1 a2 a3 af3 z0 z1 z2 z3 zf0 zf1 zf2 zf3 HBAD HBB; go_wp2; refine bodyPost_ret (results_log (g := w.heap.size + 1 + 1) rfl rfl (set_four (set_oth 3 _ (by omega) HKw5.out.2.2.2)) rfl) rfl ?_; refine ⟨grown_four (grownBy_setNew HKw5.out.1 (Nat.le_refl _)) (by omega), _, _, _, false, rfl, ⟨_, _, _, rfl⟩, ?_⟩; refine .inr ⟨rfl, ?_⟩; rw [HST.out, HNN.out.1, HNN.out.2.1]; obtain ⟨-, -, rfl⟩ := HNN.out; rw [HBF.out]
                  simp [wact, cutStep, HLE.out.1, HQ.out.1, HTB.out.1, HQ.out.2]
          · have t4 : ((ty : Int) == 3) = false := by simp; omega
            rcases Classical.em (ty = 7) with h5 | h5
            · have t5 : ((ty : Int) == 7) = true := by simp; omega
              have hwl : (wb ty).length = 2 := by rw [h5]; rfl
              rw [hwl] at H2 HPY HST ⊢; obtain ⟨n0, hn0⟩ : ∃ x, wn ty d 0 = x := ⟨_, rfl⟩
              have q0 : W2.cell? ⟨gn, 0, none⟩ = some (.int .i64 (n0 : Int)) := by rw [← hn0]; exact HPY.out.1 0 (by omega)
              obtain ⟨n1, hn1⟩ : ∃ x, wn ty d 1 = x := ⟨_, rfl⟩
              have q1 : W2.cell? ⟨gn, 1, none⟩ = some (.int .i64 (n1 : Int)) := by rw [← hn1]; exact HPY.out.1 1 (by omega)
              have hw0 : 0 ≤ n0 ∧ n0 ≤ 1000000 := by
                rw [← hn0]; exact wn_in HOK.out (i := 0) (by rw [h5]; rfl)
              have hw1 : 0 ≤ n1 ∧ n1 ≤ 1000000000 := by
                rw [← hn1]; exact wn_in HOK.out (i := 1) (by rw [h5]; rfl)
              have HNN : Hid (wn ty d 0 = n0 ∧ wn ty d 1 = n1 ∧ ty = 7) := ⟨hn0, hn1, h5⟩; clear h1 h3 h4 h5 hn0 hn1
              go_upto_region 23 with fail
              refine wp_region_Z (fun V => V.heap[X3]? = some (.cells #[.slice (some ⟨gn, 0, none⟩) 2 nc, .slice (some ⟨gr, 0, none⟩) (d.length - 8 * 2) rc] 81 (0, 0)) ∧ V.heap[w.heap.size]? = some (.cells #[.int .i64 (p.base : Int), .int .i64 (p.bt : Int), .slice ea el ec, .bool true] 42 (0, 0)) ∧ V.cell? ⟨gn, 0, none⟩ = some (.int .i64 (n0 : Int)) ∧ V.cell? ⟨gn, 1, none⟩ = some (.int .i64 (n1 : Int))) (fun j => j == 9) (by kernel_rfl) ?_; have hS : W2.drew.heap[X3]? = some (.cells #[.slice (some ⟨gn, 0, none⟩) 2 nc, .slice (some ⟨gr, 0, none⟩) (d.length - 8 * 2) rc] 81 (0, 0)) ∧ W2.drew.heap[w.heap.size]? = some (.cells #[.int .i64 (p.base : Int), .int .i64 (p.bt : Int), .slice ea el ec, .bool true] 42 (0, 0)) ∧ W2.drew.cell? ⟨gn, 0, none⟩ = some (.int .i64 (n0 : Int)) ∧ W2.drew.cell? ⟨gn, 1, none⟩ = some (.int .i64 (n1 : Int)) := ⟨H2.out.2.2.2.2.2.1, H2.out.1, q0, q1⟩; refine wpAnyZ_take' (i := 0) (v := ?vz71) rfl (by kernel_rfl) (by kernel_rfl) (by kernel_rfl) (fun _ _ _ h => h) (Or.inl ⟨by rfl, ?yz71⟩) ?rz71
              case yz71 => (intro w _; go_simp; first | done | with_reducible rfl)
              simp only [Act.put, List.setIfInBounds_toArray, List.set_cons_zero, List.set_cons_succ]; refine wpAnyZ_load' (i := 1) (y := 9) (v := ?vz72) rfl (by kernel_rfl) (by kernel_rfl) (by kernel_rfl) (fun _ _ _ h => h) (fun j hj => .inl (by obtain rfl : j = 9 := (by simpa using hj); kernel_rfl)) rfl (by kernel_rfl) (Or.inl ⟨by rfl, ?yz72⟩) hS ?rz72
              case yz72 => (intro W hW; have c0 : W.cell? ⟨X3, 0, none⟩ = some (.slice (some ⟨gn, 0, none⟩) 2 nc) := (cell_of_row W _ _ _ _ _ hW.1).trans rfl; go_simp; first | done | with_reducible rfl)
              simp only [Act.put, List.setIfInBounds_toArray, List.set_cons_zero, List.set_cons_succ]; refine wpAnyZ_take' (i := 2) (v := ?vz73) rfl (by kernel_rfl) (by kernel_rfl) (by kernel_rfl) (fun _ _ _ h => h) (Or.inl ⟨by rfl, ?yz73⟩) ?rz73
              case yz73 => (intro w _; go_simp; first | done | with_reducible rfl)
              simp only [Act.put, List.setIfInBounds_toArray, List.set_cons_zero, List.set_cons_succ]; refine wpAnyZ_load' (i := 3) (y := 9) (v := ?vz74) rfl (by kernel_rfl) (by kernel_rfl) (by kernel_rfl) (fun _ _ _ h => h) (fun j hj => .inl (by obtain rfl : j = 9 := (by simpa using hj); kernel_rfl)) rfl (by kernel_rfl) (Or.inl ⟨by rfl, ?yz74⟩) hS ?rz74
              case yz74 => (intro W hW; have c0 : W.cell? ⟨gn, 0, none⟩ = some (.int .i64 (n0 : Int)) := hW.2.2.1; go_simp; first | done | with_reducible rfl)
              simp only [Act.put, List.setIfInBounds_toArray, List.set_cons_zero, List.set_cons_succ]; refine wpAnyZ_take' (i := 4) (v := ?vz75) rfl (by kernel_rfl) (by kernel_rfl) (by kernel_rfl) (fun _ _ _ h => h) (Or.inl ⟨by rfl, ?yz75⟩) ?rz75
              case yz75 => (intro w _; go_simp; first | done | with_reducible rfl)
              simp only [Act.put, List.setIfInBounds_toArray, List.set_cons_zero, List.set_cons_succ]; refine wpAnyZ_load' (i := 5) (y := 9) (v := ?vz76) rfl (by kernel_rfl) (by kernel_rfl) (by kernel_rfl) (fun _ _ _ h => h) (fun j hj => .inl (by obtain rfl : j = 9 := (by simpa using hj); kernel_rfl)) rfl (by kernel_rfl) (Or.inl ⟨by rfl, ?yz76⟩) hS ?rz76
              case yz76 => (intro W hW; have c0 : W.cell? ⟨X3, 0, none⟩ = some (.slice (some ⟨gn, 0, none⟩) 2 nc) := (cell_of_row W _ _ _ _ _ hW.1).trans rfl; go_simp; first | done | with_reducible rfl)
              simp only [Act.put, List.setIfInBounds_toArray, List.set_cons_zero, List.set_cons_succ]; refine wpAnyZ_take' (i := 6) (v := ?vz77) rfl (by kernel_rfl) (by kernel_rfl) (by kernel_rfl) (fun _ _ _ h => h) (Or.inl ⟨by rfl, ?yz77⟩) ?rz77
              case yz77 => (intro w _; go_simp; first | done | with_reducible rfl)
              simp only [Act.put, List.setIfInBounds_toArray, List.set_cons_zero, List.set_cons_succ]; refine wpAnyZ_load' (i := 7) (y := 9) (v := ?vz78) rfl (by kernel_rfl) (by kernel_rfl) (by kernel_rfl) (fun _ _ _ h => h) (fun j hj => .inl (by obtain rfl : j = 9 := (by simpa using hj); kernel_rfl)) rfl (by kernel_rfl) (Or.inl ⟨by rfl, ?yz78⟩) hS ?rz78
              case yz78 => (intro W hW; have c0 : W.cell? ⟨gn, 1, none⟩ = some (.int .i64 (n1 : Int)) := hW.2.2.2; go_simp; first | done | with_reducible rfl)
              simp only [Act.put, List.setIfInBounds_toArray, List.set_cons_zero, List.set_cons_succ]; refine wpAnyZ_take' (i := 8) (v := ?vz79) rfl (by kernel_rfl) (by kernel_rfl) (by kernel_rfl) (fun _ _ _ h => h) (Or.inl ⟨by rfl, ?yz79⟩) ?rz79
              case yz79 => (intro w _; go_simp; first | done | with_reducible rfl)
              simp only [Act.put, List.setIfInBounds_toArray, List.set_cons_zero, List.set_cons_succ]; refine wpAnyZ_one' (i := 9) (by kernel_rfl) rfl (fun K hK => ?_); go_simp; refine hK.out _ _ (fun hc => (by cases hc)) ?_; clear hK K; (try simp only [Act.put]); refine wpAnyZ_done (by kernel_rfl) ?_ _; go_wp2; refine bodyPost_ret (results_log (g := w.heap.size + 1 + 1) rfl rfl (drew_blk (set_four H2.out.2.2.1)) rfl) rfl ?_; refine ⟨grownBy_drew (grown_four H2.out.2.2.2.1 (by omega)), _, _, _, true, rfl, ⟨_, _, _, rfl⟩, ?_⟩; rw [HST.out, HNN.out.1, HNN.out.2.1]; obtain ⟨-, -, rfl⟩ := HNN.out; exact .inl ⟨rfl, ⟨n0, n1, []⟩, rfl, rfl, rfl, SLg.nil _⟩
            · have t5 : ((ty : Int) == 7) = false := by simp; omega
              have HN : Hid (wstep p num fst (decide (at_ = 0)) ty d = none) := by
                show _ = _
                obtain rfl | rfl | rfl : ty = 4 ∨ ty = 5 ∨ ty = 6 := by omega
                all_goals (rw [HST.out]; rfl)
              clear h1 h3 h4 h5; go_wp2; refine bodyPost_ret (results_log (g := w.heap.size + 1 + 1) rfl rfl (set_four HBB.out) rfl) rfl ?_; exact HBAD.out _ HN.out
theorem plok0 : PlOk ⟨0, 0, []⟩ := ⟨by simp, by simp, by simp⟩
open Classical in
theorem wstep_plok {p p' : Pl} {num : Nat} {fst hd : Bool} {ty : Nat} {d : List Nat} (h : PlOk p) (hs : wstep p num fst hd ty d = some p') : PlOk p' := by
  rw [wstep] at hs
  split at hs
  · cases hs
  · split at hs
    · cases hs
    · split at hs
      · rename_i h7 h1 hok
        have hl := h.last
        match ty, hs, hok, h7 with
        | 0, hs, _, _ => simp [wact] at hs
        | 1, hs, hok, _ =>
          have b1 := wn_in (ty := 1) hok (i := 1) (lo := 1) (hi := 1000000) rfl; have b2 := wn_in (ty := 1) hok (i := 2) (lo := 0) (hi := 1000000000) rfl; simp only [wact, headStep] at hs
          split at hs
          · split at hs
            · cases hs
              exact ⟨by simp only [List.length_nil]; omega, b2.2, by simp⟩
            · split at hs
              · cases hs; exact h
              · cases hs
          · cases hs
        | 2, hs, hok, _ =>
          have b0 := wn_in (ty := 2) hok (i := 0) (lo := 1) (hi := 1000000) rfl; have b1 := wn_in (ty := 2) hok (i := 1) (lo := 0) (hi := 1000000000) rfl; have hlen := hok.2.1; simp only [wact, putStep] at hs
          split at hs
          · rename_i hc
            cases hs
            refine ⟨?_, h.bt, ?_⟩
            · have := hc.1
              unfold Pl.last at this
              simp only [List.length_append, List.length_cons, List.length_nil]
              omega
            · intro x hx
              rcases List.mem_append.1 hx with hx | hx
              · exact h.each x hx
              · simp only [List.mem_cons, List.not_mem_nil, or_false] at hx; subst hx; refine ⟨b1.2, ?_⟩; simp only [wb, wroom, List.length_cons, List.length_nil] at hlen; simp only [wb, List.length_drop, List.length_cons, List.length_nil]
                omega
          · cases hs
        | 3, hs, hok, _ =>
          have b0 := wn_in (ty := 3) hok (i := 0) (lo := 1) (hi := 1000000) rfl; have b1 := wn_in (ty := 3) hok (i := 1) (lo := 0) (hi := 1000000000) rfl; simp only [wact, cutStep] at hs
          split at hs
          · cases hs
            exact ⟨by simp only [List.length_nil]; omega, b1.2, by simp⟩
          · split at hs
            · cases hs
              refine ⟨?_, h.bt, fun x hx => h.each x (List.mem_of_mem_take hx)⟩; simp only [List.length_take]
              omega
            · cases hs
        | 4, hs, _, _ => simp [wact] at hs
        | 5, hs, _, _ => simp [wact] at hs
        | 6, hs, _, _ => simp [wact] at hs
        | 7, hs, hok, _ =>
          have b0 := wn_in (ty := 7) hok (i := 0) (lo := 0) (hi := 1000000) rfl; have b1 := wn_in (ty := 7) hok (i := 1) (lo := 0) (hi := 1000000000) rfl; simp only [wact] at hs
          cases hs
          exact ⟨by simp only [List.length_nil]; omega, b1.2, by simp⟩
        | n + 8, _, _, h7 => omega
      · cases hs
theorem rsteps_plok {num : Nat} {fst : Bool} : ∀ (rs : List (Nat × List Nat)) (p p' : Pl) (hd : Bool), PlOk p → rsteps num fst p hd rs = some p' → PlOk p'
  | [], p, p', _, h, hs => by simp only [rsteps] at hs; cases hs; exact h
  | r :: rs, p, p', hd, h, hs => by
    simp only [rsteps, Option.bind_eq_some_iff] at hs; obtain ⟨q, h1, h2⟩ := hs; exact rsteps_plok rs q p' false (wstep_plok h h1) h2
theorem wread_plok : ∀ (ks : List Pf) (fst : Bool) (p p' : Pl), PlOk p → wread fst p ks = some p' → PlOk p'
  | [], _, p, p', h, hs => by simp only [wread] at hs; cases hs; exact h
  | x :: xs, fst, p, p', h, hs => by
    rw [wread] at hs
    split at hs
    · cases hs
    · simp only [Option.bind_eq_some_iff] at hs; obtain ⟨q, h1, h2⟩ := hs; exact wread_plok xs false q p' (rsteps_plok _ _ _ _ h h1) h2
theorem walP_plok {F : List Pf} {p : Pl} {ns : List Nat} {kp : Nat} {b : Bool} (hw : walP F = some (p, ns, kp, b)) : PlOk p := by
  unfold walP at hw
  split at hw
  · simp only [Option.map_eq_some_iff, Prod.mk.injEq] at hw; obtain ⟨q, h1, rfl, -, -, -⟩ := hw; exact wread_plok _ _ _ _ plok0 h1
  · cases hw
open Classical in
theorem wstep_head {p p' : Pl} {num : Nat} {fst : Bool} {ty : Nat} {d : List Nat} (hs : wstep p num fst true ty d = some p') : ty = 1 ∧ WOk (wb 1) (wroom 1) d := by
  rw [wstep] at hs
  split at hs
  · cases hs
  · split at hs
    · cases hs
    · split at hs
      · rename_i h1 h2 h3
        have : ty = 1 := by
          by_cases h9 : ty = 1
          · exact h9
          · exact absurd ⟨h9, rfl⟩ h2
        subst this; exact ⟨rfl, h3⟩
      · cases hs
/-- blocks of other types -/
theorem own1_setT {w : World} {b j B e s n : Nat} {u v : Value} {xs : List Value} {cur : Array Value} {t : TypeId} {f : Nat × Nat} (h : w.ownsRow B e s v n xs) (hb : w.heap[b]? = some (.cells cur t f)) (hne : t ≠ e) : (w.setCell ⟨b, j, none⟩ u).ownsRow B e s v n xs := by
  obtain ⟨hl', h1 | ⟨g', cap, cur', h1, hb', hg', h2⟩⟩ := h
  · exact ⟨hl', .inl h1⟩
  · refine ⟨hl', .inr ⟨g', cap, cur', h1, hb', (heap_setCell_other w ⟨b, j, none⟩ g' _ ?_).trans hg', h2⟩⟩; rintro rfl; rw [hb] at hg'; have h9 := Option.some.inj hg'
    injection h9 with _ h8 _
    exact hne h8
theorem slg_setT {w : World} {b j : Nat} {u : Value} {es : List (Nat × List Nat)} {sv : Value} {cur : Array Value} {t : TypeId} {f : Nat × Nat} (h : SLg w es sv) (hb : w.heap[b]? = some (.cells cur t f)) (h1 : t ≠ 47) (h2 : t ≠ 5) : SLg (w.setCell ⟨b, j, none⟩ u) es sv := by
  refine slg_keep h (fun k cur' t' f' ht hk => ?_); refine set_oth j _ ?_ hk; rintro rfl; rw [hb] at hk; have h9 := Option.some.inj hk
  injection h9 with _ h8 _
  rcases ht with rfl | rfl
  · exact h1 h8
  · exact h2 h8
theorem rec_setT {w : World} {b j base : Nat} {u v : Value} {R : List Rc} {cur : Array Value} {t : TypeId} {f : Nat × Nat} (h : RecRow w base v R) (hb : w.heap[b]? = some (.cells cur t f)) (h1 : t ≠ 85) (h2 : t ≠ 5) : RecRow (w.setCell ⟨b, j, none⟩ u) base v R := by
  refine ⟨own1_setT h.1 hb h1, fun r hr => ⟨(h.2.1 r hr).1, ?_⟩, h.2.2⟩; have ho := (h.2.1 r hr).2; refine ho.of_block (heap_setCell_other w ⟨b, j, none⟩ r.g _ ?_); rintro hc; obtain ⟨-, c9, h9, -⟩ := ho; have hc' : r.g = b := hc; rw [hc', hb] at h9; have h8 := Option.some.inj h9
  injection h8 with _ h7 _
  exact h2 h7
end Go.Proofs.YtjnegjgpkboocaaGreatDoor
