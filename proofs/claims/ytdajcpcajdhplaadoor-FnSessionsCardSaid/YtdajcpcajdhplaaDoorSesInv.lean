/-
  FnSessions: what lies while the items are applied.
-/
import Derived.Test.YtdajcpcajdhplaaDoorSesMath
import Derived.Test.YtdajcpcajdhplaaDoorCloneN
import Derived.Test.YtdajcpcajdhplaaDoorElRow
import Derived.Test.YtdajcpcajdhplaaDoorSmSv
import Derived.Test.YtdajcpcajdhplaaDoorDrawItem
import Derived.Test.YtdajcpcajdhplaaDoorEncI
import Derived.Test.YtdajcpcajdhplaaDoorItemBd
import Derived.Deep.AppendLies
namespace Go.Proofs.YtdajcpcajdhplaaDoor
open Go.RowKit

theorem wpList_append_lies {P : Program} {w : World} {ops : Array Oper} {rest : List Oper} {o : Oper} {a : Act} {Q : Exit → Act → World → Prop} (hgd : o.guard = none) (s x : Operand) (t : TypeId)
    (ho : o.op = .call { callee := .builtin .append, args := #[s, x], argTypes := #[t, t] }) (base : Nat) (e : TypeId) (i : TypeInfo) (z : Value) (size bytes : Nat) (ht : P.underlying t = some (.slice e)) (hi : P.info? e = some i) (hz : i.zero = some z)
    (hsize : i.size = size) (hby : i.bytes = bytes) (hzs : z.cells.size = size) (hsz : 0 < size) (v : Value) (n : Nat) (xs : List Value) (hs : a.eval s = v) (hown : w.ownsRow base e size v n xs)
    (ad : Addr) (m c : Nat) (news : List Value) (hx : a.eval x = .slice (some ad) m c) (hl : news.length = m * size) (hnews : ∀ j u, news[j]? = some u → w.cell? (ad.add j) = some u) (h1 : ∀ u ∈ news, u.oneCell' = true)
    (hm : 0 < m) (h63 : n + m ≤ maxLen) (hbytes : (n + m) * bytes ≤ 140737488355328) (hbase : base ≤ w.heap.size)
    (h : ∀ g' cap' w', w'.ownsRow base e size (.slice (some ⟨g', 0, none⟩) (n + m) cap') (n + m) (xs ++ news) → w.grownBy w' v.ownBlock → (v.ownBlock = some g' ∨ g' = w.heap.size) → wpList P ops Q rest (a.put o.dst (.slice (some ⟨g', 0, none⟩) (n + m) cap')) w') : wpList P ops Q (o :: rest) a w := by
  refine wpList_plain hgd fun K hK => ?_
  obtain ⟨g', cap', w', hrun, h2, h3, h4, -⟩ := run_append_lies (P := P) w t o.type base e i z size bytes ht hi hz hsize hby hzs hsz v n xs hown ad m c news hl hnews h1 hm h63 hbytes hbase w.heap.size rfl
  unfold Oper.wp
  simp [execOp, ho, resolve, invoke, builtin, hs, hx, hrun, Result.andThen]
  exact hK _ _ (h g' cap' w' h2 h3 h4)
theorem SvAt.notB {w : World} {v : Sv} {k : Nat} {c : Array Value} {t : TypeId} {f : Nat × Nat} (h : SvAt w v) (hk : w.heap[k]? = some (.cells c t f)) (h1 : t ≠ 32) (h2 : t ≠ 74) (h3 : t ≠ 5) : ¬ SvB v k := by
  have row : ∀ {t' : TypeId} {m g : Nat} {L : List El}, t ≠ t' → ElAt w t' m g L → g ≠ k := fun {t' m g L} hne hA e => by
    subst e
    obtain ⟨cur, hg, _⟩ := hA.row
    rw [hg] at hk
    simp only [Option.some.injEq, Obj.cells.injEq] at hk
    exact hne hk.2.1.symm
  have dat : ∀ {t' : TypeId} {m g : Nat} {L : List El}, ElAt w t' m g L → ∀ x ∈ L, x.o ≠ some k := fun {t' m g L} hA x hx e => by
    obtain ⟨i, hi⟩ := List.getElem?_of_mem hx
    exact h3 (own_type (ownS_blk (hA.own i x hi).2.1 e) hk).symm
  intro hb
  rcases hb with (hb | ⟨x, hx, e⟩) | (hb | ⟨x, hx, e⟩)
  · rcases h.kk with ⟨h0, _⟩ | ⟨g, h0, hA⟩
    · rw [h0] at hb; cases hb
    · rw [h0] at hb; exact row h1 hA (by simpa using hb)
  · rcases h.kk with ⟨_, _, h0⟩ | ⟨g, _, hA⟩
    · rw [h0] at hx; simp at hx
    · exact dat hA x hx e
  · rcases h.ss with ⟨h0, _⟩ | ⟨g, h0, hA⟩
    · rw [h0] at hb; cases hb
    · rw [h0] at hb; exact row h2 hA (by simpa using hb)
  · rcases h.ss with ⟨_, _, h0⟩ | ⟨g, _, hA⟩
    · rw [h0] at hx; simp at hx
    · exact dat hA x hx e
def svObj (v : Sv) : Obj := .cells #[.int .i64 v.b, .slice v.ko v.K.length v.kc, .slice v.so v.S.length v.sc] 28 (0, 0)
/-- memory: the source, the service in its box, the items given -/
structure SM (w wl : World) (zs : List Nat) (g bv : Nat) (v : Sv) (vg : Value) (G : List El) : Prop where
  gr : w.grownBy wl none
  src : Src wl g zs
  gl : w.heap.size ≤ g
  gb : g < bv
  box : wl.heap[bv]? = some (svObj v)
  full : SvFull wl v ∨ v = zeroSv
  row : wl.ownsRow (bv + 1) 32 3 vg G.length (G.flatMap El.cells)
  gd : ∀ x ∈ G, x.hd.length = 2 ∧ OwnS wl 5 (oad x.o) x.d.length x.d
  sep : ∀ k, vg.ownBlock = some k → ¬ SvB v k
theorem zero_at (w : World) : SvAt w zeroSv := ⟨.inl ⟨rfl, rfl, rfl⟩, .inl ⟨rfl, rfl, rfl⟩, by simp [zeroSv]⟩
theorem zero_noB (k : Nat) : ¬ SvB zeroSv k := by
  rintro ((h | ⟨x, hx, _⟩) | (h | ⟨x, hx, _⟩))
  · cases h
  · simp [zeroSv] at hx
  · cases h
  · simp [zeroSv] at hx
theorem SM.av {w wl : World} {zs : List Nat} {g bv : Nat} {v : Sv} {vg : Value} {G : List El} (h : SM w wl zs g bv v vg G) : SvAt wl v := by
  rcases h.full with h | rfl
  · exact h.at_
  · exact zero_at wl
theorem SvFull.apart {w w' : World} {T : Nat → Prop} {s : Sv} (h : SvFull w s) (hb : Only T w w') (hd : ∀ k, SvB s k → ¬ T k) : SvFull w' s := ⟨h.at_.apart hb hd, h.ks, h.ss, h.kb, h.sb⟩
theorem SM.slt {w wl : World} {zs : List Nat} {g bv : Nat} {v : Sv} {vg : Value} {G : List El} (h : SM w wl zs g bv v vg G) : bv < wl.heap.size := (Array.getElem?_eq_some_iff.1 h.box).1
theorem SM.cells {w wl : World} {zs : List Nat} {g bv : Nat} {v : Sv} {vg : Value} {G : List El} (h : SM w wl zs g bv v vg G) : wl.cell? ⟨bv, 0, none⟩ = some (.int .i64 v.b) ∧ wl.cell? ⟨bv, 1, none⟩ = some (.slice v.ko v.K.length v.kc) ∧ wl.cell? ⟨bv, 2, none⟩ = some (.slice v.so v.S.length v.sc) ∧ wl.frozen? ⟨bv, 0, none⟩ = false ∧ wl.frozen? ⟨bv, 1, none⟩ = false ∧ wl.frozen? ⟨bv, 2, none⟩ = false := by
  have := h.box
  simp [World.cell?, World.frozen?, this, svObj]
theorem SM.more {w wl wx : World} {zs : List Nat} {g bv : Nat} {v : Sv} {vg : Value} {G : List El} (h : SM w wl zs g bv v vg G) (hg : wl.grownBy wx none) : SM w wx zs g bv v vg G :=
  ⟨grownBy_trans h.gr hg, h.src.grown0 hg, h.gl, h.gb, (hg.block bv h.slt (by simp)).trans h.box, h.full.imp (fun h => h.grown0 hg) id, h.row.kept hg (by cases vg.ownBlock <;> simp), fun x hx => ⟨(h.gd x hx).1, (h.gd x hx).2.grown0 hg⟩, h.sep⟩
/-- a draw -/
theorem SM.drawn {w wl wx : World} {zs : List Nat} {g bv : Nat} {v : Sv} {vg : Value} {G : List El} (h : SM w wl zs g bv v vg G) (hg : wl.grownBy wx (some g)) (hs : Src wx g zs) : SM w wx zs g bv v vg G := by
  obtain ⟨_, _, _, _, _, hb, _⟩ := h.src
  have hgb := h.gb
  have hgl := h.gl
  refine ⟨grownBy_new h.gr hg h.gl, hs, h.gl, h.gb, (hg.block bv h.slt (by simp; omega)).trans h.box, ?_, h.row.kept hg ?_, fun x hx => ⟨(h.gd x hx).1, (h.gd x hx).2.grown hg (fun k e e2 => ?_)⟩, h.sep⟩
  · rcases h.full with hf | hz
    · exact .inl (hf.apart (Only.of (S := fun k => k = g) hg (fun k e => by simpa using e.symm)) (fun k hk e => by subst e; exact hf.at_.notB hb (by decide) (by decide) (by decide) hk))
    · exact .inr hz
  · cases hv : vg.ownBlock with
    | none => exact .inl rfl
    | some k => exact .inr fun e => by have := (h.row.lt k hv).1; simp only [Option.some.injEq] at e; omega
  · rw [blk_oad] at e
    have hk : k = g := by simpa using e2
    subst hk
    exact absurd (own_type (ownS_blk (h.gd x hx).2 e) hb) (by decide)
/-- another service in the box -/
theorem SM.put {w wl : World} {zs : List Nat} {g bv : Nat} {v r : Sv} {vg : Value} {G : List El} (h : SM w wl zs g bv v vg G) (hr : SvFull wl r) (hsep : ∀ k, vg.ownBlock = some k → ¬ SvB r k) :
    SM w (((wl.setCell ⟨bv, 0, none⟩ (.int .i64 r.b)).setCell ⟨bv, 1, none⟩ (.slice r.ko r.K.length r.kc)).setCell ⟨bv, 2, none⟩ (.slice r.so r.S.length r.sc)) zs g bv r vg G := by
  have hgb := h.gb
  have hgl := h.gl
  have hbox := h.box
  unfold svObj at hbox
  have hbn : ¬ SvB r bv := hr.at_.notB hbox (by decide) (by decide) (by decide)
  have O : Only (fun k => k = bv) wl (((wl.setCell ⟨bv, 0, none⟩ (.int .i64 r.b)).setCell ⟨bv, 1, none⟩ (.slice r.ko r.K.length r.kc)).setCell ⟨bv, 2, none⟩ (.slice r.so r.S.length r.sc)) := (((Only.refl (fun k => k = bv) wl).set bv 0 _ rfl).set bv 1 _ rfl).set bv 2 _ rfl
  have hg : wl.grownBy (((wl.setCell ⟨bv, 0, none⟩ (.int .i64 r.b)).setCell ⟨bv, 1, none⟩ (.slice r.ko r.K.length r.kc)).setCell ⟨bv, 2, none⟩ (.slice r.so r.S.length r.sc)) (some bv) := ⟨O.os, O.tape, O.output, O.size, fun k hk hne => O.block k hk (fun e => hne (by rw [e]))⟩
  refine ⟨grownBy_new h.gr hg (by omega), h.src.grown hg (fun r e => by simp only [Option.some.injEq] at e; omega), h.gl, h.gb, ?_, .inl (hr.apart O (fun k hk e => hbn (by rw [← e]; exact hk))), h.row.kept hg ?_, fun x hx => ⟨(h.gd x hx).1, (h.gd x hx).2.grown hg (fun k e e2 => ?_)⟩, hsep⟩
  · exact heap_setCell_same _ _ 2 _ _ _ (heap_setCell_same _ _ 1 _ _ _ (heap_setCell_same _ _ 0 _ _ _ hbox))
  · cases hv : vg.ownBlock with
    | none => exact .inl rfl
    | some k => exact .inr fun e => by have := (h.row.lt k hv).1; simp only [Option.some.injEq] at e; omega
  · rw [blk_oad] at e
    have hk : k = bv := by simpa using e2
    subst hk
    exact absurd (own_type (ownS_blk (h.gd x hx).2 e) hbox) (by decide)
/-- an item more is given -/
theorem SM.give {w wl wa : World} {zs : List Nat} {g bv gv n cap : Nat} {v : Sv} {vg : Value} {G : List El} {x : El} (h : SM w wl zs g bv v vg G) (hx : x.hd.length = 2 ∧ OwnS wl 5 (oad x.o) x.d.length x.d) (hn : G.length + 1 = n)
    (hown : wa.ownsRow (bv + 1) 32 3 (.slice (some ⟨gv, 0, none⟩) n cap) n (G.flatMap El.cells ++ x.cells)) (hg : wl.grownBy wa vg.ownBlock) (hat : vg.ownBlock = some gv ∨ gv = wl.heap.size) : SM w wa zs g bv v (.slice (some ⟨gv, 0, none⟩) n cap) (G ++ [x]) ∧ ∀ k, SvB v k → wa.heap[k]? = wl.heap[k]? := by
  have hgb := h.gb
  have hgl := h.gl
  subst hn
  have hbv : ∀ k, vg.ownBlock = some k → bv + 1 ≤ k ∧ k < wl.heap.size := fun k e => h.row.lt k e
  have hvB : ∀ k, SvB v k → some k ≠ vg.ownBlock := fun k hk e => h.sep k e.symm hk
  have htype : ∀ k, vg.ownBlock = some k → ∃ c f, wl.heap[k]? = some (.cells c 32 f) := fun k e => by
    rcases h.row.2 with ⟨h0, _⟩ | ⟨g', cap', cur, h0, _, hg', _⟩
    · rw [h0] at e; cases e
    · rw [h0] at e; simp only [Value.ownBlock, Option.some.injEq] at e; subst e; exact ⟨cur, _, hg'⟩
  have hOw : ∀ {y : El}, OwnS wl 5 (oad y.o) y.d.length y.d → OwnS wa 5 (oad y.o) y.d.length y.d := fun {y} hy => hy.grown hg (fun k e e2 => by
    rw [blk_oad] at e
    obtain ⟨c, f, ht⟩ := htype k e2.symm
    exact absurd (own_type (ownS_blk hy e) ht) (by decide))
  have hO : Only (fun k => vg.ownBlock = some k) wl wa := Only.of hg (fun k e => e)
  refine ⟨⟨grownBy_row h.gr hg (fun k e => by have := (hbv k e).1; omega), ?_, h.gl, h.gb, (hg.block bv h.slt (fun e => by have := (hbv bv e.symm).1; omega)).trans h.box, h.full.imp (fun hf => hf.apart hO (fun k hk e => hvB k hk e.symm)) id, by simpa using hown, fun y hy => ?_, fun k e => ?_⟩, fun k hk => hg.block k (h.av.lt k hk) (hvB k hk)⟩
  · cases hv : vg.ownBlock with
    | none => rw [hv] at hg; exact h.src.grown0 hg
    | some k => rw [hv] at hg; exact h.src.grown hg (fun r e => by simp only [Option.some.injEq] at e; have := (hbv k hv).1; omega)
  · rcases List.mem_append.1 hy with hy | hy
    · exact ⟨(h.gd y hy).1, hOw (h.gd y hy).2⟩
    · obtain rfl : y = x := by simpa using hy
      exact ⟨hx.1, hOw hx.2⟩
  · simp only [Value.ownBlock, Option.some.injEq] at e
    subst e
    rcases hat with hat | hat
    · exact h.sep gv hat
    · intro hk
      have := h.av.lt gv hk
      omega
/-- meaning: the service is that of the items given -/
structure SK (v : Sv) (G : List El) : Prop where
  kn : Kn G v.S
  vb : v.b = 0
  vk : v.K.map El.tell = G.map El.tell
  n : G.length ≤ 60
theorem SK.start : SK zeroSv [] := ⟨Kn.nil, rfl, rfl, by simp⟩
theorem SK.valid {v : Sv} {G : List El} (h : SK v G) : ValidV v.b v.K v.S := by
  rw [h.vb]
  exact h.kn.valid h.vk (by have := h.n; omega)
theorem SK.small {v : Sv} {G : List El} (h : SK v G) : SvSmall v := by
  have hV := h.valid
  have hl : v.K.length = G.length := by have := congrArg List.length h.vk; simpa using this
  have hn := h.n
  have hs : (v.S.length : Int) ≤ 50 - 0 := by
    have : ∀ (S : List El) (b : Int), b ≤ 50 → risesE b S → (∀ x ∈ S, x.c ≤ 50) → (S.length : Int) ≤ 50 - b := by
      intro S
      induction S with
      | nil => intro b hb _ _; simp; omega
      | cons y S ih =>
        intro b hb h hm
        have h1 := ih y.c (hm y (by simp)) h.2 (fun x hx => hm x (by simp [hx]))
        have h2 := h.1
        simp only [List.length_cons]
        omega
    exact this v.S 0 (by omega) hV.2.2.2.2.2 (fun x hx => by have h1 := (hV.2.2.2.2.1 x hx).1; unfold okE itemOk at h1; omega)
  refine ⟨by omega, by omega, fun x hx => ?_, fun x hx => ?_⟩
  · have h1 := hV.2.2.2.1 x hx; unfold okE itemOk at h1; omega
  · have h1 := (hV.2.2.2.2.1 x hx).1; unfold okE itemOk at h1; omega
theorem SM.clone {w wl : World} {zs : List Nat} {g bv : Nat} {v : Sv} {vg : Value} {G : List El} (h : SM w wl zs g bv v vg G) (hs : SvSmall v) : CloneAt v wl := by
  rcases h.full with hf | rfl
  · exact cloneAt_full hf hs
  · exact cloneAt_nil wl
/-- the program's Apply, on the service in the box -/
theorem ses_apply {w wl : World} {zs : List Nat} {g bv : Nat} {v : Sv} {vg : Value} {G : List El} (h : SM w wl zs g bv v vg G) (hk : SK v G) {ad : Nat → Addr} (hE : ErrsAt wl ad) (ys : List Nat) (gq len cap : Nat) (X : World) (hX : wl.grownBy X none) (hO : Own X 5 gq ys) (hl : ys.length = len) (hc : len ≤ cap) (hm : len ≤ 1073741824) :
    Calls Tryd.prog 13 #[.agg #[.int .i64 v.b, .slice v.ko v.K.length v.kc, .slice v.so v.S.length v.sc], .slice (some ⟨gq, 0, none⟩) len cap] X fun e w' => ∃ (r : Sv) (pl c : Int), e = .returned (.tuple #[.agg #[.int .i64 r.b, .slice r.ko r.K.length r.kc, .slice r.so r.S.length r.sc], .int .i64 pl, .int .i64 c]) ∧ Hid (r.b = 0 ∧ ApSays 0 v.K v.S ys pl c (r.K.map El.tell) (r.S.map El.tell) ∧ SvFull w' r ∧ (∀ k, SvB r k → X.heap.size ≤ k) ∧ X.grownBy w' none) := by
  have hx := h.more hX
  refine (implApply_gen v (some ⟨gq, 0, none⟩) len cap ys ad X (hE.grown hX) (hO.sl len hl) hc hm hx.av (hx.clone hk.small) hk.small hk.valid).mono ?_
  rintro e w' ⟨q, r, pl, c, rfl, hq, hb, hsay, hF, hB, hG⟩
  rw [hk.vb] at hb hsay
  exact ⟨r, pl, c, rfl, hb, hsay.tell (congrArg (fun t => t.2.1) hq) (congrArg (fun t => t.2.2) hq), hF, hB, hG⟩
end Go.Proofs.YtdajcpcajdhplaaDoor
