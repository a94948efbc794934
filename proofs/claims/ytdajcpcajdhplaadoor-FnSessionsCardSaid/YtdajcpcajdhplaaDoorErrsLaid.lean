/-
  The errors that the rows list: that they lie, apart from one another (ErrsAt).
-/
import Derived.Test.YtdajcpcajdhplaaDoorCodeOf
import Derived.Test.YtdajcpcajdhplaaDoorRows
import Derived.Stop.LaidErr
import Derived.LaidHandle
import Derived.LaidLaws
namespace Go.Proofs.YtdajcpcajdhplaaDoor
open Go.ChangeShapes Go.WideShapes Go.RowKit

/-- sentinels of one type, however many: where each points, and that they are apart -/
theorem sentinels {P : Program} {W : World} {ti tp te ts : TypeId} {ms : Array (String × TypeId)} {f : Field} {nm : String} (hi : P.underlying ti = some (.interface ms)) (hrow : ∀ u, P.typeName? 3 u = some nm → u = tp)
    (hp : P.underlying tp = some (.pointer te)) (he : P.underlying te = some (.struct #[f])) (hft : f.type = ts) (hfo : f.offset = 0) (hs : P.underlying ts = some .string) (hc : P.cellsOf te = 1) (hcs : P.cellsOf ts = 1) :
    ∀ (l : List (String × List UInt8)) (ps : List MemPlace), DataW.LaidVars P W (l.map fun x => (x.1, .iface nm (.ptr (.agg [.lit (.string x.2)])))) ps → (∀ x ∈ l, ∃ g, P.globalNamed x.1 = some g ∧ (P.globals[g]?).map (·.type) = some ti) →
      (∀ b off, MemPlace.cell b off ∈ ps → (∃ c t, W.heap[b]? = some (.cells c t (0, 0))) ∧ ∀ u v, W.cell? ⟨b, off, none⟩ = some (.iface u v) → Value.okWide P W .any 0 u v) →
      ∃ ads : List Addr, ads.length = l.length ∧ (ads.map fun a => MemPlace.cell a.block a.off).Sublist ps ∧ ∀ (i : Nat) (x : String × List UInt8) (a : Addr), l[i]? = some x → ads[i]? = some a → W.var? P x.1 = some #[.iface tp (.pointer (some a))] ∧ ∃ c t, W.heap[a.block]? = some (.cells c t (0, 0)) := by
  intro l
  induction l with
  | nil => intro ps _ _ _; exact ⟨[], rfl, by simp, fun i x a h => by simp at h⟩
  | cons y l ih =>
    intro ps h hg hrows
    obtain ⟨g, t, cs, fuel, p, q, hg', ht', hv, hd, hr, rfl⟩ := h
    obtain ⟨g0, hg0, ht0⟩ := hg y (by simp)
    obtain rfl := Option.some.inj (hg0.symm.trans hg')
    obtain rfl := Option.some.inj (ht0.symm.trans ht')
    obtain ⟨lc⟩ := cs
    have ok : ∀ u v, lc = [.iface u v] → Value.okWide P W .any 0 u v := fun u v e => by
      subst e
      exact (hrows g0 0 (by simp [MemPlace.row])).2 u v (by simpa using World.var?_cell hg' hv 0)
    obtain ⟨a, s, rfl, hca, hsa, hza, rfl⟩ := errorString_of_trod hi hrow hp he hft hfo hs hc hcs hd ok
    obtain ⟨ads, h1, h2, h3⟩ := ih q hr (fun x hx => hg x (by simp [hx])) (fun b off hb => hrows b off (by simp [hb]))
    refine ⟨a :: ads, by simp [h1], ?_, fun i x b hx hb => ?_⟩
    · have e : MemPlace.row a 1 = [MemPlace.cell a.block a.off] := by simp [MemPlace.row]
      rw [e, List.map_cons, List.append_assoc]
      refine List.Sublist.trans ?_ (List.sublist_append_right _ _)
      exact List.Sublist.cons_cons _ h2
    · cases i with
      | zero =>
        simp at hx hb
        subst hx hb
        exact ⟨hv, (hrows a.block a.off (by simp [MemPlace.row])).1⟩
      | succ i => exact h3 i x b (by simpa using hx) (by simpa using hb)
def errList : List (String × List UInt8) :=
  [("loop.example/s01723/impl.errName", [110, 111, 116, 32, 97, 32, 103, 111, 111, 100, 32, 110, 97, 109, 101]),
    ("loop.example/s01723/impl.errNone", [110, 111, 32, 115, 117, 99, 104, 32, 102, 105, 108, 101]),
    ("loop.example/s01723/impl.errExist", [116, 104, 101, 32, 110, 97, 109, 101, 32, 105, 115, 32, 116, 97, 107, 101, 110]),
    ("loop.example/s01723/impl.errRange", [111, 117, 116, 32, 111, 102, 32, 114, 97, 110, 103, 101]),
    ("loop.example/s01723/impl.errFull", [110, 111, 32, 114, 111, 111, 109, 32, 105, 115, 32, 108, 101, 102, 116]),
    ("loop.example/s01723/impl.errPower", [116, 104, 101, 32, 112, 111, 119, 101, 114, 32, 105, 115, 32, 111, 102, 102]),
    ("loop.example/s01723/impl.errCorrupt", [110, 111, 32, 110, 111, 100, 101, 32, 104, 97, 115, 32, 108, 101, 102, 116, 32, 116, 104, 101, 115, 101, 32, 102, 105, 108, 101, 115]),
    ("loop.example/s01723/impl.errFailed", [116, 104, 101, 32, 110, 111, 100, 101, 32, 104, 97, 115, 32, 102, 97, 105, 108, 101, 100]),
    ("loop.example/s01723/impl.errDown", [116, 104, 101, 32, 110, 111, 100, 101, 32, 105, 115, 32, 100, 111, 119, 110]),
    ("loop.example/s01723/impl.errLeader", [110, 111, 116, 32, 102, 111, 114, 32, 97, 32, 110, 111, 100, 101, 32, 111, 102, 32, 116, 104, 97, 116, 32, 114, 111, 108, 101]),
    ("loop.example/s01723/impl.errBeyond", [116, 104, 101, 32, 112, 108, 97, 99, 101, 32, 105, 115, 32, 98, 101, 121, 111, 110, 100, 32, 116, 104, 101, 32, 108, 97, 115, 116, 32, 105, 116, 101, 109]),
    ("loop.example/s01723/impl.errCompacted", [116, 104, 101, 32, 105, 116, 101, 109, 32, 105, 115, 110, 39, 116, 32, 107, 101, 112, 116, 32, 97, 110, 121, 32, 109, 111, 114, 101])]
namespace ErrsLaid
theorem own : ownKnob Tryd.prog.godebug = none := by kernel_rfl
theorem laidOut : laidOutB Tryd.prog = true := by kernel_rfl
theorem star : "*" ++ "errors.errorString" = "*errors.errorString" := by decide
theorem rowES (u : TypeId) (h : Tryd.prog.typeName? 3 u = some "*errors.errorString") : u = 150 :=
  typeName_ptr_named (nm := "errors.errorString") (by rw [star]; kernel_rfl) (by kernel_rfl) (by decide) u (by rw [star]; exact h)
theorem cellsES : Tryd.prog.cellsOf 170 = 1 := by kernel_rfl
theorem cellsStr : Tryd.prog.cellsOf 9 = 1 := by kernel_rfl
theorem gerrName : Tryd.prog.globalNamed "loop.example/s01723/impl.errName" = some 2 := by kernel_rfl
theorem terrName : (Tryd.prog.globals[2]?).map (·.type) = some 69 := by kernel_rfl
theorem gerrNone : Tryd.prog.globalNamed "loop.example/s01723/impl.errNone" = some 3 := by kernel_rfl
theorem terrNone : (Tryd.prog.globals[3]?).map (·.type) = some 69 := by kernel_rfl
theorem gerrExist : Tryd.prog.globalNamed "loop.example/s01723/impl.errExist" = some 4 := by kernel_rfl
theorem terrExist : (Tryd.prog.globals[4]?).map (·.type) = some 69 := by kernel_rfl
theorem gerrRange : Tryd.prog.globalNamed "loop.example/s01723/impl.errRange" = some 0 := by kernel_rfl
theorem terrRange : (Tryd.prog.globals[0]?).map (·.type) = some 69 := by kernel_rfl
theorem gerrFull : Tryd.prog.globalNamed "loop.example/s01723/impl.errFull" = some 1 := by kernel_rfl
theorem terrFull : (Tryd.prog.globals[1]?).map (·.type) = some 69 := by kernel_rfl
theorem gerrPower : Tryd.prog.globalNamed "loop.example/s01723/impl.errPower" = some 5 := by kernel_rfl
theorem terrPower : (Tryd.prog.globals[5]?).map (·.type) = some 69 := by kernel_rfl
theorem gerrCorrupt : Tryd.prog.globalNamed "loop.example/s01723/impl.errCorrupt" = some 6 := by kernel_rfl
theorem terrCorrupt : (Tryd.prog.globals[6]?).map (·.type) = some 69 := by kernel_rfl
theorem gerrFailed : Tryd.prog.globalNamed "loop.example/s01723/impl.errFailed" = some 7 := by kernel_rfl
theorem terrFailed : (Tryd.prog.globals[7]?).map (·.type) = some 69 := by kernel_rfl
theorem gerrDown : Tryd.prog.globalNamed "loop.example/s01723/impl.errDown" = some 8 := by kernel_rfl
theorem terrDown : (Tryd.prog.globals[8]?).map (·.type) = some 69 := by kernel_rfl
theorem gerrLeader : Tryd.prog.globalNamed "loop.example/s01723/impl.errLeader" = some 9 := by kernel_rfl
theorem terrLeader : (Tryd.prog.globals[9]?).map (·.type) = some 69 := by kernel_rfl
theorem gerrBeyond : Tryd.prog.globalNamed "loop.example/s01723/impl.errBeyond" = some 10 := by kernel_rfl
theorem terrBeyond : (Tryd.prog.globals[10]?).map (·.type) = some 69 := by kernel_rfl
theorem gerrCompacted : Tryd.prog.globalNamed "loop.example/s01723/impl.errCompacted" = some 11 := by kernel_rfl
theorem terrCompacted : (Tryd.prog.globals[11]?).map (·.type) = some 69 := by kernel_rfl
theorem et : Tryd.prog.globalNamed "errors.errorType" = some 12 := by kernel_rfl
theorem rt : (Tryd.prog.cutTypes.find? (·.1 == "internal/reflectlite.rtype")).map (·.2) = some 134 := by kernel_rfl
theorem size : Tryd.prog.types.size = 182 := by kernel_rfl
theorem oneRow : ((List.range 182).filter fun t => Tryd.prog.rowNamed t [101, 114, 114, 111, 114]) = [69] := by kernel_rfl
theorem handle : typeHandle Tryd.prog 69 = .pointer (some ⟨13, 69, none⟩) := by kernel_rfl
theorem named : ∀ x ∈ errList, ∃ g, Tryd.prog.globalNamed x.1 = some g ∧ (Tryd.prog.globals[g]?).map (·.type) = some 69 := by
  intro x hx
  simp only [errList, List.mem_cons, List.not_mem_nil, or_false] at hx
  rcases hx with rfl | rfl | rfl | rfl | rfl | rfl | rfl | rfl | rfl | rfl | rfl | rfl
  · exact ⟨_, gerrName, terrName⟩
  · exact ⟨_, gerrNone, terrNone⟩
  · exact ⟨_, gerrExist, terrExist⟩
  · exact ⟨_, gerrRange, terrRange⟩
  · exact ⟨_, gerrFull, terrFull⟩
  · exact ⟨_, gerrPower, terrPower⟩
  · exact ⟨_, gerrCorrupt, terrCorrupt⟩
  · exact ⟨_, gerrFailed, terrFailed⟩
  · exact ⟨_, gerrDown, terrDown⟩
  · exact ⟨_, gerrLeader, terrLeader⟩
  · exact ⟨_, gerrBeyond, terrBeyond⟩
  · exact ⟨_, gerrCompacted, terrCompacted⟩

theorem errs {W : World} {l : List (String × DataW Unit)} (hl : l = ("errors.errorType", Rows.laid_errors_errorType) :: errList.map fun x => (x.1, .iface "*errors.errorString" (.ptr (.agg [.lit (.string x.2)])))) (h : laidMetH Tryd.prog l W) : ∃ ad, ErrsAt W ad := by
  subst hl
  have h' : laidMet Tryd.prog (errList.map fun x => (x.1, .iface "*errors.errorString" (.ptr (.agg [.lit (.string x.2)])))) W ∧ handlesMet Tryd.prog [("errors.errorType", Rows.laid_errors_errorType)] W := h
  obtain ⟨⟨ps, hlv, hnd, hrows⟩, hh⟩ := h'
  obtain ⟨ads, ha1, ha2, ha3⟩ := sentinels Tryd.underlying69 rowES Tryd.underlying150 Tryd.underlying170 rfl rfl Tryd.underlying9 cellsES cellsStr errList ps hlv named hrows
  have hl12 : ads.length = 12 := ha1
  have hnd2 : (ads.map fun a => MemPlace.cell a.block a.off).Nodup := ha2.nodup hnd
  have hget : ∀ i, i < 12 → ∃ a, ads[i]? = some a := fun i hi => ⟨_, List.getElem?_eq_getElem (by omega)⟩
  let pm : Nat → Nat := fun k => ([3, 4, 0, 1, 2, 5, 6, 7, 8, 9, 10, 11] : List Nat).getD k 0
  have hpm : ∀ k, k < 12 → pm k < 12 := by decide
  have hpi : ∀ j, j < 12 → ∀ k, k < 12 → pm j = pm k → j = k := by decide
  refine ⟨fun k => (ads[pm k]?).getD ⟨0, 0, none⟩, ⟨fun k hk => ?_, fun k hk => ?_, fun j k hj hk hjk e => ?_, ?_⟩⟩
  · obtain ⟨a, ha⟩ := hget (pm k) (hpm k hk)
    rw [ha]
    simp only [Option.getD_some]
    match k, hk with
    | 0, _ => simpa using World.var?_cell gerrRange (ha3 3 _ a rfl ha).1 0
    | 1, _ => simpa using World.var?_cell gerrFull (ha3 4 _ a rfl ha).1 0
    | 2, _ => simpa using World.var?_cell gerrName (ha3 0 _ a rfl ha).1 0
    | 3, _ => simpa using World.var?_cell gerrNone (ha3 1 _ a rfl ha).1 0
    | 4, _ => simpa using World.var?_cell gerrExist (ha3 2 _ a rfl ha).1 0
    | 5, _ => simpa using World.var?_cell gerrPower (ha3 5 _ a rfl ha).1 0
    | 6, _ => simpa using World.var?_cell gerrCorrupt (ha3 6 _ a rfl ha).1 0
    | 7, _ => simpa using World.var?_cell gerrFailed (ha3 7 _ a rfl ha).1 0
    | 8, _ => simpa using World.var?_cell gerrDown (ha3 8 _ a rfl ha).1 0
    | 9, _ => simpa using World.var?_cell gerrLeader (ha3 9 _ a rfl ha).1 0
    | 10, _ => simpa using World.var?_cell gerrBeyond (ha3 10 _ a rfl ha).1 0
    | 11, _ => simpa using World.var?_cell gerrCompacted (ha3 11 _ a rfl ha).1 0
  · obtain ⟨a, ha⟩ := hget (pm k) (hpm k hk)
    rw [ha]
    simp only [Option.getD_some]
    match k, hk with
    | 0, _ => exact (ha3 3 _ a rfl ha).2
    | 1, _ => exact (ha3 4 _ a rfl ha).2
    | 2, _ => exact (ha3 0 _ a rfl ha).2
    | 3, _ => exact (ha3 1 _ a rfl ha).2
    | 4, _ => exact (ha3 2 _ a rfl ha).2
    | 5, _ => exact (ha3 5 _ a rfl ha).2
    | 6, _ => exact (ha3 6 _ a rfl ha).2
    | 7, _ => exact (ha3 7 _ a rfl ha).2
    | 8, _ => exact (ha3 8 _ a rfl ha).2
    | 9, _ => exact (ha3 9 _ a rfl ha).2
    | 10, _ => exact (ha3 10 _ a rfl ha).2
    | 11, _ => exact (ha3 11 _ a rfl ha).2
  · obtain ⟨a, ha⟩ := hget (pm j) (hpm j hj)
    obtain ⟨b, hb⟩ := hget (pm k) (hpm k hk)
    simp only [ha, hb, Option.getD_some] at e
    subst e
    have hne : pm j ≠ pm k := fun h => hjk (hpi j hj k hk h)
    have e1 : (ads.map fun a => MemPlace.cell a.block a.off)[pm j]? = some (MemPlace.cell a.block a.off) := by rw [List.getElem?_map, ha]; rfl
    have e2 : (ads.map fun a => MemPlace.cell a.block a.off)[pm k]? = some (MemPlace.cell a.block a.off) := by rw [List.getElem?_map, hb]; rfl
    exact hne ((List.getElem?_inj (by rw [List.length_map, hl12]; exact hpm j hj) hnd2).1 (e1.trans e2.symm))
  · obtain ⟨name, u, ty, e1, e2, e3, e4, e5⟩ := hh _ (List.mem_singleton.2 rfl)
    have en : name = [101, 114, 114, 111, 114] := (Option.some.inj e1).symm
    subst en
    obtain rfl := Option.some.inj (rt.symm.trans e2)
    have hm : ty ∈ (List.range 182).filter fun t => Tryd.prog.rowNamed t [101, 114, 114, 111, 114] := List.mem_filter.2 ⟨List.mem_range.2 (by rw [← size]; exact e3), e4⟩
    rw [oneRow] at hm
    obtain rfl := List.mem_singleton.1 hm
    rw [handle] at e5
    simpa using World.var?_cell et e5 0
/-- the errors' variables can be read where they lie -/
theorem vars_ok {W : World} {ad : Nat → Addr} (hE : ErrsAt W ad) (ns : List String) (hns : ns = ["loop.example/s01723/impl.errRange", "loop.example/s01723/impl.errFull", "loop.example/s01723/impl.errExist", "loop.example/s01723/impl.errName", "loop.example/s01723/impl.errNone", "loop.example/s01723/impl.errPower", "loop.example/s01723/impl.errCorrupt", "loop.example/s01723/impl.errFailed", "loop.example/s01723/impl.errDown", "loop.example/s01723/impl.errLeader", "loop.example/s01723/impl.errBeyond", "loop.example/s01723/impl.errCompacted"]) : (ns.all fun n => match Tryd.prog.globalNamed n with
      | none => true
      | some g => decide (g < W.heap.size) && (match (Tryd.prog.globals[g]?).map (·.type) with
        | none => true
        | some t => Tryd.prog.readableRec t && decide (t < Tryd.prog.types.size))) = true := by
  subst hns
  have hr : Tryd.prog.readableRec 69 = true := by kernel_rfl
  have hlt : ∀ k, k < 12 → k < W.heap.size := fun k hk => cell_block_lt (hE.cell k hk)
  simp only [List.all_cons, List.all_nil, Bool.and_true, gerrName, terrName, gerrNone, terrNone, gerrExist, terrExist, gerrRange, terrRange, gerrFull, terrFull, gerrPower, terrPower, gerrCorrupt, terrCorrupt, gerrFailed, terrFailed, gerrDown, terrDown, gerrLeader, terrLeader, gerrBeyond, terrBeyond, gerrCompacted, terrCompacted, hr, size, Bool.true_and, Bool.and_eq_true, decide_eq_true_eq]
  exact ⟨⟨hlt 0 (by decide), by decide⟩, ⟨hlt 1 (by decide), by decide⟩, ⟨hlt 4 (by decide), by decide⟩, ⟨hlt 2 (by decide), by decide⟩, ⟨hlt 3 (by decide), by decide⟩, ⟨hlt 5 (by decide), by decide⟩, ⟨hlt 6 (by decide), by decide⟩, ⟨hlt 7 (by decide), by decide⟩, ⟨hlt 8 (by decide), by decide⟩, ⟨hlt 9 (by decide), by decide⟩, ⟨hlt 10 (by decide), by decide⟩, ⟨hlt 11 (by decide), by decide⟩⟩
theorem vars_len {H : Type} {enc : TypeId × Value → H} {P : Program} {W : World} {sp : Nat → Bool} : ∀ (ns : List String) (gs : List (DataW H)) (q : List MemPlace), DataW.TrodVars enc P W sp ns gs q → gs.length = ns.length := by
  intro ns
  induction ns with
  | nil => intro gs q h; obtain ⟨rfl, rfl⟩ := trodVars_none h; rfl
  | cons n ns ih =>
    intro gs q h
    cases gs with
    | nil => simp [DataW.TrodVars] at h
    | cons d ds =>
      obtain ⟨g, t, cs, fuel, p, q', h1, h2, h3, h4, hs, rfl⟩ := h
      simp [ih ds q' hs]
end ErrsLaid
end Go.Proofs.YtdajcpcajdhplaaDoor
