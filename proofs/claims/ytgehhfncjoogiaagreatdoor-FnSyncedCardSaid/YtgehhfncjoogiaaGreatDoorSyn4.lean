/-
  Errs, ErrsA, Er, Er2
-/
import Derived.Test.YtgehhfncjoogiaaGreatDoorSyn1
import Derived.LaidEql
import Derived.Stop.Asserts
import Derived.RowKitTokens
import Derived.Test.YtgehhfncjoogiaaGreatDoorSyn3
namespace Go.Proofs.YtgehhfncjoogiaaGreatDoor
open Go.RowKit Go.Extern.Stop Go.Stop Go.Extern

theorem Tryz.isTypeOf (v : Value) (w : World) : (Extern.ReflectliteType.typeOf #[.iface 184 v]).run Tryz.prog w = .ok (.iface 132 (.agg #[.pointer (some ⟨14, 184, none⟩)])) w := by kernel_rfl
def cmpF : Array Value → Sem Value := Extern.ReflectliteType.method fun t => do Extern.Rtype.noPackHeld "Comparable" t; pure (.bool (← typeInfo t).comparable)
theorem Tryz.isComparable (w : World) : (cmpF #[.agg #[.pointer (some ⟨14, 184, none⟩)]]).run Tryz.prog w = .ok (.bool true) w := by kernel_rfl
theorem Tryz.isMethodComparable (v : Value) (w : World) : (Go.method 315 132 v "Comparable").run Tryz.prog w = .ok (120, v) w := by kernel_rfl
theorem Tryz.isComp : (Tryz.prog.info? 184).map (·.comparable) = some true := by kernel_rfl
theorem Tryz.isSize : (Tryz.prog.info? 204).map (·.size) = some 1 := by kernel_rfl
theorem Tryz.noIsE (v : Value) (xT : TypeId) (w : World) : (Instr.typeAssert (.iface 184 v) xT 144 true).run Tryz.prog w = .ok (.tuple #[.nilIface, .bool false]) w := run_typeAssert_lacksB Tryz.underlying144 (by kernel_rfl) (by kernel_rfl) v xT w
theorem Tryz.noUnwrapE (v : Value) (xT : TypeId) (w : World) : (Instr.typeAssert (.iface 184 v) xT 139 true).run Tryz.prog w = .ok (.tuple #[.nilIface, .bool false]) w := run_typeAssert_lacksB Tryz.underlying139 (by kernel_rfl) (by kernel_rfl) v xT w
theorem Tryz.noUnwrapsE (v : Value) (xT : TypeId) (w : World) : (Instr.typeAssert (.iface 184 v) xT 141 true).run Tryz.prog w = .ok (.tuple #[.nilIface, .bool false]) w := run_typeAssert_lacksB Tryz.underlying141 (by kernel_rfl) (by kernel_rfl) v xT w
set_option maxRecDepth 100000 in
set_option maxHeartbeats 1000000 in
theorem is_same (a : Addr) (w : World) :
    Calls Tryz.prog 52 #[.iface 184 (.pointer (some a)), .iface 184 (.pointer (some a))] w fun e w' => e = .returned (.bool true) ∧ w' = w := by
  obtain ⟨i, hi, hcmp⟩ := Option.map_eq_some_iff.1 Tryz.isComp; obtain ⟨j, hj, hjs⟩ := Option.map_eq_some_iff.1 Tryz.isSize; have h8 := @run_callFunc_extern Tryz.prog 61 _ Extern.ReflectliteType.typeOf Tryz.func61 (by kernel_rfl) (by kernel_rfl) (by kernel_rfl) (by kernel_rfl); have h32 := @run_callFunc_extern Tryz.prog 120 _ cmpF Tryz.func120 (by kernel_rfl) (by kernel_rfl) (by kernel_rfl) (by kernel_rfl); have tT := Tryz.isTypeOf; have cT := Tryz.isComparable; have mR := Tryz.isMethodComparable; have heq := run_eql_iface_ptr_same (P := Tryz.prog) w a Tryz.underlying78 Tryz.underlying184 hi hcmp hj
  go_enter Tryz.func52, Tryz.ntmps52
  go_wp2; refine wp_loop_rounds 1 ?_; rw [rounds_succ]; go_wp2; go_ret; exact ⟨rfl, rfl⟩
set_option maxRecDepth 100000 in
set_option maxHeartbeats 1000000 in
theorem is_other (a b : Addr) (ca cb : Array Value) (ta tb : TypeId) (w : World) (hne : a ≠ b) (ha : w.heap[a.block]? = some (.cells ca ta (0, 0))) (hb : w.heap[b.block]? = some (.cells cb tb (0, 0))) :
    Calls Tryz.prog 52 #[.iface 184 (.pointer (some a)), .iface 184 (.pointer (some b))] w fun e w' => e = .returned (.bool false) ∧ w' = w := by
  obtain ⟨i, hi, hcmp⟩ := Option.map_eq_some_iff.1 Tryz.isComp; obtain ⟨j, hj, hjs⟩ := Option.map_eq_some_iff.1 Tryz.isSize; have h8 := @run_callFunc_extern Tryz.prog 61 _ Extern.ReflectliteType.typeOf Tryz.func61 (by kernel_rfl) (by kernel_rfl) (by kernel_rfl) (by kernel_rfl); have h32 := @run_callFunc_extern Tryz.prog 120 _ cmpF Tryz.func120 (by kernel_rfl) (by kernel_rfl) (by kernel_rfl) (by kernel_rfl); have tT := Tryz.isTypeOf; have cT := Tryz.isComparable; have mR := Tryz.isMethodComparable; have nE := Tryz.noIsE; have uE := Tryz.noUnwrapE; have vE := Tryz.noUnwrapsE; have heq := run_eql_iface_ptr_other (P := Tryz.prog) w Tryz.underlying78 Tryz.underlying184 hi hcmp hj (by rw [hjs]; decide) hne ha hb
  go_enter Tryz.func52, Tryz.ntmps52
  go_wp2; refine wp_loop_rounds 1 ?_; rw [rounds_succ]; go_wp2; go_ret; exact ⟨rfl, rfl⟩
theorem as_nil (t : Value) (w : World) :
    Calls Tryz.prog 51 #[.nilIface, t] w fun e w' => e = .returned (.bool false) ∧ w' = w := by
  go_enter Tryz.func51, Tryz.ntmps51
  go_wp2; go_ret; exact ⟨rfl, rfl⟩
theorem Tryz.valueOfRR (t : Addr) (w : World) : (ReflectliteValue.unpack (.iface 98 (.pointer (some t)))).run Tryz.prog w
    = .ok (.agg #[.pointer (some ⟨14, 98, none⟩), .pointer (some ⟨w.heap.size, 0, none⟩), .int .u64 150]) (w.alloc (.cells #[.pointer (some t)] 98)) := by kernel_rfl
theorem Tryz.typeRR (a : Addr) (w : World) : (ReflectliteValue.methodAny (ReflectliteValue.valueError "reflectlite.Value.Type" 0) (fun t _ _ _ => ReflectliteType.toType t) #[.agg #[.pointer (some ⟨14, 98, none⟩), .pointer (some a), .int .u64 150]]).run Tryz.prog w
    = .ok (.iface 132 (.agg #[.pointer (some ⟨14, 98, none⟩)])) w := by kernel_rfl
theorem Tryz.methodKind (h : Value) (w : World) : (Go.method 315 132 (.agg #[h]) "Kind").run Tryz.prog w = .ok (109, h) w := by kernel_rfl
theorem Tryz.kindRR (w : World) : ((ReflectliteType.abiMethod fun t => Functor.map (fun a : Nat => Value.int IntKind.u8 (a : Int)) (Rtype.kind t)) #[.pointer (some ⟨14, 98, none⟩)]).run Tryz.prog w = .ok (.int .u8 22) w := by kernel_rfl
theorem Tryz.kindR (w : World) : ((ReflectliteType.abiMethod fun t => Functor.map (fun a : Nat => Value.int IntKind.u8 (a : Int)) (Rtype.kind t)) #[.pointer (some ⟨14, 96, none⟩)]).run Tryz.prog w = .ok (.int .u8 22) w := by kernel_rfl
theorem rlmE (z : Sem Value) (f : TypeId → Addr → Nat → Nat → Sem Value) (v : Value) :
    ReflectliteValue.method z f #[v] = (do match ← ReflectliteValue.parts v with | none => z | some (t, a, fl) => f t a fl (fl % 32)) := rfl
theorem Tryz.partsRR (a : Addr) (w : World) : (ReflectliteValue.parts (.agg #[.pointer (some ⟨14, 98, none⟩), .pointer (some a), .int .u64 150])).run Tryz.prog w = .ok (some (98, a, 150)) w := by kernel_rfl
theorem Tryz.isNilRR (a p : Addr) (W : World) (ha : W.cell? a = some (.pointer (some p))) :
    (ReflectliteValue.method (ReflectliteValue.valueError "reflectlite.Value.IsNil" 0) ReflectliteValue.isNil #[.agg #[.pointer (some ⟨14, 98, none⟩), .pointer (some a), .int .u64 150]]).run Tryz.prog W = .ok (.bool false) W := by
  rw [rlmE]; simp only [Sem.run_bind, Tryz.partsRR, Result.andThen]
  simp [ReflectliteValue.isNil, loadVar, isAgg, underlying, Tryz.underlying98, ha, Result.andThen]
theorem Tryz.methodElem (h : Value) (w : World) : (Go.method 315 132 (.agg #[h]) "Elem").run Tryz.prog w = .ok (121, .agg #[h]) w := by kernel_rfl
theorem Tryz.methodImplements (h : Value) (w : World) : (Go.method 315 132 (.agg #[h]) "Implements").run Tryz.prog w = .ok (122, .agg #[h]) w := by kernel_rfl
theorem Tryz.methodAssignableTo (h : Value) (w : World) : (Go.method 315 132 (.agg #[h]) "AssignableTo").run Tryz.prog w = .ok (119, .agg #[h]) w := by kernel_rfl
theorem Tryz.elemRR (w : World) : (ReflectliteType.method ReflectliteType.elem #[.agg #[.pointer (some ⟨14, 98, none⟩)]]).run Tryz.prog w = .ok (.iface 132 (.agg #[.pointer (some ⟨14, 96, none⟩)])) w := by kernel_rfl
theorem Tryz.implementsR (w : World) : (ReflectliteType.relation "Implements" ReflectliteType.implements_ #[.agg #[.pointer (some ⟨14, 96, none⟩)], .iface 132 (.agg #[.pointer (some ⟨14, 78, none⟩)])]).run Tryz.prog w = .ok (.bool true) w := by kernel_rfl
theorem Tryz.htypeOf25 (v : Value) (w : World) : (ReflectliteType.typeOf #[.iface 96 v]).run Tryz.prog w = .ok (.iface 132 (.agg #[.pointer (some ⟨14, 96, none⟩)])) w := by kernel_rfl
theorem Tryz.hassignable25 (w : World) : (ReflectliteType.relation "AssignableTo" ReflectliteType.assignableTo #[.agg #[.pointer (some ⟨14, 96, none⟩)], .iface 132 (.agg #[.pointer (some ⟨14, 96, none⟩)])]).run Tryz.prog w = .ok (.bool true) w := by kernel_rfl
theorem Tryz.hvalueOf25 (e : Addr) (w : World) : (ReflectliteValue.unpack (.iface 96 (.pointer (some e)))).run Tryz.prog w
    = .ok (.agg #[.pointer (some ⟨14, 96, none⟩), .pointer (some ⟨w.heap.size, 0, none⟩), .int .u64 150]) (w.alloc (.cells #[.pointer (some e)] 96)) := by kernel_rfl

theorem Tryz.helemOf27 (w : World) : (Rtype.elem? 98).run Tryz.prog w = .ok (some 96) w := by kernel_rfl
theorem Tryz.hmk25 (p : Addr) (w : World) : (ReflectliteValue.mk 96 p ReflectliteValue.flagAddr).run Tryz.prog w = .ok (.agg #[.pointer (some ⟨14, 96, none⟩), .pointer (some p), .int .u64 406]) w := by kernel_rfl
theorem Tryz.helemV27 (a p : Addr) (W : World) (ha : W.cell? a = some (.pointer (some p))) :
    (ReflectliteValue.method (ReflectliteValue.valueError "reflectlite.Value.Elem" 0) ReflectliteValue.elem #[.agg #[.pointer (some ⟨14, 98, none⟩), .pointer (some a), .int .u64 150]]).run Tryz.prog W
      = .ok (.agg #[.pointer (some ⟨14, 96, none⟩), .pointer (some p), .int .u64 406]) W := by
  rw [rlmE]; simp only [Sem.run_bind, Tryz.partsRR, Result.andThen]
  simp [ReflectliteValue.elem, loadVar, isAgg, underlying, Tryz.underlying98, ha, Result.andThen, Tryz.helemOf27, Tryz.hmk25]
theorem rls (v x : Value) : ReflectliteValue.set #[v, x] = (do
    let (some (dst, a, fl), some (src, b, _)) := (← ReflectliteValue.parts v, ← ReflectliteValue.parts x)
      | unsupported (.noEntry "extern/(internal/reflectlite.Value).Set.zeroValue")
    if fl / ReflectliteValue.flagAddr % 2 == 0 then unsupported (.noEntry "extern/(internal/reflectlite.Value).Set.unaddressable")
    let val ← loadVar src b
    if ← Rtype.directlyAssignable dst src then storeVar dst a val
    else if ← Rtype.implements dst src then
      if (← Rtype.kind src) == 20 then
        match val with
        | .nilIface => unsupported (.noEntry "extern/reflectlite: a nil value of one interface type handed on as a value of another")
        | _ => storeVar dst a val
      else storeVar dst a (.iface src val)
    else panicString ("reflectlite.Set: value of type " ++ (← Rtype.spelt src) ++ " is not assignable to type " ++ (← Rtype.spelt dst))
    pure (.tuple #[])) := rfl
theorem Tryz.hparts25a (a : Addr) (w : World) : (ReflectliteValue.parts (.agg #[.pointer (some ⟨14, 96, none⟩), .pointer (some a), .int .u64 406])).run Tryz.prog w = .ok (some (96, a, 406)) w := by kernel_rfl
theorem Tryz.hparts25 (a : Addr) (w : World) : (ReflectliteValue.parts (.agg #[.pointer (some ⟨14, 96, none⟩), .pointer (some a), .int .u64 150])).run Tryz.prog w = .ok (some (96, a, 150)) w := by kernel_rfl
theorem Tryz.hdirect25 (w : World) : (Rtype.directlyAssignable 96 96).run Tryz.prog w = .ok true w := by kernel_rfl
theorem Tryz.hset25 (ta b e : Addr) (old : Value) (W : World) (hb : W.cell? b = some (.pointer (some e))) (ht : W.cell? ta = some old) (hf : W.frozen? ta = false) :
    (ReflectliteValue.set #[.agg #[.pointer (some ⟨14, 96, none⟩), .pointer (some ta), .int .u64 406], .agg #[.pointer (some ⟨14, 96, none⟩), .pointer (some b), .int .u64 150]]).run Tryz.prog W
      = .ok (.tuple #[]) (W.setCell ta (.pointer (some e))) := by
  rw [rls]; simp only [Sem.run_bind, Tryz.hparts25a, Tryz.hparts25, Result.andThen]
  simp [ReflectliteValue.flagAddr, loadVar, isAgg, underlying, Tryz.underlying96, hb, Result.andThen, Tryz.hdirect25, storeVar, Value.cells, storeCells, Addr.add]
  rw [run_store Tryz.prog W ta _ _ (by rfl)]
  simp [ht, hf]

set_option maxHeartbeats 4000000 in
theorem as_hit (e t : Addr) (old : Value) (w : World) (hg : w.cell? ⟨13, 0, none⟩ = some (.iface 132 (.agg #[.pointer (some ⟨14, 78, none⟩)]))) (ht0 : w.cell? t = some old) (hf0 : w.frozen? t = false) :
    Calls Tryz.prog 51 #[.iface 96 (.pointer (some e)), .iface 98 (.pointer (some t))] w fun ev w' => ev = .returned (.bool true) ∧ w' = ((((w.alloc (.cells #[.pointer (some t)] 98)).alloc (.cells #[.pointer (some ⟨14, 98, none⟩), .pointer (some ⟨w.heap.size, 0, none⟩), .int .u64 150] 110)).alloc (.cells #[.pointer (some ⟨14, 98, none⟩), .pointer (some ⟨w.heap.size, 0, none⟩), .int .u64 150] 110)).alloc (.cells #[.pointer (some e)] 96)).setCell t (.pointer (some e)) := by
  have h6 := @run_callFunc_extern Tryz.prog 57 _ (fun args => ReflectliteValue.unpack (args.getD 0 (.tuple #[]))) Tryz.func57 (by kernel_rfl) (by kernel_rfl) (by kernel_rfl) (by kernel_rfl); have h7 := @run_callFunc_extern Tryz.prog 58 _ (ReflectliteValue.methodAny (ReflectliteValue.valueError "reflectlite.Value.Type" 0) (fun t _ _ _ => ReflectliteType.toType t)) Tryz.func58 (by kernel_rfl) (by kernel_rfl) (by kernel_rfl) (by kernel_rfl); have h8 := @run_callFunc_extern Tryz.prog 59 _ (ReflectliteValue.method (ReflectliteValue.valueError "reflectlite.Value.IsNil" 0) ReflectliteValue.isNil) Tryz.func59 (by kernel_rfl) (by kernel_rfl) (by kernel_rfl) (by kernel_rfl); have h27 := @run_callFunc_extern Tryz.prog 109 _ (ReflectliteType.abiMethod fun t => do pure (.int .u8 (← Rtype.kind t))) Tryz.func109 (by kernel_rfl) (by kernel_rfl) (by kernel_rfl) (by kernel_rfl); have h37 := @run_callFunc_extern Tryz.prog 121 _ (ReflectliteType.method ReflectliteType.elem) Tryz.func121 (by kernel_rfl) (by kernel_rfl) (by kernel_rfl) (by kernel_rfl); have h38 := @run_callFunc_extern Tryz.prog 122 _ (ReflectliteType.relation "Implements" ReflectliteType.implements_) Tryz.func122 (by kernel_rfl) (by kernel_rfl) (by kernel_rfl) (by kernel_rfl); have h10 := @run_callFunc_extern Tryz.prog 61 _ ReflectliteType.typeOf Tryz.func61 (by kernel_rfl) (by kernel_rfl) (by kernel_rfl) (by kernel_rfl); have h35 := @run_callFunc_extern Tryz.prog 119 _ (ReflectliteType.relation "AssignableTo" ReflectliteType.assignableTo) Tryz.func119 (by kernel_rfl) (by kernel_rfl) (by kernel_rfl) (by kernel_rfl); have h11 := @run_callFunc_extern Tryz.prog 70 _ (ReflectliteValue.method (ReflectliteValue.valueError "reflectlite.Value.Elem" 0) ReflectliteValue.elem) Tryz.func70 (by kernel_rfl) (by kernel_rfl) (by kernel_rfl) (by kernel_rfl); have h12 := @run_callFunc_extern Tryz.prog 71 _ ReflectliteValue.set Tryz.func71 (by kernel_rfl) (by kernel_rfl) (by kernel_rfl) (by kernel_rfl); have tO := Tryz.htypeOf25; have mA := Tryz.methodAssignableTo; have a25 := Tryz.hassignable25; have v25 := Tryz.hvalueOf25; have f6 := Tryz.valueOfRR; have f7 := Tryz.typeRR; have mK := Tryz.methodKind; have mE := Tryz.methodElem; have mI := Tryz.methodImplements; have k27 := Tryz.kindRR; have k25 := Tryz.kindR; have e27 := Tryz.elemRR; have i25 := Tryz.implementsR; have n8 := Tryz.isNilRR ⟨w.heap.size, 0, none⟩ t ((w.alloc (.cells #[.pointer (some t)] 98)).alloc (.cells #[.pointer (some ⟨14, 98, none⟩), .pointer (some ⟨w.heap.size, 0, none⟩), .int .u64 150] 110)) (by simp); have hlt : 13 < w.heap.size := cell_block_lt hg
  have hg2 : ((w.alloc (.cells #[.pointer (some t)] 98)).alloc (.cells #[.pointer (some ⟨14, 98, none⟩), .pointer (some ⟨w.heap.size, 0, none⟩), .int .u64 150] 110)).cell? ⟨13, 0, none⟩ = some (.iface 132 (.agg #[.pointer (some ⟨14, 78, none⟩)])) := by
    rw [World.cell?_alloc_lt _ _ ⟨13, 0, none⟩ (by simp; omega), World.cell?_alloc_lt _ _ ⟨13, 0, none⟩ hlt]; exact hg
  have htl : t.block < w.heap.size := cell_block_lt ht0; have el := Tryz.helemV27 ⟨w.heap.size, 0, none⟩ t (((w.alloc (.cells #[.pointer (some t)] 98)).alloc (.cells #[.pointer (some ⟨14, 98, none⟩), .pointer (some ⟨w.heap.size, 0, none⟩), .int .u64 150] 110)).alloc (.cells #[.pointer (some ⟨14, 98, none⟩), .pointer (some ⟨w.heap.size, 0, none⟩), .int .u64 150] 110)) (by rw [World.cell?_alloc_lt _ _ ⟨w.heap.size, 0, none⟩ (by simp; omega)]; simp); have st := Tryz.hset25 t ⟨w.heap.size + 1 + 1 + 1, 0, none⟩ e old ((((w.alloc (.cells #[.pointer (some t)] 98)).alloc (.cells #[.pointer (some ⟨14, 98, none⟩), .pointer (some ⟨w.heap.size, 0, none⟩), .int .u64 150] 110)).alloc (.cells #[.pointer (some ⟨14, 98, none⟩), .pointer (some ⟨w.heap.size, 0, none⟩), .int .u64 150] 110)).alloc (.cells #[.pointer (some e)] 96))
    (by rw [World.cell?_alloc_at _ _ _ _ (by simp)]; rfl)
    (by rw [World.cell?_alloc_lt _ _ t (by simp; omega), World.cell?_alloc_lt _ _ t (by simp; omega), World.cell?_alloc_lt _ _ t (by simp; omega), World.cell?_alloc_lt _ _ t htl]; exact ht0)
    (by rw [World.frozen?_alloc_old _ _ t (by simp; omega), World.frozen?_alloc_old _ _ t (by simp; omega), World.frozen?_alloc_old _ _ t (by simp; omega), World.frozen?_alloc_old _ _ t (Nat.ne_of_lt htl)]; exact hf0)
  go_enter Tryz.func51, Tryz.ntmps51
  go_wp2; refine wp_loop_rounds 1 ?_; rw [rounds_succ]; go_wp2; go_ret; exact ⟨rfl, rfl⟩
end Go.Proofs.YtgehhfncjoogiaaGreatDoor
namespace Go.Proofs.YtgehhfncjoogiaaGreatDoor
open Go.RowKit

structure ErrsAt (w : World) (B : Nat) (ad : Nat → Addr) : Prop where
  cell : ∀ k, k < 13 → w.cell? ⟨k, 0, none⟩ = some (.iface 184 (.pointer (some (ad k))))
  blk : ∀ k, k < 13 → ∃ ca ta, w.heap[(ad k).block]? = some (.cells ca ta (0, 0))
  far : ∀ j k, j < 13 → k < 13 → j ≠ k → ad j ≠ ad k
  typ : w.cell? ⟨13, 0, none⟩ = some (.iface 132 (.agg #[.pointer (some ⟨14, 78, none⟩)]))
  low : ∀ k, k < 13 → (ad k).block < B
  lowG : 14 ≤ B
theorem ErrsAt.to {w w' : World} {B : Nat} {ad : Nat → Addr} (h : ErrsAt w B ad) (hl : ∀ k, k < B → w'.heap[k]? = w.heap[k]?) : ErrsAt w' B ad := by
  have hG := h.lowG; refine ⟨fun k hk => (World.cell?_of_block (w := w) (a := ⟨k, 0, none⟩) (hl k (by omega))).trans (h.cell k hk), fun k hk => ?_, h.far, (World.cell?_of_block (w := w) (a := ⟨13, 0, none⟩) (hl 13 (by omega))).trans h.typ, h.low, h.lowG⟩; obtain ⟨ca, ta, hb⟩ := h.blk k hk; exact ⟨ca, ta, (hl _ (h.low k hk)).trans hb⟩
theorem ErrsAt.grown {w w' : World} {B : Nat} {ad : Nat → Addr} (h : ErrsAt w B ad) (hg : w.grownBy w' none) : ErrsAt w' B ad := by
  obtain ⟨hc, -⟩ := bcell hg; refine ⟨fun k hk => (hc _ _ (cell_block_lt (h.cell k hk))).trans (h.cell k hk), fun k hk => ?_, h.far, (hc _ _ (cell_block_lt h.typ)).trans h.typ, h.low, h.lowG⟩; obtain ⟨ca, ta, hb⟩ := h.blk k hk; exact ⟨ca, ta, (hg.block _ (Array.getElem?_eq_some_iff.1 hb).1 (by simp)).trans hb⟩
theorem ErrsAt.is_ {w : World} {B : Nat} {ad : Nat → Addr} (h : ErrsAt w B ad) (j k : Nat) (hj : j < 13) (hk : k < 13) :
    Calls Tryz.prog 52 #[.iface 184 (.pointer (some (ad j))), .iface 184 (.pointer (some (ad k)))] w fun e w' => (∃ b : Bool, e = .returned (.bool b)) ∧ w' = w := by
  by_cases hne : j = k
  · subst hne; refine (is_same (ad j) w).mono ?_; rintro e w' ⟨rfl, h2⟩; exact ⟨⟨_, rfl⟩, h2⟩
  · obtain ⟨ca, ta, ha⟩ := h.blk j hj; obtain ⟨cb, tb, hb⟩ := h.blk k hk; refine (is_other (ad j) (ad k) ca cb ta tb w (h.far j k hj hk hne) ha hb).mono ?_; rintro e w' ⟨rfl, h2⟩; exact ⟨⟨_, rfl⟩, h2⟩
def errV (ad : Nat → Addr) : Option Nat → Value
  | none => .nilIface
  | some j => .iface 184 (.pointer (some (ad j)))
def RefAt (w : World) (ad : Nat → Addr) (v : Value) : Prop := ∃ g j k nm, j < 13 ∧ v = .iface 96 (.pointer (some ⟨g, 0, none⟩)) ∧ w.heap[g]? = some (.cells #[.int .i64 k, .string nm, errV ad (some j)] 100 (0, 0))
set_option maxRecDepth 20000 in
theorem refuse_any (ad : Nat → Addr) (j : Nat) (hj : j < 13) (k a : Int) (nm tn : ByteArray) (dv : Value) (w : World) :
    Calls Tryz.prog 48 #[.agg #[.int .i64 k, .int .i64 a, .string nm, .string tn, dv], errV ad (some j)] w fun e w' => ∃ v, e = .returned v ∧ RefAt w' ad v ∧ w.grownBy w' none := by
  simp only [errV]
  go_enter Tryz.func48, Tryz.ntmps48
  go_wp2; go_ret; refine ⟨_, rfl, ⟨w.heap.size + 1, j, k, nm, hj, rfl, ?_⟩, grown_step (World.grownBy_alloc w _ none) (World.grownBy_alloc _ _ none) (by simp)⟩; have h9 := heap_alloc_new (w.alloc (.cells #[.int .i64 k, .int .i64 a, .string nm, .string tn, dv] 33)) (.cells #[.int .i64 k, .string nm, .iface 184 (.pointer (some (ad j)))] 100); rw [show (w.alloc (.cells #[.int .i64 k, .int .i64 a, .string nm, .string tn, dv] 33)).heap.size = w.heap.size + 1 by simp] at h9; exact h9
set_option maxRecDepth 100000 in
set_option maxHeartbeats 1000000 in
theorem codeOf_nil (w : World) :
    Calls Tryz.prog 33 #[.nilIface] w fun e w' => e = .returned (.int .i64 0) ∧ w.grownBy w' none := by
  go_enter Tryz.func33, Tryz.ntmps33
  go_wp2_with fail; refine (as_nil _ _).mono ?_; rintro e w1 ⟨rfl, hw1⟩; subst hw1; go_wp2; go_ret; refine ⟨rfl, ?_⟩
  repeat (first | exact grownBy_refl _ _ | apply grownBy_alloc)
set_option maxRecDepth 100000 in
set_option maxHeartbeats 4000000 in
theorem codeOf_ref (ad : Nat → Addr) (B : Nat) (v : Value) (w : World) (hE : ErrsAt w B ad) (hv : RefAt w ad v) :
    Calls Tryz.prog 33 #[v] w fun e w' => (∃ c : Int, e = .returned (.int .i64 c)) ∧ w.grownBy w' none := by
  obtain ⟨g, j, k, nm, hj, rfl, hg⟩ := hv; have hG := hE.grown (World.grownBy_alloc w (.cells #[.pointer none] 96) none); have hT := heap_alloc_new w (.cells #[.pointer none] 96); have HA : Hid (Calls _ _ _ _ _) := as_hit ⟨g, 0, none⟩ ⟨w.heap.size, 0, none⟩ (.pointer none) (w.alloc (.cells #[.pointer none] 96)) hG.typ ((zCr hT).trans rfl) (by simp only [World.frozen?]; rw [hT]; rfl); have HE : Hid (ErrsAt w B ad ∧ w.heap[g]? = some (.cells #[.int .i64 k, .string nm, errV ad (some j)] 100 (0, 0)) ∧ j < 13) := ⟨hE, hg, hj⟩; clear hE hG hT hg hj
  go_enter Tryz.func33, Tryz.ntmps33
  go_wp2_with fail; refine HA.out.mono ?_; rintro e w1 ⟨rfl, hw0⟩
  obtain ⟨X, hX, hw1⟩ : ∃ X, (w.alloc (.cells #[.pointer none] 96)).grownBy X none ∧ w1 = X.setCell ⟨w.heap.size, 0, none⟩ (.pointer (some ⟨g, 0, none⟩)) := by
    refine ⟨_, ?_, hw0⟩
    repeat (first | exact grownBy_refl _ _ | apply grownBy_alloc)
  have hg1 : w.grownBy w1 none := by
    rw [hw1]; exact grownBy_new (g := w.heap.size) (grownBy_trans (World.grownBy_alloc w _ none) hX) (grownBy_setCell (grownBy_refl _ _)) (Nat.le_refl _)
  have ht1 : w1.cell? ⟨w.heap.size, 0, none⟩ = some (.pointer (some ⟨g, 0, none⟩)) := by
    rw [hw1]; exact (zCr (heap_setCell_same X w.heap.size 0 _ _ _ (grown_blk hX (heap_alloc_new w _)))).trans rfl
  have hgb := grown_blk hg1 HE.out.2.1; have hc2 : w1.cell? ⟨g, 2, none⟩ = some (.iface 184 (.pointer (some (ad j)))) := (zCr hgb).trans rfl; have HE1 : Hid (ErrsAt w1 B ad ∧ w.grownBy w1 none) := ⟨HE.out.1.grown hg1, hg1⟩; have c0 := HE1.out.1.cell 0 (by decide); have c2 := HE1.out.1.cell 2 (by decide); have c3 := HE1.out.1.cell 3 (by decide); have c4 := HE1.out.1.cell 4 (by decide); have c5 := HE1.out.1.cell 5 (by decide); have c6 := HE1.out.1.cell 6 (by decide); have c7 := HE1.out.1.cell 7 (by decide); have c8 := HE1.out.1.cell 8 (by decide); have c9 := HE1.out.1.cell 9 (by decide); have c10 := HE1.out.1.cell 10 (by decide); have c11 := HE1.out.1.cell 11 (by decide); have c12 := HE1.out.1.cell 12 (by decide); clear hw0 hw1 hg1 hgb HA hX; go_wp2_with fail; refine (HE1.out.1.is_ j 2 HE.out.2.2 (by decide)).mono ?_; rintro e w' ⟨⟨b, rfl⟩, hw'⟩; subst hw'
  cases b
  case true =>
    go_wp2; go_ret; exact ⟨⟨_, rfl⟩, HE1.out.2⟩
  go_wp2_with fail; refine (HE1.out.1.is_ j 3 HE.out.2.2 (by decide)).mono ?_; rintro e w' ⟨⟨b, rfl⟩, hw'⟩; subst hw'
  cases b
  case true =>
    go_wp2; go_ret; exact ⟨⟨_, rfl⟩, HE1.out.2⟩
  go_wp2_with fail; refine (HE1.out.1.is_ j 4 HE.out.2.2 (by decide)).mono ?_; rintro e w' ⟨⟨b, rfl⟩, hw'⟩; subst hw'
  cases b
  case true =>
    go_wp2; go_ret; exact ⟨⟨_, rfl⟩, HE1.out.2⟩
  go_wp2_with fail; refine (HE1.out.1.is_ j 5 HE.out.2.2 (by decide)).mono ?_; rintro e w' ⟨⟨b, rfl⟩, hw'⟩; subst hw'
  cases b
  case true =>
    go_wp2; go_ret; exact ⟨⟨_, rfl⟩, HE1.out.2⟩
  go_wp2_with fail; refine (HE1.out.1.is_ j 6 HE.out.2.2 (by decide)).mono ?_; rintro e w' ⟨⟨b, rfl⟩, hw'⟩; subst hw'
  cases b
  case true =>
    go_wp2; go_ret; exact ⟨⟨_, rfl⟩, HE1.out.2⟩
  go_wp2_with fail; refine (HE1.out.1.is_ j 0 HE.out.2.2 (by decide)).mono ?_; rintro e w' ⟨⟨b, rfl⟩, hw'⟩; subst hw'
  cases b
  case true =>
    go_wp2; go_ret; exact ⟨⟨_, rfl⟩, HE1.out.2⟩
  go_wp2_with fail; refine (HE1.out.1.is_ j 7 HE.out.2.2 (by decide)).mono ?_; rintro e w' ⟨⟨b, rfl⟩, hw'⟩; subst hw'
  cases b
  case true =>
    go_wp2; go_ret; exact ⟨⟨_, rfl⟩, HE1.out.2⟩
  go_wp2_with fail; refine (HE1.out.1.is_ j 8 HE.out.2.2 (by decide)).mono ?_; rintro e w' ⟨⟨b, rfl⟩, hw'⟩; subst hw'
  cases b
  case true =>
    go_wp2; go_ret; exact ⟨⟨_, rfl⟩, HE1.out.2⟩
  go_wp2_with fail; refine (HE1.out.1.is_ j 9 HE.out.2.2 (by decide)).mono ?_; rintro e w' ⟨⟨b, rfl⟩, hw'⟩; subst hw'
  cases b
  case true =>
    go_wp2; go_ret; exact ⟨⟨_, rfl⟩, HE1.out.2⟩
  go_wp2_with fail; refine (HE1.out.1.is_ j 10 HE.out.2.2 (by decide)).mono ?_; rintro e w' ⟨⟨b, rfl⟩, hw'⟩; subst hw'
  cases b
  case true =>
    go_wp2; go_ret; exact ⟨⟨_, rfl⟩, HE1.out.2⟩
  go_wp2_with fail; refine (HE1.out.1.is_ j 11 HE.out.2.2 (by decide)).mono ?_; rintro e w' ⟨⟨b, rfl⟩, hw'⟩; subst hw'
  cases b
  case true =>
    go_wp2; go_ret; exact ⟨⟨_, rfl⟩, HE1.out.2⟩
  go_wp2_with fail; refine (HE1.out.1.is_ j 12 HE.out.2.2 (by decide)).mono ?_; rintro e w' ⟨⟨b, rfl⟩, hw'⟩; subst hw'
  cases b
  case true =>
    go_wp2; go_ret; exact ⟨⟨_, rfl⟩, HE1.out.2⟩
  go_wp2; go_ret; exact ⟨⟨_, rfl⟩, HE1.out.2⟩
end Go.Proofs.YtgehhfncjoogiaaGreatDoor
