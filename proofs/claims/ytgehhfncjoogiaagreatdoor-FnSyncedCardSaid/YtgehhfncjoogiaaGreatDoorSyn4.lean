/-
  Errs, ErrsA, Er, Er2, BsN, GoodY, Dk24, Dk25
-/
import Derived.Test.YtgehhfncjoogiaaGreatDoorSyn1
import Derived.LaidEql
import Derived.Stop.Asserts
import Derived.RowKitTokens
import Derived.Test.YtgehhfncjoogiaaGreatDoorSyn3
import Derived.Test.YtgehhfncjoogiaaGreatDoorRows
import Derived.Laws.DeepStrings4
import Derived.Lib.Strings
import Derived.Deep.DeepCutAuto
import Derived.Deep.CutRange
namespace Go.Proofs.YtgehhfncjoogiaaGreatDoor
open Go.RowKit Go.Extern.Stop Go.Stop Go.Extern

theorem Tryz.isTypeOf (v : Value) (w : World) : (Extern.ReflectliteType.typeOf #[.iface 184 v]).run Tryz.prog w = .ok (.iface 132 (.agg #[.pointer (some ⟨14, 184, none⟩)])) w := by kernel_rfl
def cmpF : Array Value → Sem Value := Extern.ReflectliteType.method fun t => do Extern.Rtype.noPackHeld "Comparable" t; pure (.bool (← typeInfo t).comparable)
theorem Tryz.isComparable (w : World) : (cmpF #[.agg #[.pointer (some ⟨14, 184, none⟩)]]).run Tryz.prog w = .ok (.bool true) w := by kernel_rfl
theorem Tryz.isMethodComparable (v : Value) (w : World) : (Go.method 315 132 v "Comparable").run Tryz.prog w = .ok (120, v) w := by kernel_rfl
theorem Tryz.isComp : (Tryz.prog.info? 184).map (·.comparable) = some true := by kernel_rfl
theorem Tryz.isSize : (Tryz.prog.info? 204).map (·.size) = some 1 := by kernel_rfl
theorem Tryz.noIsE (v : Value) (xT : TypeId) (w : World) : (Instr.typeAssert (.iface 184 v) xT 144 true).run Tryz.prog w = .ok (.tuple #[.nilIface, .bool false]) w := run_typeAssert_lacksB Tryz.underlying144 (by kernel_rfl) (by kernel_rfl) v xT w
theorem Tryz.noUnwrapE (v : Value) (xT : TypeId) (w : World) : (Instr.typeAssert (.iface 184 v) xT 139 true).run Tryz.prog w = .ok (.tuple #[.nilIface, .bool false]) w := run_typeAssert_lacksB Tryz.underlying139 (by kernel_rfl) (by kernel_rfl) v xT w
theorem Tryz.noUnwrapsE (v : Value) (xT : TypeId) (w : World) : (Instr.typeAssert (.iface 184 v) xT 141 true).run Tryz.prog w = .ok (.tuple #[.nilIface, .bool false]) w := run_typeAssert_lacksB Tryz.underlying141 (by kernel_rfl) (by kernel_rfl) v xT w
set_option maxRecDepth 100000 in
set_option maxHeartbeats 1000000 in
theorem is_same (a : Addr) (w : World) :
    Calls Tryz.prog 52 #[.iface 184 (.pointer (some a)), .iface 184 (.pointer (some a))] w fun e w' => e = .returned (.bool true) ∧ w' = w := by
  obtain ⟨i, hi, hcmp⟩ := Option.map_eq_some_iff.1 Tryz.isComp; obtain ⟨j, hj, hjs⟩ := Option.map_eq_some_iff.1 Tryz.isSize; have h8 := @run_callFunc_extern Tryz.prog 61 _ Extern.ReflectliteType.typeOf Tryz.func61 (by kernel_rfl) (by kernel_rfl) (by kernel_rfl) (by kernel_rfl); have h32 := @run_callFunc_extern Tryz.prog 120 _ cmpF Tryz.func120 (by kernel_rfl) (by kernel_rfl) (by kernel_rfl) (by kernel_rfl); have tT := Tryz.isTypeOf; have cT := Tryz.isComparable; have mR := Tryz.isMethodComparable; have heq := run_eql_iface_ptr_same (P := Tryz.prog) w a Tryz.underlying78 Tryz.underlying184 hi hcmp hj
  go_enter Tryz.func52, Tryz.ntmps52
  go_wp2; refine wp_loop_rounds 1 ?_; rw [rounds_succ]; go_wp2; go_ret; exact ⟨rfl, rfl⟩
set_option maxRecDepth 100000 in
set_option maxHeartbeats 1000000 in
theorem is_other (a b : Addr) (ca cb : Array Value) (ta tb : TypeId) (w : World) (hne : a ≠ b) (ha : w.heap[a.block]? = some (.cells ca ta (0, 0))) (hb : w.heap[b.block]? = some (.cells cb tb (0, 0))) :
    Calls Tryz.prog 52 #[.iface 184 (.pointer (some a)), .iface 184 (.pointer (some b))] w fun e w' => e = .returned (.bool false) ∧ w' = w := by
  obtain ⟨i, hi, hcmp⟩ := Option.map_eq_some_iff.1 Tryz.isComp; obtain ⟨j, hj, hjs⟩ := Option.map_eq_some_iff.1 Tryz.isSize; have h8 := @run_callFunc_extern Tryz.prog 61 _ Extern.ReflectliteType.typeOf Tryz.func61 (by kernel_rfl) (by kernel_rfl) (by kernel_rfl) (by kernel_rfl); have h32 := @run_callFunc_extern Tryz.prog 120 _ cmpF Tryz.func120 (by kernel_rfl) (by kernel_rfl) (by kernel_rfl) (by kernel_rfl); have tT := Tryz.isTypeOf; have cT := Tryz.isComparable; have mR := Tryz.isMethodComparable; have nE := Tryz.noIsE; have uE := Tryz.noUnwrapE; have vE := Tryz.noUnwrapsE; have heq := run_eql_iface_ptr_other (P := Tryz.prog) w Tryz.underlying78 Tryz.underlying184 hi hcmp hj (by rw [hjs]; decide) hne ha hb
  go_enter Tryz.func52, Tryz.ntmps52
  go_wp2; refine wp_loop_rounds 1 ?_; rw [rounds_succ]; go_wp2; go_ret; exact ⟨rfl, rfl⟩
theorem as_nil (t : Value) (w : World) :
    Calls Tryz.prog 51 #[.nilIface, t] w fun e w' => e = .returned (.bool false) ∧ w' = w := by
  go_enter Tryz.func51, Tryz.ntmps51
  go_wp2; go_ret; exact ⟨rfl, rfl⟩
theorem Tryz.valueOfRR (t : Addr) (w : World) : (ReflectliteValue.unpack (.iface 98 (.pointer (some t)))).run Tryz.prog w
    = .ok (.agg #[.pointer (some ⟨14, 98, none⟩), .pointer (some ⟨w.heap.size, 0, none⟩), .int .u64 150]) (w.alloc (.cells #[.pointer (some t)] 98)) := by kernel_rfl
theorem Tryz.typeRR (a : Addr) (w : World) : (ReflectliteValue.methodAny (ReflectliteValue.valueError "reflectlite.Value.Type" 0) (fun t _ _ _ => ReflectliteType.toType t) #[.agg #[.pointer (some ⟨14, 98, none⟩), .pointer (some a), .int .u64 150]]).run Tryz.prog w
    = .ok (.iface 132 (.agg #[.pointer (some ⟨14, 98, none⟩)])) w := by kernel_rfl
theorem Tryz.methodKind (h : Value) (w : World) : (Go.method 315 132 (.agg #[h]) "Kind").run Tryz.prog w = .ok (109, h) w := by kernel_rfl
theorem Tryz.kindRR (w : World) : ((ReflectliteType.abiMethod fun t => (fun a : Nat => Value.int IntKind.u8 (a : Int)) <$> Rtype.kind t) #[.pointer (some ⟨14, 98, none⟩)]).run Tryz.prog w = .ok (.int .u8 22) w := by kernel_rfl
theorem Tryz.kindR (w : World) : ((ReflectliteType.abiMethod fun t => (fun a : Nat => Value.int IntKind.u8 (a : Int)) <$> Rtype.kind t) #[.pointer (some ⟨14, 96, none⟩)]).run Tryz.prog w = .ok (.int .u8 22) w := by kernel_rfl
theorem rlmE (z : Sem Value) (f : TypeId → Addr → Nat → Nat → Sem Value) (v : Value) :
    ReflectliteValue.method z f #[v] = (do match ← ReflectliteValue.parts v with | none => z | some (t, a, fl) => f t a fl (fl % 32)) := rfl
theorem Tryz.partsRR (a : Addr) (w : World) : (ReflectliteValue.parts (.agg #[.pointer (some ⟨14, 98, none⟩), .pointer (some a), .int .u64 150])).run Tryz.prog w = .ok (some (98, a, 150)) w := by kernel_rfl
theorem Tryz.isNilRR (a p : Addr) (W : World) (ha : W.cell? a = some (.pointer (some p))) :
    (ReflectliteValue.method (ReflectliteValue.valueError "reflectlite.Value.IsNil" 0) ReflectliteValue.isNil #[.agg #[.pointer (some ⟨14, 98, none⟩), .pointer (some a), .int .u64 150]]).run Tryz.prog W = .ok (.bool false) W := by
  rw [rlmE]; simp only [Sem.run_bind, Tryz.partsRR, Result.andThen]
  simp [ReflectliteValue.isNil, loadVar, isAgg, underlying, Tryz.underlying98, ha, Result.andThen]
theorem Tryz.methodElem (h : Value) (w : World) : (Go.method 315 132 (.agg #[h]) "Elem").run Tryz.prog w = .ok (121, .agg #[h]) w := by kernel_rfl
theorem Tryz.methodImplements (h : Value) (w : World) : (Go.method 315 132 (.agg #[h]) "Implements").run Tryz.prog w = .ok (122, .agg #[h]) w := by kernel_rfl
theorem Tryz.methodAssignableTo (h : Value) (w : World) : (Go.method 315 132 (.agg #[h]) "AssignableTo").run Tryz.prog w = .ok (119, .agg #[h]) w := by kernel_rfl
theorem Tryz.elemRR (w : World) : (ReflectliteType.method ReflectliteType.elem #[.agg #[.pointer (some ⟨14, 98, none⟩)]]).run Tryz.prog w = .ok (.iface 132 (.agg #[.pointer (some ⟨14, 96, none⟩)])) w := by kernel_rfl
theorem Tryz.implementsR (w : World) : (ReflectliteType.relation "Implements" ReflectliteType.implements_ #[.agg #[.pointer (some ⟨14, 96, none⟩)], .iface 132 (.agg #[.pointer (some ⟨14, 78, none⟩)])]).run Tryz.prog w = .ok (.bool true) w := by kernel_rfl
theorem Tryz.htypeOf25 (v : Value) (w : World) : (ReflectliteType.typeOf #[.iface 96 v]).run Tryz.prog w = .ok (.iface 132 (.agg #[.pointer (some ⟨14, 96, none⟩)])) w := by kernel_rfl
theorem Tryz.hassignable25 (w : World) : (ReflectliteType.relation "AssignableTo" ReflectliteType.assignableTo #[.agg #[.pointer (some ⟨14, 96, none⟩)], .iface 132 (.agg #[.pointer (some ⟨14, 96, none⟩)])]).run Tryz.prog w = .ok (.bool true) w := by kernel_rfl
theorem Tryz.hvalueOf25 (e : Addr) (w : World) : (ReflectliteValue.unpack (.iface 96 (.pointer (some e)))).run Tryz.prog w
    = .ok (.agg #[.pointer (some ⟨14, 96, none⟩), .pointer (some ⟨w.heap.size, 0, none⟩), .int .u64 150]) (w.alloc (.cells #[.pointer (some e)] 96)) := by kernel_rfl

theorem Tryz.helemOf27 (w : World) : (Rtype.elem? 98).run Tryz.prog w = .ok (some 96) w := by kernel_rfl
theorem Tryz.hmk25 (p : Addr) (w : World) : (ReflectliteValue.mk 96 p ReflectliteValue.flagAddr).run Tryz.prog w = .ok (.agg #[.pointer (some ⟨14, 96, none⟩), .pointer (some p), .int .u64 406]) w := by kernel_rfl
theorem Tryz.helemV27 (a p : Addr) (W : World) (ha : W.cell? a = some (.pointer (some p))) :
    (ReflectliteValue.method (ReflectliteValue.valueError "reflectlite.Value.Elem" 0) ReflectliteValue.elem #[.agg #[.pointer (some ⟨14, 98, none⟩), .pointer (some a), .int .u64 150]]).run Tryz.prog W
      = .ok (.agg #[.pointer (some ⟨14, 96, none⟩), .pointer (some p), .int .u64 406]) W := by
  rw [rlmE]; simp only [Sem.run_bind, Tryz.partsRR, Result.andThen]
  simp [ReflectliteValue.elem, loadVar, isAgg, underlying, Tryz.underlying98, ha, Result.andThen, Tryz.helemOf27, Tryz.hmk25]
theorem rls (v x : Value) : ReflectliteValue.set #[v, x] = (do
    let (some (dst, a, fl), some (src, b, _)) := (← ReflectliteValue.parts v, ← ReflectliteValue.parts x)
      | unsupported (.noEntry "extern/(internal/reflectlite.Value).Set.zeroValue")
    if fl / ReflectliteValue.flagAddr % 2 == 0 then unsupported (.noEntry "extern/(internal/reflectlite.Value).Set.unaddressable")
    let val ← loadVar src b
    if ← Rtype.directlyAssignable dst src then storeVar dst a val
    else if ← Rtype.implements dst src then
      if (← Rtype.kind src) == 20 then
        match val with
        | .nilIface => unsupported (.noEntry "extern/reflectlite: a nil value of one interface type handed on as a value of another")
        | _ => storeVar dst a val
      else storeVar dst a (.iface src val)
    else panicString ("reflectlite.Set: value of type " ++ (← Rtype.spelt src) ++ " is not assignable to type " ++ (← Rtype.spelt dst))
    pure (.tuple #[])) := rfl
theorem Tryz.hparts25a (a : Addr) (w : World) : (ReflectliteValue.parts (.agg #[.pointer (some ⟨14, 96, none⟩), .pointer (some a), .int .u64 406])).run Tryz.prog w = .ok (some (96, a, 406)) w := by kernel_rfl
theorem Tryz.hparts25 (a : Addr) (w : World) : (ReflectliteValue.parts (.agg #[.pointer (some ⟨14, 96, none⟩), .pointer (some a), .int .u64 150])).run Tryz.prog w = .ok (some (96, a, 150)) w := by kernel_rfl
theorem Tryz.hdirect25 (w : World) : (Rtype.directlyAssignable 96 96).run Tryz.prog w = .ok true w := by kernel_rfl
theorem Tryz.hset25 (ta b e : Addr) (old : Value) (W : World) (hb : W.cell? b = some (.pointer (some e))) (ht : W.cell? ta = some old) (hf : W.frozen? ta = false) :
    (ReflectliteValue.set #[.agg #[.pointer (some ⟨14, 96, none⟩), .pointer (some ta), .int .u64 406], .agg #[.pointer (some ⟨14, 96, none⟩), .pointer (some b), .int .u64 150]]).run Tryz.prog W
      = .ok (.tuple #[]) (W.setCell ta (.pointer (some e))) := by
  rw [rls]; simp only [Sem.run_bind, Tryz.hparts25a, Tryz.hparts25, Result.andThen]
  simp [ReflectliteValue.flagAddr, loadVar, isAgg, underlying, Tryz.underlying96, hb, Result.andThen, Tryz.hdirect25, storeVar, Value.cells, storeCells, Addr.add]
  rw [run_store Tryz.prog W ta _ _ (by rfl)]
  simp [ht, hf]

set_option maxHeartbeats 4000000 in
theorem as_hit (e t : Addr) (old : Value) (w : World) (hg : w.cell? ⟨13, 0, none⟩ = some (.iface 132 (.agg #[.pointer (some ⟨14, 78, none⟩)]))) (ht0 : w.cell? t = some old) (hf0 : w.frozen? t = false) :
    Calls Tryz.prog 51 #[.iface 96 (.pointer (some e)), .iface 98 (.pointer (some t))] w fun ev w' => ev = .returned (.bool true) ∧ w' = ((((w.alloc (.cells #[.pointer (some t)] 98)).alloc (.cells #[.pointer (some ⟨14, 98, none⟩), .pointer (some ⟨w.heap.size, 0, none⟩), .int .u64 150] 110)).alloc (.cells #[.pointer (some ⟨14, 98, none⟩), .pointer (some ⟨w.heap.size, 0, none⟩), .int .u64 150] 110)).alloc (.cells #[.pointer (some e)] 96)).setCell t (.pointer (some e)) := by
  have h6 := @run_callFunc_extern Tryz.prog 57 _ (fun args => ReflectliteValue.unpack (args.getD 0 (.tuple #[]))) Tryz.func57 (by kernel_rfl) (by kernel_rfl) (by kernel_rfl) (by kernel_rfl); have h7 := @run_callFunc_extern Tryz.prog 58 _ (ReflectliteValue.methodAny (ReflectliteValue.valueError "reflectlite.Value.Type" 0) (fun t _ _ _ => ReflectliteType.toType t)) Tryz.func58 (by kernel_rfl) (by kernel_rfl) (by kernel_rfl) (by kernel_rfl); have h8 := @run_callFunc_extern Tryz.prog 59 _ (ReflectliteValue.method (ReflectliteValue.valueError "reflectlite.Value.IsNil" 0) ReflectliteValue.isNil) Tryz.func59 (by kernel_rfl) (by kernel_rfl) (by kernel_rfl) (by kernel_rfl); have h27 := @run_callFunc_extern Tryz.prog 109 _ (ReflectliteType.abiMethod fun t => do pure (.int .u8 (← Rtype.kind t))) Tryz.func109 (by kernel_rfl) (by kernel_rfl) (by kernel_rfl) (by kernel_rfl); have h37 := @run_callFunc_extern Tryz.prog 121 _ (ReflectliteType.method ReflectliteType.elem) Tryz.func121 (by kernel_rfl) (by kernel_rfl) (by kernel_rfl) (by kernel_rfl); have h38 := @run_callFunc_extern Tryz.prog 122 _ (ReflectliteType.relation "Implements" ReflectliteType.implements_) Tryz.func122 (by kernel_rfl) (by kernel_rfl) (by kernel_rfl) (by kernel_rfl); have h10 := @run_callFunc_extern Tryz.prog 61 _ ReflectliteType.typeOf Tryz.func61 (by kernel_rfl) (by kernel_rfl) (by kernel_rfl) (by kernel_rfl); have h35 := @run_callFunc_extern Tryz.prog 119 _ (ReflectliteType.relation "AssignableTo" ReflectliteType.assignableTo) Tryz.func119 (by kernel_rfl) (by kernel_rfl) (by kernel_rfl) (by kernel_rfl); have h11 := @run_callFunc_extern Tryz.prog 70 _ (ReflectliteValue.method (ReflectliteValue.valueError "reflectlite.Value.Elem" 0) ReflectliteValue.elem) Tryz.func70 (by kernel_rfl) (by kernel_rfl) (by kernel_rfl) (by kernel_rfl); have h12 := @run_callFunc_extern Tryz.prog 71 _ ReflectliteValue.set Tryz.func71 (by kernel_rfl) (by kernel_rfl) (by kernel_rfl) (by kernel_rfl); have tO := Tryz.htypeOf25; have mA := Tryz.methodAssignableTo; have a25 := Tryz.hassignable25; have v25 := Tryz.hvalueOf25; have f6 := Tryz.valueOfRR; have f7 := Tryz.typeRR; have mK := Tryz.methodKind; have mE := Tryz.methodElem; have mI := Tryz.methodImplements; have k27 := Tryz.kindRR; have k25 := Tryz.kindR; have e27 := Tryz.elemRR; have i25 := Tryz.implementsR; have n8 := Tryz.isNilRR ⟨w.heap.size, 0, none⟩ t ((w.alloc (.cells #[.pointer (some t)] 98)).alloc (.cells #[.pointer (some ⟨14, 98, none⟩), .pointer (some ⟨w.heap.size, 0, none⟩), .int .u64 150] 110)) (by simp); have hlt : 13 < w.heap.size := cell_block_lt hg
  have hg2 : ((w.alloc (.cells #[.pointer (some t)] 98)).alloc (.cells #[.pointer (some ⟨14, 98, none⟩), .pointer (some ⟨w.heap.size, 0, none⟩), .int .u64 150] 110)).cell? ⟨13, 0, none⟩ = some (.iface 132 (.agg #[.pointer (some ⟨14, 78, none⟩)])) := by
    rw [World.cell?_alloc_lt _ _ ⟨13, 0, none⟩ (by simp; omega), World.cell?_alloc_lt _ _ ⟨13, 0, none⟩ hlt]; exact hg
  have htl : t.block < w.heap.size := cell_block_lt ht0; have el := Tryz.helemV27 ⟨w.heap.size, 0, none⟩ t (((w.alloc (.cells #[.pointer (some t)] 98)).alloc (.cells #[.pointer (some ⟨14, 98, none⟩), .pointer (some ⟨w.heap.size, 0, none⟩), .int .u64 150] 110)).alloc (.cells #[.pointer (some ⟨14, 98, none⟩), .pointer (some ⟨w.heap.size, 0, none⟩), .int .u64 150] 110)) (by rw [World.cell?_alloc_lt _ _ ⟨w.heap.size, 0, none⟩ (by simp; omega)]; simp); have st := Tryz.hset25 t ⟨w.heap.size + 1 + 1 + 1, 0, none⟩ e old ((((w.alloc (.cells #[.pointer (some t)] 98)).alloc (.cells #[.pointer (some ⟨14, 98, none⟩), .pointer (some ⟨w.heap.size, 0, none⟩), .int .u64 150] 110)).alloc (.cells #[.pointer (some ⟨14, 98, none⟩), .pointer (some ⟨w.heap.size, 0, none⟩), .int .u64 150] 110)).alloc (.cells #[.pointer (some e)] 96))
    (by rw [World.cell?_alloc_at _ _ _ _ (by simp)]; rfl)
    (by rw [World.cell?_alloc_lt _ _ t (by simp; omega), World.cell?_alloc_lt _ _ t (by simp; omega), World.cell?_alloc_lt _ _ t (by simp; omega), World.cell?_alloc_lt _ _ t htl]; exact ht0)
    (by rw [World.frozen?_alloc_old _ _ t (by simp; omega), World.frozen?_alloc_old _ _ t (by simp; omega), World.frozen?_alloc_old _ _ t (by simp; omega), World.frozen?_alloc_old _ _ t (Nat.ne_of_lt htl)]; exact hf0)
  go_enter Tryz.func51, Tryz.ntmps51
  go_wp2; refine wp_loop_rounds 1 ?_; rw [rounds_succ]; go_wp2; go_ret; exact ⟨rfl, rfl⟩
end Go.Proofs.YtgehhfncjoogiaaGreatDoor
namespace Go.Proofs.YtgehhfncjoogiaaGreatDoor
open Go.RowKit

structure ErrsAt (w : World) (B : Nat) (ad : Nat → Addr) : Prop where
  cell : ∀ k, k < 13 → w.cell? ⟨k, 0, none⟩ = some (.iface 184 (.pointer (some (ad k))))
  blk : ∀ k, k < 13 → ∃ ca ta, w.heap[(ad k).block]? = some (.cells ca ta (0, 0))
  far : ∀ j k, j < 13 → k < 13 → j ≠ k → ad j ≠ ad k
  typ : w.cell? ⟨13, 0, none⟩ = some (.iface 132 (.agg #[.pointer (some ⟨14, 78, none⟩)]))
  low : ∀ k, k < 13 → (ad k).block < B
  lowG : 14 ≤ B
theorem ErrsAt.to {w w' : World} {B : Nat} {ad : Nat → Addr} (h : ErrsAt w B ad) (hl : ∀ k, k < B → w'.heap[k]? = w.heap[k]?) : ErrsAt w' B ad := by
  have hG := h.lowG; refine ⟨fun k hk => (World.cell?_of_block (w := w) (a := ⟨k, 0, none⟩) (hl k (by omega))).trans (h.cell k hk), fun k hk => ?_, h.far, (World.cell?_of_block (w := w) (a := ⟨13, 0, none⟩) (hl 13 (by omega))).trans h.typ, h.low, h.lowG⟩; obtain ⟨ca, ta, hb⟩ := h.blk k hk; exact ⟨ca, ta, (hl _ (h.low k hk)).trans hb⟩
theorem ErrsAt.grown {w w' : World} {B : Nat} {ad : Nat → Addr} (h : ErrsAt w B ad) (hg : w.grownBy w' none) : ErrsAt w' B ad := by
  obtain ⟨hc, -⟩ := bcell hg; refine ⟨fun k hk => (hc _ _ (cell_block_lt (h.cell k hk))).trans (h.cell k hk), fun k hk => ?_, h.far, (hc _ _ (cell_block_lt h.typ)).trans h.typ, h.low, h.lowG⟩; obtain ⟨ca, ta, hb⟩ := h.blk k hk; exact ⟨ca, ta, (hg.block _ (Array.getElem?_eq_some_iff.1 hb).1 (by simp)).trans hb⟩
theorem ErrsAt.is_ {w : World} {B : Nat} {ad : Nat → Addr} (h : ErrsAt w B ad) (j k : Nat) (hj : j < 13) (hk : k < 13) :
    Calls Tryz.prog 52 #[.iface 184 (.pointer (some (ad j))), .iface 184 (.pointer (some (ad k)))] w fun e w' => (∃ b : Bool, e = .returned (.bool b)) ∧ w' = w := by
  by_cases hne : j = k
  · subst hne; refine (is_same (ad j) w).mono ?_; rintro e w' ⟨rfl, h2⟩; exact ⟨⟨_, rfl⟩, h2⟩
  · obtain ⟨ca, ta, ha⟩ := h.blk j hj; obtain ⟨cb, tb, hb⟩ := h.blk k hk; refine (is_other (ad j) (ad k) ca cb ta tb w (h.far j k hj hk hne) ha hb).mono ?_; rintro e w' ⟨rfl, h2⟩; exact ⟨⟨_, rfl⟩, h2⟩
def errV (ad : Nat → Addr) : Option Nat → Value
  | none => .nilIface
  | some j => .iface 184 (.pointer (some (ad j)))
def RefAt (w : World) (ad : Nat → Addr) (v : Value) : Prop := ∃ g j k nm, j < 13 ∧ v = .iface 96 (.pointer (some ⟨g, 0, none⟩)) ∧ w.heap[g]? = some (.cells #[.int .i64 k, .string nm, errV ad (some j)] 100 (0, 0))
set_option maxRecDepth 20000 in
theorem refuse_any (ad : Nat → Addr) (j : Nat) (hj : j < 13) (k a : Int) (nm tn : ByteArray) (dv : Value) (w : World) :
    Calls Tryz.prog 48 #[.agg #[.int .i64 k, .int .i64 a, .string nm, .string tn, dv], errV ad (some j)] w fun e w' => ∃ v, e = .returned v ∧ RefAt w' ad v ∧ w.grownBy w' none := by
  simp only [errV]
  go_enter Tryz.func48, Tryz.ntmps48
  go_wp2; go_ret; refine ⟨_, rfl, ⟨w.heap.size + 1, j, k, nm, hj, rfl, ?_⟩, grown_step (World.grownBy_alloc w _ none) (World.grownBy_alloc _ _ none) (by simp)⟩; have h9 := heap_alloc_new (w.alloc (.cells #[.int .i64 k, .int .i64 a, .string nm, .string tn, dv] 33)) (.cells #[.int .i64 k, .string nm, .iface 184 (.pointer (some (ad j)))] 100); rw [show (w.alloc (.cells #[.int .i64 k, .int .i64 a, .string nm, .string tn, dv] 33)).heap.size = w.heap.size + 1 by simp] at h9; exact h9
set_option maxRecDepth 100000 in
set_option maxHeartbeats 1000000 in
theorem codeOf_nil (w : World) :
    Calls Tryz.prog 33 #[.nilIface] w fun e w' => e = .returned (.int .i64 0) ∧ w.grownBy w' none := by
  go_enter Tryz.func33, Tryz.ntmps33
  go_wp2_with fail; refine (as_nil _ _).mono ?_; rintro e w1 ⟨rfl, hw1⟩; subst hw1; go_wp2; go_ret; refine ⟨rfl, ?_⟩
  repeat (first | exact grownBy_refl _ _ | apply grownBy_alloc)
set_option maxRecDepth 100000 in
set_option maxHeartbeats 4000000 in
theorem codeOf_ref (ad : Nat → Addr) (B : Nat) (v : Value) (w : World) (hE : ErrsAt w B ad) (hv : RefAt w ad v) :
    Calls Tryz.prog 33 #[v] w fun e w' => (∃ c : Int, e = .returned (.int .i64 c)) ∧ w.grownBy w' none := by
  obtain ⟨g, j, k, nm, hj, rfl, hg⟩ := hv; have hG := hE.grown (World.grownBy_alloc w (.cells #[.pointer none] 96) none); have hT := heap_alloc_new w (.cells #[.pointer none] 96); have HA : Hid (Calls _ _ _ _ _) := as_hit ⟨g, 0, none⟩ ⟨w.heap.size, 0, none⟩ (.pointer none) (w.alloc (.cells #[.pointer none] 96)) hG.typ ((zCr hT).trans rfl) (by simp only [World.frozen?]; rw [hT]; rfl); have HE : Hid (ErrsAt w B ad ∧ w.heap[g]? = some (.cells #[.int .i64 k, .string nm, errV ad (some j)] 100 (0, 0)) ∧ j < 13) := ⟨hE, hg, hj⟩; clear hE hG hT hg hj
  go_enter Tryz.func33, Tryz.ntmps33
  go_wp2_with fail; refine HA.out.mono ?_; rintro e w1 ⟨rfl, hw0⟩
  obtain ⟨X, hX, hw1⟩ : ∃ X, (w.alloc (.cells #[.pointer none] 96)).grownBy X none ∧ w1 = X.setCell ⟨w.heap.size, 0, none⟩ (.pointer (some ⟨g, 0, none⟩)) := by
    refine ⟨_, ?_, hw0⟩
    repeat (first | exact grownBy_refl _ _ | apply grownBy_alloc)
  have hg1 : w.grownBy w1 none := by
    rw [hw1]; exact grownBy_new (g := w.heap.size) (grownBy_trans (World.grownBy_alloc w _ none) hX) (grownBy_setCell (grownBy_refl _ _)) (Nat.le_refl _)
  have ht1 : w1.cell? ⟨w.heap.size, 0, none⟩ = some (.pointer (some ⟨g, 0, none⟩)) := by
    rw [hw1]; exact (zCr (heap_setCell_same X w.heap.size 0 _ _ _ (grown_blk hX (heap_alloc_new w _)))).trans rfl
  have hgb := grown_blk hg1 HE.out.2.1; have hc2 : w1.cell? ⟨g, 2, none⟩ = some (.iface 184 (.pointer (some (ad j)))) := (zCr hgb).trans rfl; have HE1 : Hid (ErrsAt w1 B ad ∧ w.grownBy w1 none) := ⟨HE.out.1.grown hg1, hg1⟩; have c0 := HE1.out.1.cell 0 (by decide); have c2 := HE1.out.1.cell 2 (by decide); have c3 := HE1.out.1.cell 3 (by decide); have c4 := HE1.out.1.cell 4 (by decide); have c5 := HE1.out.1.cell 5 (by decide); have c6 := HE1.out.1.cell 6 (by decide); have c7 := HE1.out.1.cell 7 (by decide); have c8 := HE1.out.1.cell 8 (by decide); have c9 := HE1.out.1.cell 9 (by decide); have c10 := HE1.out.1.cell 10 (by decide); have c11 := HE1.out.1.cell 11 (by decide); have c12 := HE1.out.1.cell 12 (by decide); clear hw0 hw1 hg1 hgb HA hX; go_wp2_with fail; refine (HE1.out.1.is_ j 2 HE.out.2.2 (by decide)).mono ?_; rintro e w' ⟨⟨b, rfl⟩, hw'⟩; subst hw'
  cases b
  case true =>
    go_wp2; go_ret; exact ⟨⟨_, rfl⟩, HE1.out.2⟩
  go_wp2_with fail; refine (HE1.out.1.is_ j 3 HE.out.2.2 (by decide)).mono ?_; rintro e w' ⟨⟨b, rfl⟩, hw'⟩; subst hw'
  cases b
  case true =>
    go_wp2; go_ret; exact ⟨⟨_, rfl⟩, HE1.out.2⟩
  go_wp2_with fail; refine (HE1.out.1.is_ j 4 HE.out.2.2 (by decide)).mono ?_; rintro e w' ⟨⟨b, rfl⟩, hw'⟩; subst hw'
  cases b
  case true =>
    go_wp2; go_ret; exact ⟨⟨_, rfl⟩, HE1.out.2⟩
  go_wp2_with fail; refine (HE1.out.1.is_ j 5 HE.out.2.2 (by decide)).mono ?_; rintro e w' ⟨⟨b, rfl⟩, hw'⟩; subst hw'
  cases b
  case true =>
    go_wp2; go_ret; exact ⟨⟨_, rfl⟩, HE1.out.2⟩
  go_wp2_with fail; refine (HE1.out.1.is_ j 6 HE.out.2.2 (by decide)).mono ?_; rintro e w' ⟨⟨b, rfl⟩, hw'⟩; subst hw'
  cases b
  case true =>
    go_wp2; go_ret; exact ⟨⟨_, rfl⟩, HE1.out.2⟩
  go_wp2_with fail; refine (HE1.out.1.is_ j 0 HE.out.2.2 (by decide)).mono ?_; rintro e w' ⟨⟨b, rfl⟩, hw'⟩; subst hw'
  cases b
  case true =>
    go_wp2; go_ret; exact ⟨⟨_, rfl⟩, HE1.out.2⟩
  go_wp2_with fail; refine (HE1.out.1.is_ j 7 HE.out.2.2 (by decide)).mono ?_; rintro e w' ⟨⟨b, rfl⟩, hw'⟩; subst hw'
  cases b
  case true =>
    go_wp2; go_ret; exact ⟨⟨_, rfl⟩, HE1.out.2⟩
  go_wp2_with fail; refine (HE1.out.1.is_ j 8 HE.out.2.2 (by decide)).mono ?_; rintro e w' ⟨⟨b, rfl⟩, hw'⟩; subst hw'
  cases b
  case true =>
    go_wp2; go_ret; exact ⟨⟨_, rfl⟩, HE1.out.2⟩
  go_wp2_with fail; refine (HE1.out.1.is_ j 9 HE.out.2.2 (by decide)).mono ?_; rintro e w' ⟨⟨b, rfl⟩, hw'⟩; subst hw'
  cases b
  case true =>
    go_wp2; go_ret; exact ⟨⟨_, rfl⟩, HE1.out.2⟩
  go_wp2_with fail; refine (HE1.out.1.is_ j 10 HE.out.2.2 (by decide)).mono ?_; rintro e w' ⟨⟨b, rfl⟩, hw'⟩; subst hw'
  cases b
  case true =>
    go_wp2; go_ret; exact ⟨⟨_, rfl⟩, HE1.out.2⟩
  go_wp2_with fail; refine (HE1.out.1.is_ j 11 HE.out.2.2 (by decide)).mono ?_; rintro e w' ⟨⟨b, rfl⟩, hw'⟩; subst hw'
  cases b
  case true =>
    go_wp2; go_ret; exact ⟨⟨_, rfl⟩, HE1.out.2⟩
  go_wp2_with fail; refine (HE1.out.1.is_ j 12 HE.out.2.2 (by decide)).mono ?_; rintro e w' ⟨⟨b, rfl⟩, hw'⟩; subst hw'
  cases b
  case true =>
    go_wp2; go_ret; exact ⟨⟨_, rfl⟩, HE1.out.2⟩
  go_wp2; go_ret; exact ⟨⟨_, rfl⟩, HE1.out.2⟩
def bs (s : ByteArray) : List Nat := s.data.toList.map UInt8.toNat
theorem bs_len (s : ByteArray) : (bs s).length = s.size := by simp [bs]
theorem bs_get (s : ByteArray) (k : Nat) (h : k < s.size) : (s[k]'h).toNat = (bs s).getD k 0 := by
  have h2 : k < s.data.toList.length := by simpa using h
  have e : s[k]'h = s.data.toList[k]'h2 := by
    cases s; simp [ByteArray.getElem_eq_getElem_data]
  rw [e, bs, List.getD_eq_getElem?_getD, List.getElem?_map, List.getElem?_eq_getElem h2]
  rfl
theorem bs_lt (s : ByteArray) : ∀ z ∈ bs s, z < 256 := by
  intro z hz; obtain ⟨u, _, rfl⟩ := List.mem_map.1 hz; exact u.toNat_lt
theorem take_snoc (l : List Nat) (k : Nat) (h : k < l.length) : l.take (k + 1) = l.take k ++ [l.getD k 0] := by
  rw [List.take_succ_eq_append_getElem h, List.getD_eq_getElem?_getD, List.getElem?_eq_getElem h]; rfl
def gch (c : Nat) : Bool := (decide (97 ≤ c) && decide (c ≤ 122)) || (decide (48 ≤ c) && decide (c ≤ 57)) || decide (c = 46) || decide (c = 45)
def goodN (s : ByteArray) : Bool := decide (1 ≤ s.size ∧ s.size ≤ 24) && (bs s).all gch
set_option maxRecDepth 4000 in
set_option maxHeartbeats 4000000 in
theorem goodName_any (s : ByteArray) (w : World) (hs : s.size ≤ 1048576) :
    Calls Tryz.prog 44 #[.string s] w fun e w' => e = .returned (.bool (goodN s)) ∧ w' = w := by
  have HS : Hid (s.size ≤ 1048576) := hs
  by_cases h1 : s.size < 1
  · have HB : Hid (goodN s = false) := by show _ = _; rw [goodN, decide_eq_false (by omega)]; rfl
    have e1 : ((s.size : Nat) : Int) < 1 := by omega
    go_enter Tryz.func44, Tryz.ntmps44
    go_wp2; go_ret; exact ⟨by rw [HB.out]; rfl, rfl⟩
  · have e1 : ¬ ((s.size : Nat) : Int) < 1 := by omega
    by_cases h2 : 24 < s.size
    · have HB : Hid (goodN s = false) := by show _ = _; rw [goodN, decide_eq_false (by omega)]; rfl
      have e2 : (24 : Int) < ((s.size : Nat) : Int) := by omega
      go_enter Tryz.func44, Tryz.ntmps44
      go_wp2; go_ret; exact ⟨by rw [HB.out]; rfl, rfl⟩
    · have HG : Hid (goodN s = (bs s).all gch) := by show _ = _; rw [goodN, decide_eq_true ⟨by omega, by omega⟩]; rfl
      have e2 : ¬ (24 : Int) < ((s.size : Nat) : Int) := by omega
      have hL : (bs s).length = s.size := bs_len s; obtain ⟨n, hn⟩ : ∃ n, s.size = n := ⟨_, rfl⟩; have HN : Hid (s.size = n) := hn
      have hnb : n ≤ 24 := by omega
      go_enter Tryz.func44, Tryz.ntmps44
      go_wp2
      go_loopw [15] (fun i wr => ∃ k : Nat, k ≤ n ∧ i = .int .i64 (k : Int) ∧ ((bs s).take k).all gch = true ∧ wr = w) (fun i _ => n - (intOf i).toNat)
      case atStart => exact ⟨0, Nat.zero_le _, rfl, rfl, rfl⟩
      case round =>
        obtain ⟨k, hk, rfl, hd, rfl⟩ := hrel; have HD : Hid (((bs s).take k).all gch = true) := hd; clear hd
        by_cases hlt : k < n
        · have hi : k < s.size := by omega
          have hc := bs_get s k hi
          have HT : Hid ((bs s).take (k + 1) = (bs s).take k ++ [(bs s).getD k 0] ∧ (bs s).getD k 0 ∈ bs s) := ⟨take_snoc (bs s) k (by omega), by
            have h9 : k < (bs s).length := by omega
            simp [List.getD, h9]⟩
          obtain ⟨c, hce⟩ : ∃ c, (bs s).getD k 0 = c := ⟨_, rfl⟩
          have hc256 : c < 256 := by rw [← hce]; exact bs_lt s _ HT.out.2
          rw [hce] at hc HT; clear hce
          have hkI : (k : Int) < (n : Int) := by omega
          obtain ⟨g, hg⟩ : ∃ g, gch c = g := ⟨_, rfl⟩; have HC : Hid (gch c = g) := hg; clear hg
          go_upto_region 7 with fail
          go_cut [43] (fun t wx => t = .bool (!g) ∧ wx = wr)
          case first =>
            by_cases a1 : 97 ≤ c
            · have b1 : (97 : Int) ≤ (c : Int) := by omega
              by_cases a2 : c ≤ 122
              · have b2 : (c : Int) ≤ 122 := by omega
                obtain rfl : true = g := by rw [← HC.out]; simp [gch, a1, a2]
                go_wp2_with fail; go_meet
                case rel => exact ⟨by first | rfl | simp, rfl⟩
              · have b2 : ¬ (c : Int) ≤ 122 := by omega
                have b3 : (48 : Int) ≤ (c : Int) := by omega
                have b4 : ¬ (c : Int) ≤ 57 := by omega
                have b5 : ((c : Int) == 46) = false := by simp; omega
                have b6 : ((c : Int) == 45) = false := by simp; omega
                obtain rfl : false = g := by rw [← HC.out]; simp [gch]; omega
                go_wp2_with fail; go_meet
                case rel => exact ⟨by first | rfl | simp, rfl⟩
            · have b1 : ¬ (97 : Int) ≤ (c : Int) := by omega
              by_cases a3 : 48 ≤ c
              · have b3 : (48 : Int) ≤ (c : Int) := by omega
                by_cases a4 : c ≤ 57
                · have b4 : (c : Int) ≤ 57 := by omega
                  obtain rfl : true = g := by rw [← HC.out]; simp [gch, a3, a4]
                  go_wp2_with fail; go_meet
                  case rel => exact ⟨by first | rfl | simp, rfl⟩
                · have b4 : ¬ (c : Int) ≤ 57 := by omega
                  have b5 : ((c : Int) == 46) = false := by simp; omega
                  have b6 : ((c : Int) == 45) = false := by simp; omega
                  obtain rfl : false = g := by rw [← HC.out]; simp [gch]; omega
                  go_wp2_with fail; go_meet
                  case rel => exact ⟨by first | rfl | simp, rfl⟩
              · have b3 : ¬ (48 : Int) ≤ (c : Int) := by omega
                by_cases a5 : c = 46
                · subst a5
                  obtain rfl : true = g := by rw [← HC.out]; decide
                  go_wp2_with fail; go_meet
                  case rel => exact ⟨by first | rfl | simp, rfl⟩
                · have b5 : ((c : Int) == 46) = false := by simp; omega
                  by_cases a6 : c = 45
                  · subst a6
                    obtain rfl : true = g := by rw [← HC.out]; decide
                    go_wp2_with fail; go_meet
                    case rel => exact ⟨by first | rfl | simp, rfl⟩
                  · have b6 : ((c : Int) == 45) = false := by simp; omega
                    obtain rfl : false = g := by rw [← HC.out]; simp [gch]; omega
                    go_wp2_with fail; go_meet
                    case rel => exact ⟨by first | rfl | simp, rfl⟩
          case rest =>
            obtain ⟨rfl, rfl⟩ := hcut
            cases g with
            | true =>
              go_wp2; go_roundw
              case rel => exact ⟨k + 1, by omega, by go_num, by rw [HT.out.1, List.all_append, HD.out]; simp [HC.out], by first | trivial | rfl⟩
              case measure => simp [intOf]; omega
            | false =>
              have HB : Hid (goodN s = false) := by
                show _ = _
                rw [HG.out]; rw [List.all_eq_false]; exact ⟨c, HT.out.2, by rw [HC.out]; simp⟩
              go_wp2; go_ret; exact ⟨by rw [HB.out]; rfl, rfl⟩
        · obtain rfl : k = n := by omega
          have HB : Hid (goodN s = true) := by
            show _ = _
            rw [HG.out]; have h9 := HD.out
            rwa [List.take_of_length_le (by omega)] at h9
          go_wp2; go_ret; exact ⟨by rw [HB.out]; rfl, rfl⟩
set_option maxRecDepth 4000 in
set_option maxHeartbeats 4000000 in
theorem L1Good_any (s : ByteArray) (w : World) (hs : s.size ≤ 1048576) :
    Calls Tryz.prog 38 #[.string s] w fun e w' => e = .returned (.bool (goodN s)) ∧ w' = w := by
  have HS : Hid (s.size ≤ 1048576) := hs
  by_cases h1 : s.size < 1
  · have HB : Hid (goodN s = false) := by show _ = _; rw [goodN, decide_eq_false (by omega)]; rfl
    have e1 : ((s.size : Nat) : Int) < 1 := by omega
    go_enter Tryz.func38, Tryz.ntmps38
    go_wp2; go_ret; exact ⟨by rw [HB.out]; rfl, rfl⟩
  · have e1 : ¬ ((s.size : Nat) : Int) < 1 := by omega
    by_cases h2 : 24 < s.size
    · have HB : Hid (goodN s = false) := by show _ = _; rw [goodN, decide_eq_false (by omega)]; rfl
      have e2 : (24 : Int) < ((s.size : Nat) : Int) := by omega
      go_enter Tryz.func38, Tryz.ntmps38
      go_wp2; go_ret; exact ⟨by rw [HB.out]; rfl, rfl⟩
    · have HG : Hid (goodN s = (bs s).all gch) := by show _ = _; rw [goodN, decide_eq_true ⟨by omega, by omega⟩]; rfl
      have e2 : ¬ (24 : Int) < ((s.size : Nat) : Int) := by omega
      have hL : (bs s).length = s.size := bs_len s; obtain ⟨n, hn⟩ : ∃ n, s.size = n := ⟨_, rfl⟩; have HN : Hid (s.size = n) := hn
      have hnb : n ≤ 24 := by omega
      go_enter Tryz.func38, Tryz.ntmps38
      go_wp2
      go_loopw [3] (fun i wr => ∃ k : Nat, k ≤ n ∧ i = .int .i64 (k : Int) ∧ ((bs s).take k).all gch = true ∧ wr = w) (fun i _ => n - (intOf i).toNat)
      case atStart => exact ⟨0, Nat.zero_le _, rfl, rfl, rfl⟩
      case round =>
        obtain ⟨k, hk, rfl, hd, rfl⟩ := hrel; have HD : Hid (((bs s).take k).all gch = true) := hd; clear hd
        by_cases hlt : k < n
        · have hi : k < s.size := by omega
          have hc := bs_get s k hi
          have HT : Hid ((bs s).take (k + 1) = (bs s).take k ++ [(bs s).getD k 0] ∧ (bs s).getD k 0 ∈ bs s) := ⟨take_snoc (bs s) k (by omega), by
            have h9 : k < (bs s).length := by omega
            simp [List.getD, h9]⟩
          obtain ⟨c, hce⟩ : ∃ c, (bs s).getD k 0 = c := ⟨_, rfl⟩
          have hc256 : c < 256 := by rw [← hce]; exact bs_lt s _ HT.out.2
          rw [hce] at hc HT; clear hce
          have hkI : (k : Int) < (n : Int) := by omega
          obtain ⟨g, hg⟩ : ∃ g, gch c = g := ⟨_, rfl⟩; have HC : Hid (gch c = g) := hg; clear hg
          go_upto_region 7 with fail
          go_cut [44] (fun t wx => t = .bool (!g) ∧ wx = wr)
          case first =>
            by_cases a1 : 97 ≤ c
            · have b1 : (97 : Int) ≤ (c : Int) := by omega
              by_cases a2 : c ≤ 122
              · have b2 : (c : Int) ≤ 122 := by omega
                obtain rfl : true = g := by rw [← HC.out]; simp [gch, a1, a2]
                go_wp2_with fail; go_meet
                case rel => exact ⟨by first | rfl | simp, rfl⟩
              · have b2 : ¬ (c : Int) ≤ 122 := by omega
                have b3 : (48 : Int) ≤ (c : Int) := by omega
                have b4 : ¬ (c : Int) ≤ 57 := by omega
                have b5 : ((c : Int) == 46) = false := by simp; omega
                have b6 : ((c : Int) == 45) = false := by simp; omega
                obtain rfl : false = g := by rw [← HC.out]; simp [gch]; omega
                go_wp2_with fail; go_meet
                case rel => exact ⟨by first | rfl | simp, rfl⟩
            · have b1 : ¬ (97 : Int) ≤ (c : Int) := by omega
              by_cases a3 : 48 ≤ c
              · have b3 : (48 : Int) ≤ (c : Int) := by omega
                by_cases a4 : c ≤ 57
                · have b4 : (c : Int) ≤ 57 := by omega
                  obtain rfl : true = g := by rw [← HC.out]; simp [gch, a3, a4]
                  go_wp2_with fail; go_meet
                  case rel => exact ⟨by first | rfl | simp, rfl⟩
                · have b4 : ¬ (c : Int) ≤ 57 := by omega
                  have b5 : ((c : Int) == 46) = false := by simp; omega
                  have b6 : ((c : Int) == 45) = false := by simp; omega
                  obtain rfl : false = g := by rw [← HC.out]; simp [gch]; omega
                  go_wp2_with fail; go_meet
                  case rel => exact ⟨by first | rfl | simp, rfl⟩
              · have b3 : ¬ (48 : Int) ≤ (c : Int) := by omega
                by_cases a5 : c = 46
                · subst a5
                  obtain rfl : true = g := by rw [← HC.out]; decide
                  go_wp2_with fail; go_meet
                  case rel => exact ⟨by first | rfl | simp, rfl⟩
                · have b5 : ((c : Int) == 46) = false := by simp; omega
                  by_cases a6 : c = 45
                  · subst a6
                    obtain rfl : true = g := by rw [← HC.out]; decide
                    go_wp2_with fail; go_meet
                    case rel => exact ⟨by first | rfl | simp, rfl⟩
                  · have b6 : ((c : Int) == 45) = false := by simp; omega
                    obtain rfl : false = g := by rw [← HC.out]; simp [gch]; omega
                    go_wp2_with fail; go_meet
                    case rel => exact ⟨by first | rfl | simp, rfl⟩
          case rest =>
            obtain ⟨rfl, rfl⟩ := hcut
            cases g with
            | true =>
              go_wp2; go_roundw
              case rel => exact ⟨k + 1, by omega, by go_num, by rw [HT.out.1, List.all_append, HD.out]; simp [HC.out], by first | trivial | rfl⟩
              case measure => simp [intOf]; omega
            | false =>
              have HB : Hid (goodN s = false) := by
                show _ = _
                rw [HG.out]; rw [List.all_eq_false]; exact ⟨c, HT.out.2, by rw [HC.out]; simp⟩
              go_wp2; go_ret; exact ⟨by rw [HB.out]; rfl, rfl⟩
        · obtain rfl : k = n := by omega
          have HB : Hid (goodN s = true) := by
            show _ = _
            rw [HG.out]; have h9 := HD.out
            rwa [List.take_of_length_le (by omega)] at h9
          go_wp2; go_ret; exact ⟨by rw [HB.out]; rfl, rfl⟩
end Go.Proofs.YtgehhfncjoogiaaGreatDoor
namespace Go.Proofs.YtgehhfncjoogiaaGreatDoor
open Go.RowKit Go.Maps

def CrFt (nm : ByteArray) (ob : Option Nat) (N : Nat) (f : Option Nat) : Prop := (∀ j, f = some j → j < 13) ∧ (goodN nm = true → ob = none → N < 512 → f = none)
set_option maxRecDepth 20000 in
set_option maxHeartbeats 2000000 in
theorem createFault_any (d : Nat) (M : Dk) (ms : List Bd) (B : Nat) (ad : Nat → Addr) (nm : ByteArray) (ob : Option Nat) (w : World) (h : DkAt w B d M ms) (hE : ErrsAt w B ad) (hs : nm.size ≤ 1048576) (hob : M.LD.atKey (kS nm) .nil = bD ob) :
    Calls Tryz.prog 64 #[.pointer (some ⟨d, 0, none⟩), .string nm] w fun e w' => ∃ f : Option Nat, e = .returned (errV ad f) ∧ CrFt nm ob (Maps.size M.LD) f ∧ w' = w := by
  have hbx : w.heap[d]? = some (.cells #[.map (some M.lb), .map (some M.sb), M.qv, .int .i64 M.cap, .int .i64 M.fuse, .bool M.off, .int .i64 M.cnt] 90 (0, 0)) := h.box; have c0 : w.cell? ⟨d, 0, none⟩ = some (.map (some M.lb)) := (zCr hbx).trans rfl; have hlk := run_look h.dl (s := nm) (by unfold maxLen; omega) hob
  have hln := fun ty => h.dl.len undMap ty
  have g2 := hE.cell 2 (by decide); have g4 := hE.cell 4 (by decide); have g6 := hE.cell 6 (by decide); have HG : Hid (Calls _ _ _ _ _) := goodName_any nm w hs; clear h hE hbx
  go_enter Tryz.func64, Tryz.ntmps64
  go_wp2_with fail; refine HG.out.mono ?_; rintro e w1 ⟨rfl, hw1⟩; subst hw1
  rcases hgn : goodN nm with _ | _
  · go_wp2; go_ret; exact ⟨some 2, rfl, ⟨by simp, fun h => by rw [hgn] at h; cases h⟩, rfl⟩
  · cases ob with
    | some b =>
      simp only [bP] at hlk; go_wp2; go_ret; exact ⟨some 4, rfl, ⟨by simp, by simp⟩, rfl⟩
    | none =>
      simp only [bP] at hlk
      rcases Nat.lt_or_ge (Maps.size M.LD) 512 with hlt | hge
      · have e1 : ¬ ((512 : Int) ≤ (Maps.size M.LD : Int)) := by omega
        go_wp2; go_ret; exact ⟨none, rfl, ⟨by simp, by simp⟩, rfl⟩
      · have e1 : ((512 : Int) ≤ (Maps.size M.LD : Int)) := by omega
        go_wp2; go_ret; exact ⟨some 6, rfl, ⟨by simp, fun _ _ h9 => by omega⟩, rfl⟩
def WrFt (n : Nat) (tl : Nat) (cap at_ : Int) (sz : Nat) (f : Option Nat) : Prop := (∀ j, f = some j → j < 13) ∧ (f = none → 0 ≤ at_ ∧ at_ ≤ (n : Int) ∧ at_ + (sz : Int) ≤ 65536) ∧ (0 ≤ at_ → at_ ≤ (n : Int) → at_ + (sz : Int) ≤ 65536 → (tl : Int) + (sz : Int) ≤ cap → f = none)
theorem LbOut.refl {w : World} {B d : Nat} {M : Dk} {ms : List Bd} (h : DkAt w B d M ms) : LbOut w w B d M (ms.map Bd.tell) := ⟨ms, M.cnt, h, rfl, Moves.refl _ _ _, fun _ _ => rfl⟩
theorem LbOut.drewN {w w' : World} {B d : Nat} {M : Dk} {P : Pb} (h : LbOut w w' B d M P) (hB : B ≤ w.heap.size) {w'' : World} (hg : w'.grownBy w'' none) : LbOut w w'' B d M P := by
  obtain ⟨ms', c, h1, h2, h3, h4⟩ := h; exact ⟨ms', c, h1.grown0 hg, h2, h3.trans (Moves.of_grown0 hg), fun k hk => (hg.block k (Nat.lt_of_lt_of_le hk (Nat.le_trans hB h3.size)) (by simp)).trans (h4 k hk)⟩
theorem LbOut.cap {w w' : World} {B d : Nat} {M : Dk} {P : Pb} (h : LbOut w w' B d M P) : w'.cell? ⟨d, 3, none⟩ = some (.int .i64 M.cap) := by
  obtain ⟨ms', c, h1, -⟩ := h; exact (zCr h1.box).trans rfl
theorem LbOut.of_drew {w w' : World} {B d : Nat} {M : Dk} {P : Pb} (h : LbOut w.drew w' B d M P) : LbOut w w' B d M P := by
  obtain ⟨ms', c, h1, h2, h3, h4⟩ := h; exact ⟨ms', c, h1, h2, ⟨h3.os, h3.tape, h3.output, h3.size, h3.block⟩, h4⟩
set_option maxRecDepth 20000 in
set_option maxHeartbeats 4000000 in
theorem writeFault_any (d : Nat) (M : Dk) (ms : List Bd) (B : Nat) (ad : Nat → Addr) (m : Bd) (at_ : Int) (sz : Nat) (w : World) (h : DkAt w B d M ms) (hE : ErrsAt w B ad) (hm : m ∈ ms) (hb : totL (ms.map Bd.tell) ≤ 1099511627776) (hz : sz ≤ 1048576) (hat : -9223372036854775808 ≤ at_ ∧ at_ ≤ 9223372036854775807) :
    Calls Tryz.prog 65 #[.pointer (some ⟨d, 0, none⟩), .pointer (some ⟨m.b, 0, none⟩), .int .i64 at_, .int .i64 (sz : Int)] w fun e w' => ∃ f : Option Nat, e = .returned (errV ad f) ∧ WrFt m.L.length (totL (ms.map Bd.tell)) M.cap at_ sz f ∧ LbOut w w' B d M (ms.map Bd.tell) := by
  have hma := (h.bods.each m hm).1; obtain ⟨la, lc, hlv, -⟩ := hma.live.is; have hlb := (h.bods.each m hm).2.1; obtain ⟨ln, hln⟩ : ∃ y, m.L.length = y := ⟨_, rfl⟩; rw [hln] at hlv hlb ⊢
  have hbx : w.heap[m.b]? = some (.cells #[.slice la ln lc, m.sv, .int .i64 m.k] 93 (0, 0)) := by rw [hma.box, Bd.blk, hlv]
  have c0 : w.cell? ⟨m.b, 0, none⟩ = some (.slice la ln lc) := (zCr hbx).trans rfl; have cd : w.cell? ⟨d, 3, none⟩ = some (.int .i64 M.cap) := (zCr h.box).trans rfl; have g5 := hE.cell 5 (by decide)
  have HLB : Hid (∀ X : World, w.grownBy X none → Calls Tryz.prog 74 #[.pointer (some ⟨d, 0, none⟩)] X fun e w' => ∃ s : Nat, e = .returned (.int .i64 (s : Int)) ∧ s ≤ totL (ms.map Bd.tell) ∧ LbOut X w' B d M (ms.map Bd.tell)) := fun X hX => liveBytes_any d M ms B X (h.grown0 hX) hb
  obtain ⟨P, hP⟩ : ∃ y, ms.map Bd.tell = y := ⟨_, rfl⟩
  have HD : Hid (LbOut w w B d M P ∧ ErrsAt w B ad) := by
    rw [← hP]; exact ⟨LbOut.refl h, hE⟩
  rw [hP] at HLB hb ⊢; clear h hE hm hma hlv hbx hln hP
  by_cases h1 : at_ < 0
  · go_enter Tryz.func65, Tryz.ntmps65
    go_wp2; go_ret; exact ⟨some 5, rfl, ⟨by simp, by simp, fun h9 => by omega⟩, HD.out.1⟩
  by_cases h2 : (ln : Int) < at_
  · go_enter Tryz.func65, Tryz.ntmps65
    go_wp2; go_ret; exact ⟨some 5, rfl, ⟨by simp, by simp, fun h9 => by omega⟩, HD.out.1⟩
  obtain ⟨a, rfl⟩ : ∃ a : Nat, at_ = (a : Int) := ⟨at_.toNat, by omega⟩; have v1 : IntKind.i64.wrap (65536 - (a : Int)) = 65536 - (a : Int) := IntWalk.i64_in _ (by omega)
  by_cases h3 : 65536 - (a : Int) < (sz : Int)
  · go_enter Tryz.func65, Tryz.ntmps65
    go_wp2; go_ret; exact ⟨some 5, rfl, ⟨by simp, by simp, fun _ h9 => by omega⟩, HD.out.1⟩
  have v2 : IntKind.i64.wrap ((a : Int) + (sz : Int)) = (a : Int) + (sz : Int) := IntWalk.i64_in _ (by omega); have v3 : IntKind.i64.wrap ((a : Int) + (sz : Int) - (ln : Int)) = (a : Int) + (sz : Int) - (ln : Int) := IntWalk.i64_in _ (by omega); have HZ : Hid (¬ 65536 - (a : Int) < (sz : Int) ∧ ¬ (ln : Int) < (a : Int) ∧ ln ≤ 65536) := ⟨h3, h2, hlb⟩
  go_enter Tryz.func65, Tryz.ntmps65
  go_upto_region 4 with fail
  obtain ⟨gr, hgr, hgb⟩ : ∃ gr : Nat, (if (ln : Int) < (a : Int) + (sz : Int) then (a : Int) + (sz : Int) - (ln : Int) else 0) = (gr : Int) ∧ gr ≤ sz := by
    by_cases h9 : (ln : Int) < (a : Int) + (sz : Int)
    · exact ⟨((a : Int) + (sz : Int) - (ln : Int)).toNat, by rw [if_pos h9]; omega, by omega⟩
    · exact ⟨0, by rw [if_neg h9]; rfl, by omega⟩
  rw [hgr]; have HGB : Hid (gr ≤ sz) := hgb; clear hgr; refine wp_region_Z (fun Y => Y.cell? ⟨d, 3, none⟩ = some (.int .i64 M.cap)) (fun _ => false) (by kernel_rfl) ?_; have hS : w.drew.cell? ⟨d, 3, none⟩ = some (.int .i64 M.cap) := cd; refine zTk 0 ?_; simp only [Act.put, zq1, zq2, zq3]; refine zTk 2 ?_; simp only [Act.put, zq1, zq2, zq3]; refine zTk 4 ?_; simp only [Act.put, zq1, zq2, zq3]; refine zTk 5 ?_; simp only [Act.put, zq1, zq2, zq3]; refine zTk 6 ?_; simp only [Act.put, zq1, zq2, zq3]; refine zLs 7 rfl hS (by intro W hW; have c0 : W.cell? ⟨d, 3, none⟩ = some (.int .i64 M.cap) := hW; go_simp; first | done | with_reducible rfl) ?_; simp only [Act.put, zq1, zq2, zq3]; clear hS; refine wpAnyZ_one' (i := 1) (by kernel_rfl) rfl (fun K hK => ?_); go_simp; go_at_call 74; refine (HLB.out _ (grownBy_drew (grownBy_refl _ _))).mono ?_; rintro e w1 ⟨s, rfl, hsb, hlo⟩; have hlo := hlo.of_drew; refine hK.out _ _ (fun _ _ => hlo.cap) ?_; clear hK K; (try simp only [Act.put, zq1, zq2, zq3]); have v4 : IntKind.i64.wrap ((s : Int) + (gr : Int)) = (s : Int) + (gr : Int) := IntWalk.i64_in _ (by omega); refine zTk 3 ?_; simp only [Act.put, zq1, zq2, zq3]; refine zTk 8 ?_; simp only [Act.put, zq1, zq2, zq3]; refine wpAnyZ_done (by kernel_rfl) ?_ _
  have HLO : Hid (LbOut w w1 B d M P ∧ ErrsAt w1 B ad ∧ s ≤ totL P) := by
    refine ⟨hlo, HD.out.2.to ?_, hsb⟩; obtain ⟨_, _, _, _, _, h4⟩ := hlo; exact h4
  have g6 := HLO.out.2.1.cell 6 (by decide); clear hlo hsb c0 cd g5
  by_cases h5 : M.cap < (s : Int) + (gr : Int)
  · go_wp2; go_ret; refine ⟨some 6, rfl, ⟨by simp, by simp, fun _ _ _ h9 => ?_⟩, HLO.out.1⟩; have := HLO.out.2.2; have := HGB.out
    omega
  · go_wp2; go_ret; refine ⟨none, rfl, ⟨by simp, fun _ => ⟨by omega, ?_, ?_⟩, by simp⟩, HLO.out.1⟩
    · have := HZ.out.2.1; omega
    · have := HZ.out.1; omega
end Go.Proofs.YtgehhfncjoogiaaGreatDoor
