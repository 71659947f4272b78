/- errors.As at a check.wrong. -/
import Derived.Test.YtnkfdpnommjlcaaGreatDoorNeed
import Derived.LaidEql
import Derived.Stop.Asserts
import Derived.RowKitTokens
import Derived.Lib.Hide
import Derived.Laws.IdiomCopy
namespace Go.Proofs.YtnkfdpnommjlcaaGreatDoor
open Go.RowKit Go.Extern.Stop Go.Stop Go.Extern Go.ChangeShapes Go.WideShapes Go.ChangeAt Go.Deep

theorem as_valueOf55 (t : Addr) (w : World) : (ReflectliteValue.unpack (.iface 97 (.pointer (some t)))).run Tryz.prog w
    = .ok (.agg #[.pointer (some ⟨2, 97, none⟩), .pointer (some ⟨w.heap.size, 0, none⟩), .int .u64 150]) (w.alloc (.cells #[.pointer (some t)] 97)) := by kernel_rfl
theorem as_type55 (a : Addr) (w : World) : (ReflectliteValue.methodAny (ReflectliteValue.valueError "reflectlite.Value.Type" 0) (fun t _ _ _ => ReflectliteType.toType t) #[.agg #[.pointer (some ⟨2, 97, none⟩), .pointer (some a), .int .u64 150]]).run Tryz.prog w
    = .ok (.iface 139 (.agg #[.pointer (some ⟨2, 97, none⟩)])) w := by kernel_rfl
theorem as_methodKind (h : Value) (w : World) : (Go.method 305 139 (.agg #[h]) "Kind").run Tryz.prog w = .ok (127, h) w := by kernel_rfl
theorem as_kind55 (w : World) : ((ReflectliteType.abiMethod fun t => (fun a : Nat => Value.int IntKind.u8 (a : Int)) <$> Rtype.kind t) #[.pointer (some ⟨2, 97, none⟩)]).run Tryz.prog w = .ok (.int .u8 22) w := by kernel_rfl
theorem as_kind50 (w : World) : ((ReflectliteType.abiMethod fun t => (fun a : Nat => Value.int IntKind.u8 (a : Int)) <$> Rtype.kind t) #[.pointer (some ⟨2, 96, none⟩)]).run Tryz.prog w = .ok (.int .u8 25) w := by kernel_rfl
theorem rlm (z : Sem Value) (f : TypeId → Addr → Nat → Nat → Sem Value) (v : Value) :
    ReflectliteValue.method z f #[v] = (do match ← ReflectliteValue.parts v with | none => z | some (t, a, fl) => f t a fl (fl % 32)) := rfl
theorem as_parts55 (a : Addr) (w : World) : (ReflectliteValue.parts (.agg #[.pointer (some ⟨2, 97, none⟩), .pointer (some a), .int .u64 150])).run Tryz.prog w = .ok (some (97, a, 150)) w := by kernel_rfl
theorem as_isNil55 (a p : Addr) (W : World) (ha : W.cell? a = some (.pointer (some p))) :
    (ReflectliteValue.method (ReflectliteValue.valueError "reflectlite.Value.IsNil" 0) ReflectliteValue.isNil #[.agg #[.pointer (some ⟨2, 97, none⟩), .pointer (some a), .int .u64 150]]).run Tryz.prog W = .ok (.bool false) W := by
  rw [rlm]
  simp only [Sem.run_bind, as_parts55, Result.andThen]
  simp [ReflectliteValue.isNil, loadVar, isAgg, underlying, Tryz.underlying97, ha, Result.andThen]
theorem as_methodElem (h : Value) (w : World) : (Go.method 305 139 (.agg #[h]) "Elem").run Tryz.prog w = .ok (138, .agg #[h]) w := by kernel_rfl
theorem as_methodImplements (h : Value) (w : World) : (Go.method 305 139 (.agg #[h]) "Implements").run Tryz.prog w = .ok (139, .agg #[h]) w := by kernel_rfl
theorem as_methodAssignableTo (h : Value) (w : World) : (Go.method 305 139 (.agg #[h]) "AssignableTo").run Tryz.prog w = .ok (136, .agg #[h]) w := by kernel_rfl
theorem as_elem55 (w : World) : (ReflectliteType.method ReflectliteType.elem #[.agg #[.pointer (some ⟨2, 97, none⟩)]]).run Tryz.prog w = .ok (.iface 139 (.agg #[.pointer (some ⟨2, 96, none⟩)])) w := by kernel_rfl
theorem as_implements50 (w : World) : (ReflectliteType.relation "Implements" ReflectliteType.implements_ #[.agg #[.pointer (some ⟨2, 96, none⟩)], .iface 139 (.agg #[.pointer (some ⟨2, 89, none⟩)])]).run Tryz.prog w = .ok (.bool true) w := by kernel_rfl
theorem as_typeOf50 (v : Value) (w : World) : (ReflectliteType.typeOf #[.iface 96 v]).run Tryz.prog w = .ok (.iface 139 (.agg #[.pointer (some ⟨2, 96, none⟩)])) w := by kernel_rfl
theorem as_assignable50 (w : World) : (ReflectliteType.relation "AssignableTo" ReflectliteType.assignableTo #[.agg #[.pointer (some ⟨2, 96, none⟩)], .iface 139 (.agg #[.pointer (some ⟨2, 96, none⟩)])]).run Tryz.prog w = .ok (.bool true) w := by kernel_rfl
theorem as_valueOf50 (x y z : Int) (w : World) : (ReflectliteValue.unpack (.iface 96 (.agg #[.int .i64 x, .int .i64 y, .int .i64 z]))).run Tryz.prog w
    = .ok (.agg #[.pointer (some ⟨2, 96, none⟩), .pointer (some ⟨w.heap.size, 0, none⟩), .int .u64 153]) (w.alloc (.cells #[.int .i64 x, .int .i64 y, .int .i64 z] 96)) := by kernel_rfl
theorem as_elemOf55 (w : World) : (Rtype.elem? 97).run Tryz.prog w = .ok (some 96) w := by kernel_rfl
theorem as_mk50 (p : Addr) (w : World) : (ReflectliteValue.mk 96 p ReflectliteValue.flagAddr).run Tryz.prog w = .ok (.agg #[.pointer (some ⟨2, 96, none⟩), .pointer (some p), .int .u64 409]) w := by kernel_rfl
theorem as_elemV55 (a p : Addr) (W : World) (ha : W.cell? a = some (.pointer (some p))) :
    (ReflectliteValue.method (ReflectliteValue.valueError "reflectlite.Value.Elem" 0) ReflectliteValue.elem #[.agg #[.pointer (some ⟨2, 97, none⟩), .pointer (some a), .int .u64 150]]).run Tryz.prog W
      = .ok (.agg #[.pointer (some ⟨2, 96, none⟩), .pointer (some p), .int .u64 409]) W := by
  rw [rlm]
  simp only [Sem.run_bind, as_parts55, Result.andThen]
  simp [ReflectliteValue.elem, loadVar, isAgg, underlying, Tryz.underlying97, ha, Result.andThen, as_elemOf55, as_mk50]
theorem rls (v x : Value) : ReflectliteValue.set #[v, x] = (do
    let (some (dst, a, fl), some (src, b, _)) := (← ReflectliteValue.parts v, ← ReflectliteValue.parts x)
      | unsupported (.noEntry "extern/(internal/reflectlite.Value).Set.zeroValue")
    if fl / ReflectliteValue.flagAddr % 2 == 0 then unsupported (.noEntry "extern/(internal/reflectlite.Value).Set.unaddressable")
    let val ← loadVar src b
    if ← Rtype.directlyAssignable dst src then storeVar dst a val
    else if ← Rtype.implements dst src then
      if (← Rtype.kind src) == 20 then
        match val with
        | .nilIface => unsupported (.noEntry "extern/reflectlite: a nil value of one interface type handed on as a value of another")
        | _ => storeVar dst a val
      else storeVar dst a (.iface src val)
    else panicString ("reflectlite.Set: value of type " ++ (← Rtype.spelt src) ++ " is not assignable to type " ++ (← Rtype.spelt dst))
    pure (.tuple #[])) := rfl
theorem as_parts50a (a : Addr) (w : World) : (ReflectliteValue.parts (.agg #[.pointer (some ⟨2, 96, none⟩), .pointer (some a), .int .u64 409])).run Tryz.prog w = .ok (some (96, a, 409)) w := by kernel_rfl
theorem as_parts50 (a : Addr) (w : World) : (ReflectliteValue.parts (.agg #[.pointer (some ⟨2, 96, none⟩), .pointer (some a), .int .u64 153])).run Tryz.prog w = .ok (some (96, a, 153)) w := by kernel_rfl
theorem as_direct50 (w : World) : (Rtype.directlyAssignable 96 96).run Tryz.prog w = .ok true w := by kernel_rfl
theorem as_set50 (t b : Nat) (x y z o0 o1 o2 : Int) (W : World) (hb : W.heap[b]? = some (.cells #[.int .i64 x, .int .i64 y, .int .i64 z] 96 (0, 0))) (ht : W.heap[t]? = some (.cells #[.int .i64 o0, .int .i64 o1, .int .i64 o2] 96 (0, 0))) :
    (ReflectliteValue.set #[.agg #[.pointer (some ⟨2, 96, none⟩), .pointer (some ⟨t, 0, none⟩), .int .u64 409], .agg #[.pointer (some ⟨2, 96, none⟩), .pointer (some ⟨b, 0, none⟩), .int .u64 153]]).run Tryz.prog W
      = .ok (.tuple #[]) (((W.setCell ⟨t, 0, none⟩ (.int .i64 x)).setCell ⟨t, 1, none⟩ (.int .i64 y)).setCell ⟨t, 2, none⟩ (.int .i64 z)) := by
  rw [rls]
  simp only [Sem.run_bind, as_parts50a, as_parts50, Result.andThen]
  have hl : (loadCells ⟨b, 0, none⟩ 3).run Tryz.prog W = .ok #[.int .i64 x, .int .i64 y, .int .i64 z] W :=
    run_loadCells_list (P := Tryz.prog) W ⟨b, 0, none⟩ [.int .i64 x, .int .i64 y, .int .i64 z] (fun j v hv => by rw [add_none, Nat.zero_add]; exact cell_row (cs := [.int .i64 x, .int .i64 y, .int .i64 z]) hb hv)
  have hs : (storeCells ⟨t, 0, none⟩ [.int .i64 x, .int .i64 y, .int .i64 z]).run Tryz.prog W = .ok () (((W.setCell ⟨t, 0, none⟩ (.int .i64 x)).setCell ⟨t, 1, none⟩ (.int .i64 y)).setCell ⟨t, 2, none⟩ (.int .i64 z)) :=
    run_storeCells_cells (P := Tryz.prog) t 0 [.int .i64 x, .int .i64 y, .int .i64 z] 0 W (fun j hj => by
      have : ∃ v, ([.int .i64 o0, .int .i64 o1, .int .i64 o2] : List Value)[j]? = some v := ⟨_, List.getElem?_eq_getElem (by simpa using hj)⟩
      obtain ⟨v, hv⟩ := this
      rw [show 0 + 0 + j = j by omega, cell_row (cs := [.int .i64 o0, .int .i64 o1, .int .i64 o2]) ht hv]; rfl)
      (fun j hj => frozen_row (cs := [.int .i64 o0, .int .i64 o1, .int .i64 o2]) ht) (fun v hv => by simp at hv; rcases hv with rfl | rfl | rfl <;> rfl)
  simp [ReflectliteValue.flagAddr, loadVar, isAgg, underlying, Tryz.underlying96, Result.andThen, as_direct50, storeVar, Value.cells, hl, hs]

set_option maxHeartbeats 4000000 in
set_option maxRecDepth 100000 in
/-- errors.As, at an error that is a wrong, and where a wrong is to be laid. -/
theorem as_hit (t : Nat) (x y z o0 o1 o2 : Int) (w : World) (hg : w.cell? ⟨0, 0, none⟩ = some (.iface 139 (.agg #[.pointer (some ⟨2, 89, none⟩)]))) (ht0 : w.heap[t]? = some (.cells #[.int .i64 o0, .int .i64 o1, .int .i64 o2] 96 (0, 0))) :
    Calls Tryz.prog 43 #[wrongV x y z, .iface 97 (.pointer (some ⟨t, 0, none⟩))] w fun ev w' => ev = .returned (.bool true) ∧ w'.heap[t]? = some (.cells [.int .i64 x, .int .i64 y, .int .i64 z].toArray 96 (0, 0)) ∧ w.grownBy w' (some t) := by
  unfold wrongV
  have h27 := @run_callFunc_extern Tryz.prog 61 _ (fun args => ReflectliteValue.unpack (args.getD 0 (.tuple #[]))) Tryz.func61 (by kernel_rfl) (by kernel_rfl) (by kernel_rfl) (by kernel_rfl)
  have h28 := @run_callFunc_extern Tryz.prog 62 _ (ReflectliteValue.methodAny (ReflectliteValue.valueError "reflectlite.Value.Type" 0) (fun t _ _ _ => ReflectliteType.toType t)) Tryz.func62 (by kernel_rfl) (by kernel_rfl) (by kernel_rfl) (by kernel_rfl)
  have h29 := @run_callFunc_extern Tryz.prog 63 _ (ReflectliteValue.method (ReflectliteValue.valueError "reflectlite.Value.IsNil" 0) ReflectliteValue.isNil) Tryz.func63 (by kernel_rfl) (by kernel_rfl) (by kernel_rfl) (by kernel_rfl)
  have h84 := @run_callFunc_extern Tryz.prog 127 _ (ReflectliteType.abiMethod fun t => do pure (.int .u8 (← Rtype.kind t))) Tryz.func127 (by kernel_rfl) (by kernel_rfl) (by kernel_rfl) (by kernel_rfl)
  have h94 := @run_callFunc_extern Tryz.prog 138 _ (ReflectliteType.method ReflectliteType.elem) Tryz.func138 (by kernel_rfl) (by kernel_rfl) (by kernel_rfl) (by kernel_rfl)
  have h95 := @run_callFunc_extern Tryz.prog 139 _ (ReflectliteType.relation "Implements" ReflectliteType.implements_) Tryz.func139 (by kernel_rfl) (by kernel_rfl) (by kernel_rfl) (by kernel_rfl)
  have h44 := @run_callFunc_extern Tryz.prog 79 _ ReflectliteType.typeOf Tryz.func79 (by kernel_rfl) (by kernel_rfl) (by kernel_rfl) (by kernel_rfl)
  have h92 := @run_callFunc_extern Tryz.prog 136 _ (ReflectliteType.relation "AssignableTo" ReflectliteType.assignableTo) Tryz.func136 (by kernel_rfl) (by kernel_rfl) (by kernel_rfl) (by kernel_rfl)
  have h45 := @run_callFunc_extern Tryz.prog 80 _ (ReflectliteValue.method (ReflectliteValue.valueError "reflectlite.Value.Elem" 0) ReflectliteValue.elem) Tryz.func80 (by kernel_rfl) (by kernel_rfl) (by kernel_rfl) (by kernel_rfl)
  have h46 := @run_callFunc_extern Tryz.prog 81 _ ReflectliteValue.set Tryz.func81 (by kernel_rfl) (by kernel_rfl) (by kernel_rfl) (by kernel_rfl)
  have tO := as_typeOf50
  have mA := as_methodAssignableTo
  have a25 := as_assignable50
  have v25 := as_valueOf50 x y z
  have f6 := as_valueOf55
  have f7 := as_type55
  have mK := as_methodKind
  have mE := as_methodElem
  have mI := as_methodImplements
  have k27 := as_kind55
  have k25 := as_kind50
  have e27 := as_elem55
  have i25 := as_implements50
  have hlt : 0 < w.heap.size := by
    rcases Nat.eq_zero_or_pos w.heap.size with h0 | h
    · simp [World.cell?, h0] at hg
    · exact h
  have htl := lt_row ht0
  let w1 := w.alloc (.cells #[.pointer (some ⟨t, 0, none⟩)] 97)
  let w2 := w1.alloc (.cells #[.pointer (some ⟨2, 97, none⟩), .pointer (some ⟨w.heap.size, 0, none⟩), .int .u64 150] 123)
  let w3 := w2.alloc (.cells #[.pointer (some ⟨2, 97, none⟩), .pointer (some ⟨w.heap.size, 0, none⟩), .int .u64 150] 123)
  let w4 := w3.alloc (.cells #[.int .i64 x, .int .i64 y, .int .i64 z] 96)
  have n8 := as_isNil55 ⟨w.heap.size, 0, none⟩ ⟨t, 0, none⟩ w2 (by simp [w2, w1])
  have hg2 : w2.cell? ⟨0, 0, none⟩ = some (.iface 139 (.agg #[.pointer (some ⟨2, 89, none⟩)])) := by
    rw [World.cell?_alloc_lt _ _ ⟨0, 0, none⟩ (by simp [w1]), World.cell?_alloc_lt _ _ ⟨0, 0, none⟩ hlt]; exact hg
  have el := as_elemV55 ⟨w.heap.size, 0, none⟩ ⟨t, 0, none⟩ w3 (by rw [World.cell?_alloc_lt _ _ ⟨w.heap.size, 0, none⟩ (by simp [w2, w1]; omega)]; simp [w2, w1])
  have hb4 : Below w.heap.size w w4 := ((((Below.refl _ _).alloc (Nat.le_refl _) _).alloc (by simp) _).alloc (by simp; omega) _).alloc (by simp; omega) _
  have ht4 : w4.heap[t]? = some (.cells #[.int .i64 o0, .int .i64 o1, .int .i64 o2] 96 (0, 0)) := (hb4.block t htl).trans ht0
  have hs4 : w4.heap[w.heap.size + 1 + 1 + 1]? = some (.cells #[.int .i64 x, .int .i64 y, .int .i64 z] 96 (0, 0)) := by
    have := heap_alloc_new w3 (.cells #[.int .i64 x, .int .i64 y, .int .i64 z] 96)
    rwa [show w3.heap.size = w.heap.size + 1 + 1 + 1 by simp [w3, w2, w1]] at this
  have st := as_set50 t (w.heap.size + 1 + 1 + 1) x y z o0 o1 o2 w4 hs4 ht4
  have HF : Hid ((((w4.setCell ⟨t, 0, none⟩ (.int .i64 x)).setCell ⟨t, 1, none⟩ (.int .i64 y)).setCell ⟨t, 2, none⟩ (.int .i64 z)).heap[t]? = some (.cells [.int .i64 x, .int .i64 y, .int .i64 z].toArray 96 (0, 0))) := by
    refine Lib.hid ?_
    have q1 := set_row (cs := [.int .i64 o0, .int .i64 o1, .int .i64 o2]) (i := 0) ht4 (.int .i64 x)
    have q2 := set_row (i := 1) q1 (.int .i64 y)
    exact set_row (i := 2) q2 (.int .i64 z)
  have HG : Hid (w.grownBy (((w4.setCell ⟨t, 0, none⟩ (.int .i64 x)).setCell ⟨t, 1, none⟩ (.int .i64 y)).setCell ⟨t, 2, none⟩ (.int .i64 z)) (some t)) :=
    grown_trans (grown_trans (grown_trans (grown_of hb4 (some t)) (grown_setCell _ t 0 _)) (grown_setCell _ t 1 _)) (grown_setCell _ t 2 _)
  clear hb4 ht4 hs4 ht0
  simp only [w1, w2, w3, w4] at *
  go_enter Tryz.func43, Tryz.ntmps43
  go_wp2
  refine wp_loop_rounds 1 ?_
  rw [rounds_succ]
  go_wp2
  go_ret
  exact ⟨rfl, HF.out, HG.out⟩
end Go.Proofs.YtnkfdpnommjlcaaGreatDoor
