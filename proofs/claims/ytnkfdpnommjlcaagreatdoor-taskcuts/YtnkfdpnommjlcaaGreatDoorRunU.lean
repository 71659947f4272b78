/- Run's deferred closure, where nothing went up. -/
import Derived.Test.YtnkfdpnommjlcaaGreatDoorMayB
import Derived.Test.YtnkfdpnommjlcaaGreatDoorCatch
import Derived.Test.YtnkfdpnommjlcaaGreatDoorAs
import Derived.Test.YtnkfdpnommjlcaaGreatDoorRek
import Derived.Test.YtnkfdpnommjlcaaGreatDoorRet
namespace Go.Proofs.YtnkfdpnommjlcaaGreatDoor
open Go.RowKit Go.ChangeShapes Go.WideShapes Go.ChangeAt Go.Deep

set_option maxHeartbeats 2000000 in
set_option maxRecDepth 100000 in
set_option linter.unusedSimpArgs false in
theorem wentUp_nil (w : World) : Calls Tryz.prog 22 #[.nilIface] w fun e w' => e = .returned (.tuple #[.agg #[.int .i64 0, .int .i64 0], .bool false]) ∧ Below w.heap.size w w' := by
  have hta := ta_nil
  have hb0 : Below w.heap.size w ((w.alloc (.cells #[.int .i64 0, .int .i64 0] 35)).alloc (.cells #[.int .i64 0, .int .i64 0] 87)) := (((Below.refl _ _).alloc (Nat.le_refl _) _).alloc (by simp) _)
  have hx : ((w.alloc (.cells #[.int .i64 0, .int .i64 0] 35)).alloc (.cells #[.int .i64 0, .int .i64 0] 87)).heap[w.heap.size]? = some (.cells #[.int .i64 0, .int .i64 0] 35 (0, 0)) := by
    rw [heap_alloc_old _ _ (by simp), heap_alloc_new]
  go_enter Tryz.func22, Tryz.ntmps22
  go_upto_region 2 with fail
  generalize ((w.alloc (.cells #[.int .i64 0, .int .i64 0] 35)).alloc (.cells #[.int .i64 0, .int .i64 0] 87)) = w1 at hb0 hx ⊢
  have x0 : w1.cell? ⟨w.heap.size, 0, none⟩ = some (.int .i64 0) := by simp only [World.cell?, hx]; rfl
  have x1 : w1.cell? ⟨w.heap.size, 1, none⟩ = some (.int .i64 0) := by simp only [World.cell?, hx]; rfl
  have z0 : w1.frozen? ⟨w.heap.size, 0, none⟩ = false := by simp only [World.frozen?, hx]; rfl
  have z1 : w1.frozen? ⟨w.heap.size, 1, none⟩ = false := by simp only [World.frozen?, hx]; rfl
  clear hx
  go_wp2_with fail
  have hb2 : Below w.heap.size w ((w1.setCell ⟨w.heap.size, 0, none⟩ (.int .i64 0)).setCell ⟨w.heap.size, 1, none⟩ (.int .i64 0)) := (hb0.setCell (Nat.le_refl _) _).setCell (Nat.le_refl _) _
  have q0 : ((w1.setCell ⟨w.heap.size, 0, none⟩ (.int .i64 0)).setCell ⟨w.heap.size, 1, none⟩ (.int .i64 0)).cell? ⟨w.heap.size, 0, none⟩ = some (.int .i64 0) := by go_simp
  have q1 : ((w1.setCell ⟨w.heap.size, 0, none⟩ (.int .i64 0)).setCell ⟨w.heap.size, 1, none⟩ (.int .i64 0)).cell? ⟨w.heap.size, 1, none⟩ = some (.int .i64 0) := by go_simp
  generalize ((w1.setCell ⟨w.heap.size, 0, none⟩ (.int .i64 0)).setCell ⟨w.heap.size, 1, none⟩ (.int .i64 0)) = w2 at hb2 q0 q1 ⊢
  simp only [bodyPost, results, Tryz.results22]
  exact ⟨trivial, _, by simp [go_sem, q0, q1], rfl, hb2⟩

set_option maxHeartbeats 2000000 in
set_option maxRecDepth 100000 in
set_option linter.unusedSimpArgs false in
theorem rund_idle (a b c : Nat) (w : World) :
    CallsD Tryz.prog 48 #[.pointer (some ⟨a, 0, none⟩), .pointer (some ⟨b, 0, none⟩), .pointer (some ⟨c, 0, none⟩)] .returning w fun e u' w' => e = .returned (.tuple #[]) ∧ u' = .returning ∧ Below w.heap.size w w' := by
  refine callsD_of_wpS Tryz.func48 rfl fun c₀ cs hu => ?_
  apply wpS_seq
  apply wpS_region
  simp [wpOpsS, go_sem, recoverD, hu, Tryz.ntmps48, Exit.thenS, Array.replicate]
  refine (wentUp_nil w).mono ?_
  rintro e w1 ⟨rfl, hb1⟩
  have hnw := heap_alloc_new w1 (.cells #[.int .i64 0, .int .i64 0] 35)
  have n0 : (w1.alloc (.cells #[.int .i64 0, .int .i64 0] 35)).cell? ⟨w1.heap.size, 0, none⟩ = some (.int .i64 0) := by simp only [World.cell?, hnw]; rfl
  have n1 : (w1.alloc (.cells #[.int .i64 0, .int .i64 0] 35)).cell? ⟨w1.heap.size, 1, none⟩ = some (.int .i64 0) := by simp only [World.cell?, hnw]; rfl
  have z0 : (w1.alloc (.cells #[.int .i64 0, .int .i64 0] 35)).frozen? ⟨w1.heap.size, 0, none⟩ = false := by simp only [World.frozen?, hnw]; rfl
  have z1 : (w1.alloc (.cells #[.int .i64 0, .int .i64 0] 35)).frozen? ⟨w1.heap.size, 1, none⟩ = false := by simp only [World.frozen?, hnw]; rfl
  clear hnw
  simp [go_sem, Exit.thenS, n0, n1, z0, z1]
  have hbel : Below w.heap.size w (w1.alloc (.cells #[.int .i64 0, .int .i64 0] 35)) := hb1.alloc hb1.size _
  clear n0 n1 z0 z1 hb1
  refine wpS_of_wp ?_
  generalize w1.alloc (.cells #[.int .i64 0, .int .i64 0] 35) = w2 at hbel ⊢
  go_wp2
  cases c₀
  simp_all [bodyPostS, results, Tryz.results48]
end Go.Proofs.YtnkfdpnommjlcaaGreatDoor
/- errors.As at a task.failure; what went up. -/

namespace Go.Proofs.YtnkfdpnommjlcaaGreatDoor
open Go.RowKit Go.Extern.Stop Go.Stop Go.Extern Go.ChangeShapes Go.WideShapes Go.ChangeAt Go.Deep

theorem af_valueOf55 (t : Addr) (w : World) : (ReflectliteValue.unpack (.iface 92 (.pointer (some t)))).run Tryz.prog w
    = .ok (.agg #[.pointer (some ⟨2, 92, none⟩), .pointer (some ⟨w.heap.size, 0, none⟩), .int .u64 150]) (w.alloc (.cells #[.pointer (some t)] 92)) := by kernel_rfl
theorem af_type55 (a : Addr) (w : World) : (ReflectliteValue.methodAny (ReflectliteValue.valueError "reflectlite.Value.Type" 0) (fun t _ _ _ => ReflectliteType.toType t) #[.agg #[.pointer (some ⟨2, 92, none⟩), .pointer (some a), .int .u64 150]]).run Tryz.prog w
    = .ok (.iface 139 (.agg #[.pointer (some ⟨2, 92, none⟩)])) w := by kernel_rfl
theorem af_kind55 (w : World) : ((ReflectliteType.abiMethod fun t => (fun a : Nat => Value.int IntKind.u8 (a : Int)) <$> Rtype.kind t) #[.pointer (some ⟨2, 92, none⟩)]).run Tryz.prog w = .ok (.int .u8 22) w := by kernel_rfl
theorem af_kind50 (w : World) : ((ReflectliteType.abiMethod fun t => (fun a : Nat => Value.int IntKind.u8 (a : Int)) <$> Rtype.kind t) #[.pointer (some ⟨2, 87, none⟩)]).run Tryz.prog w = .ok (.int .u8 25) w := by kernel_rfl
theorem af_parts55 (a : Addr) (w : World) : (ReflectliteValue.parts (.agg #[.pointer (some ⟨2, 92, none⟩), .pointer (some a), .int .u64 150])).run Tryz.prog w = .ok (some (92, a, 150)) w := by kernel_rfl
theorem af_isNil55 (a p : Addr) (W : World) (ha : W.cell? a = some (.pointer (some p))) :
    (ReflectliteValue.method (ReflectliteValue.valueError "reflectlite.Value.IsNil" 0) ReflectliteValue.isNil #[.agg #[.pointer (some ⟨2, 92, none⟩), .pointer (some a), .int .u64 150]]).run Tryz.prog W = .ok (.bool false) W := by
  rw [rlm]
  simp only [Sem.run_bind, af_parts55, Result.andThen]
  simp [ReflectliteValue.isNil, loadVar, isAgg, underlying, ha, Result.andThen]
theorem af_elem55 (w : World) : (ReflectliteType.method ReflectliteType.elem #[.agg #[.pointer (some ⟨2, 92, none⟩)]]).run Tryz.prog w = .ok (.iface 139 (.agg #[.pointer (some ⟨2, 87, none⟩)])) w := by kernel_rfl
theorem af_implements50 (w : World) : (ReflectliteType.relation "Implements" ReflectliteType.implements_ #[.agg #[.pointer (some ⟨2, 87, none⟩)], .iface 139 (.agg #[.pointer (some ⟨2, 89, none⟩)])]).run Tryz.prog w = .ok (.bool true) w := by kernel_rfl
theorem af_typeOf50 (v : Value) (w : World) : (ReflectliteType.typeOf #[.iface 87 v]).run Tryz.prog w = .ok (.iface 139 (.agg #[.pointer (some ⟨2, 87, none⟩)])) w := by kernel_rfl
theorem af_assignable50 (w : World) : (ReflectliteType.relation "AssignableTo" ReflectliteType.assignableTo #[.agg #[.pointer (some ⟨2, 87, none⟩)], .iface 139 (.agg #[.pointer (some ⟨2, 87, none⟩)])]).run Tryz.prog w = .ok (.bool true) w := by kernel_rfl
theorem af_valueOf50 (x y : Int) (w : World) : (ReflectliteValue.unpack (.iface 87 (.agg #[.int .i64 x, .int .i64 y]))).run Tryz.prog w
    = .ok (.agg #[.pointer (some ⟨2, 87, none⟩), .pointer (some ⟨w.heap.size, 0, none⟩), .int .u64 153]) (w.alloc (.cells #[.int .i64 x, .int .i64 y] 87)) := by kernel_rfl
theorem af_elemOf55 (w : World) : (Rtype.elem? 92).run Tryz.prog w = .ok (some 87) w := by kernel_rfl
theorem af_mk50 (p : Addr) (w : World) : (ReflectliteValue.mk 87 p ReflectliteValue.flagAddr).run Tryz.prog w = .ok (.agg #[.pointer (some ⟨2, 87, none⟩), .pointer (some p), .int .u64 409]) w := by kernel_rfl
theorem af_elemV55 (a p : Addr) (W : World) (ha : W.cell? a = some (.pointer (some p))) :
    (ReflectliteValue.method (ReflectliteValue.valueError "reflectlite.Value.Elem" 0) ReflectliteValue.elem #[.agg #[.pointer (some ⟨2, 92, none⟩), .pointer (some a), .int .u64 150]]).run Tryz.prog W
      = .ok (.agg #[.pointer (some ⟨2, 87, none⟩), .pointer (some p), .int .u64 409]) W := by
  rw [rlm]
  simp only [Sem.run_bind, af_parts55, Result.andThen]
  simp [ReflectliteValue.elem, loadVar, isAgg, underlying, ha, Result.andThen, af_elemOf55, af_mk50]
theorem af_parts50a (a : Addr) (w : World) : (ReflectliteValue.parts (.agg #[.pointer (some ⟨2, 87, none⟩), .pointer (some a), .int .u64 409])).run Tryz.prog w = .ok (some (87, a, 409)) w := by kernel_rfl
theorem af_parts50 (a : Addr) (w : World) : (ReflectliteValue.parts (.agg #[.pointer (some ⟨2, 87, none⟩), .pointer (some a), .int .u64 153])).run Tryz.prog w = .ok (some (87, a, 153)) w := by kernel_rfl
theorem af_direct50 (w : World) : (Rtype.directlyAssignable 87 87).run Tryz.prog w = .ok true w := by kernel_rfl
theorem af_set50 (t b : Nat) (x y o0 o1 : Int) (W : World) (hb : W.heap[b]? = some (.cells #[.int .i64 x, .int .i64 y] 87 (0, 0))) (ht : W.heap[t]? = some (.cells #[.int .i64 o0, .int .i64 o1] 87 (0, 0))) :
    (ReflectliteValue.set #[.agg #[.pointer (some ⟨2, 87, none⟩), .pointer (some ⟨t, 0, none⟩), .int .u64 409], .agg #[.pointer (some ⟨2, 87, none⟩), .pointer (some ⟨b, 0, none⟩), .int .u64 153]]).run Tryz.prog W
      = .ok (.tuple #[]) ((W.setCell ⟨t, 0, none⟩ (.int .i64 x)).setCell ⟨t, 1, none⟩ (.int .i64 y)) := by
  rw [rls]
  simp only [Sem.run_bind, af_parts50a, af_parts50, Result.andThen]
  have hl : (loadCells ⟨b, 0, none⟩ 2).run Tryz.prog W = .ok #[.int .i64 x, .int .i64 y] W :=
    run_loadCells_list (P := Tryz.prog) W ⟨b, 0, none⟩ [.int .i64 x, .int .i64 y] (fun j v hv => by rw [add_none, Nat.zero_add]; exact cell_row (cs := [.int .i64 x, .int .i64 y]) hb hv)
  have hs : (storeCells ⟨t, 0, none⟩ [.int .i64 x, .int .i64 y]).run Tryz.prog W = .ok () ((W.setCell ⟨t, 0, none⟩ (.int .i64 x)).setCell ⟨t, 1, none⟩ (.int .i64 y)) :=
    run_storeCells_cells (P := Tryz.prog) t 0 [.int .i64 x, .int .i64 y] 0 W (fun j hj => by
      have : ∃ v, ([.int .i64 o0, .int .i64 o1] : List Value)[j]? = some v := ⟨_, List.getElem?_eq_getElem (by simpa using hj)⟩
      obtain ⟨v, hv⟩ := this
      rw [show 0 + 0 + j = j by omega, cell_row (cs := [.int .i64 o0, .int .i64 o1]) ht hv]; rfl)
      (fun j hj => frozen_row (cs := [.int .i64 o0, .int .i64 o1]) ht) (fun v hv => by simp at hv; rcases hv with rfl | rfl <;> rfl)
  simp [ReflectliteValue.flagAddr, loadVar, isAgg, underlying, Result.andThen, af_direct50, storeVar, Value.cells, hl, hs]

set_option maxHeartbeats 4000000 in
set_option maxRecDepth 100000 in
/-- errors.As, at an error that is a failure, and where a failure is to be laid. -/
theorem af_hit (t : Nat) (x y o0 o1 : Int) (w : World) (hg : w.cell? ⟨0, 0, none⟩ = some (.iface 139 (.agg #[.pointer (some ⟨2, 89, none⟩)]))) (ht0 : w.heap[t]? = some (.cells #[.int .i64 o0, .int .i64 o1] 87 (0, 0))) :
    Calls Tryz.prog 43 #[failV x y, .iface 92 (.pointer (some ⟨t, 0, none⟩))] w fun ev w' => ev = .returned (.bool true) ∧ w'.heap[t]? = some (.cells [.int .i64 x, .int .i64 y].toArray 87 (0, 0)) ∧ w.grownBy w' (some t) := by
  unfold failV
  have h27 := @run_callFunc_extern Tryz.prog 61 _ (fun args => ReflectliteValue.unpack (args.getD 0 (.tuple #[]))) Tryz.func61 (by kernel_rfl) (by kernel_rfl) (by kernel_rfl) (by kernel_rfl)
  have h28 := @run_callFunc_extern Tryz.prog 62 _ (ReflectliteValue.methodAny (ReflectliteValue.valueError "reflectlite.Value.Type" 0) (fun t _ _ _ => ReflectliteType.toType t)) Tryz.func62 (by kernel_rfl) (by kernel_rfl) (by kernel_rfl) (by kernel_rfl)
  have h29 := @run_callFunc_extern Tryz.prog 63 _ (ReflectliteValue.method (ReflectliteValue.valueError "reflectlite.Value.IsNil" 0) ReflectliteValue.isNil) Tryz.func63 (by kernel_rfl) (by kernel_rfl) (by kernel_rfl) (by kernel_rfl)
  have h84 := @run_callFunc_extern Tryz.prog 127 _ (ReflectliteType.abiMethod fun t => do pure (.int .u8 (← Rtype.kind t))) Tryz.func127 (by kernel_rfl) (by kernel_rfl) (by kernel_rfl) (by kernel_rfl)
  have h94 := @run_callFunc_extern Tryz.prog 138 _ (ReflectliteType.method ReflectliteType.elem) Tryz.func138 (by kernel_rfl) (by kernel_rfl) (by kernel_rfl) (by kernel_rfl)
  have h95 := @run_callFunc_extern Tryz.prog 139 _ (ReflectliteType.relation "Implements" ReflectliteType.implements_) Tryz.func139 (by kernel_rfl) (by kernel_rfl) (by kernel_rfl) (by kernel_rfl)
  have h44 := @run_callFunc_extern Tryz.prog 79 _ ReflectliteType.typeOf Tryz.func79 (by kernel_rfl) (by kernel_rfl) (by kernel_rfl) (by kernel_rfl)
  have h92 := @run_callFunc_extern Tryz.prog 136 _ (ReflectliteType.relation "AssignableTo" ReflectliteType.assignableTo) Tryz.func136 (by kernel_rfl) (by kernel_rfl) (by kernel_rfl) (by kernel_rfl)
  have h45 := @run_callFunc_extern Tryz.prog 80 _ (ReflectliteValue.method (ReflectliteValue.valueError "reflectlite.Value.Elem" 0) ReflectliteValue.elem) Tryz.func80 (by kernel_rfl) (by kernel_rfl) (by kernel_rfl) (by kernel_rfl)
  have h46 := @run_callFunc_extern Tryz.prog 81 _ ReflectliteValue.set Tryz.func81 (by kernel_rfl) (by kernel_rfl) (by kernel_rfl) (by kernel_rfl)
  have tO := af_typeOf50
  have mA := as_methodAssignableTo
  have a25 := af_assignable50
  have v25 := af_valueOf50 x y
  have f6 := af_valueOf55
  have f7 := af_type55
  have mK := as_methodKind
  have mE := as_methodElem
  have mI := as_methodImplements
  have k27 := af_kind55
  have k25 := af_kind50
  have e27 := af_elem55
  have i25 := af_implements50
  have hlt : 0 < w.heap.size := by
    rcases Nat.eq_zero_or_pos w.heap.size with h0 | h
    · simp [World.cell?, h0] at hg
    · exact h
  have htl := lt_row ht0
  let w1 := w.alloc (.cells #[.pointer (some ⟨t, 0, none⟩)] 92)
  let w2 := w1.alloc (.cells #[.pointer (some ⟨2, 92, none⟩), .pointer (some ⟨w.heap.size, 0, none⟩), .int .u64 150] 123)
  let w3 := w2.alloc (.cells #[.pointer (some ⟨2, 92, none⟩), .pointer (some ⟨w.heap.size, 0, none⟩), .int .u64 150] 123)
  let w4 := w3.alloc (.cells #[.int .i64 x, .int .i64 y] 87)
  have n8 := af_isNil55 ⟨w.heap.size, 0, none⟩ ⟨t, 0, none⟩ w2 (by simp [w2, w1])
  have hg2 : w2.cell? ⟨0, 0, none⟩ = some (.iface 139 (.agg #[.pointer (some ⟨2, 89, none⟩)])) := by
    rw [World.cell?_alloc_lt _ _ ⟨0, 0, none⟩ (by simp [w1]), World.cell?_alloc_lt _ _ ⟨0, 0, none⟩ hlt]; exact hg
  have el := af_elemV55 ⟨w.heap.size, 0, none⟩ ⟨t, 0, none⟩ w3 (by rw [World.cell?_alloc_lt _ _ ⟨w.heap.size, 0, none⟩ (by simp [w2, w1]; omega)]; simp [w2, w1])
  have hb4 : Below w.heap.size w w4 := ((((Below.refl _ _).alloc (Nat.le_refl _) _).alloc (by simp) _).alloc (by simp; omega) _).alloc (by simp; omega) _
  have ht4 : w4.heap[t]? = some (.cells #[.int .i64 o0, .int .i64 o1] 87 (0, 0)) := (hb4.block t htl).trans ht0
  have hs4 : w4.heap[w.heap.size + 1 + 1 + 1]? = some (.cells #[.int .i64 x, .int .i64 y] 87 (0, 0)) := by
    have := heap_alloc_new w3 (.cells #[.int .i64 x, .int .i64 y] 87)
    rwa [show w3.heap.size = w.heap.size + 1 + 1 + 1 by simp [w3, w2, w1]] at this
  have st := af_set50 t (w.heap.size + 1 + 1 + 1) x y o0 o1 w4 hs4 ht4
  have HF : Hid (((w4.setCell ⟨t, 0, none⟩ (.int .i64 x)).setCell ⟨t, 1, none⟩ (.int .i64 y)).heap[t]? = some (.cells [.int .i64 x, .int .i64 y].toArray 87 (0, 0))) := by
    refine Lib.hid ?_
    have q1 := set_row (cs := [.int .i64 o0, .int .i64 o1]) (i := 0) ht4 (.int .i64 x)
    exact set_row (i := 1) q1 (.int .i64 y)
  have HG : Hid (w.grownBy ((w4.setCell ⟨t, 0, none⟩ (.int .i64 x)).setCell ⟨t, 1, none⟩ (.int .i64 y)) (some t)) :=
    grown_trans (grown_trans (grown_of hb4 (some t)) (grown_setCell _ t 0 _)) (grown_setCell _ t 1 _)
  clear hb4 ht4 hs4 ht0
  simp only [w1, w2, w3, w4] at *
  go_enter Tryz.func43, Tryz.ntmps43
  go_wp2
  refine wp_loop_rounds 1 ?_
  rw [rounds_succ]
  go_wp2
  go_ret
  exact ⟨rfl, HF.out, HG.out⟩
theorem ta_failure (v : Value) (w : World) : (Instr.typeAssert (.iface 87 v) 20 89 true).run Tryz.prog w = .ok (.tuple #[.iface 87 v, .bool true]) w := by kernel_rfl

set_option maxHeartbeats 2000000 in
set_option maxRecDepth 100000 in
set_option linter.unusedSimpArgs false in
theorem wentUp_hit (x y : Int) (w : World) (hg : w.cell? ⟨0, 0, none⟩ = some (.iface 139 (.agg #[.pointer (some ⟨2, 89, none⟩)]))) : Calls Tryz.prog 22 #[failV x y] w fun e w' => e = .returned (.tuple #[.agg #[.int .i64 x, .int .i64 y], .bool true]) ∧ Below w.heap.size w w' := by
  have hta := ta_failure
  unfold failV
  have hb0 : Below w.heap.size w ((w.alloc (.cells #[.int .i64 0, .int .i64 0] 35)).alloc (.cells #[.int .i64 0, .int .i64 0] 87)) := (((Below.refl _ _).alloc (Nat.le_refl _) _).alloc (by simp) _)
  have hx : ((w.alloc (.cells #[.int .i64 0, .int .i64 0] 35)).alloc (.cells #[.int .i64 0, .int .i64 0] 87)).heap[w.heap.size]? = some (.cells #[.int .i64 0, .int .i64 0] 35 (0, 0)) := by
    rw [heap_alloc_old _ _ (by simp), heap_alloc_new]
  have hy : ((w.alloc (.cells #[.int .i64 0, .int .i64 0] 35)).alloc (.cells #[.int .i64 0, .int .i64 0] 87)).heap[w.heap.size + 1]? = some (.cells #[.int .i64 0, .int .i64 0] 87 (0, 0)) := by
    have := heap_alloc_new (w.alloc (.cells #[.int .i64 0, .int .i64 0] 35)) (.cells #[.int .i64 0, .int .i64 0] 87)
    simpa using this
  have hg1 := keep_cell hg hb0
  have C := af_hit (w.heap.size + 1) x y 0 0 _ hg1 hy
  unfold failV at C
  have hsz : ((w.alloc (.cells #[.int .i64 0, .int .i64 0] 35)).alloc (.cells #[.int .i64 0, .int .i64 0] 87)).heap.size = w.heap.size + 2 := by simp
  go_enter Tryz.func22, Tryz.ntmps22
  go_upto_region 2 with fail
  generalize ((w.alloc (.cells #[.int .i64 0, .int .i64 0] 35)).alloc (.cells #[.int .i64 0, .int .i64 0] 87)) = w1 at hb0 hx hy C hsz ⊢
  go_wp2_with (go_at_call 43; go_must (with_reducible refine C.mono ?_; (rintro e w2 ⟨rfl, hT, hgr⟩); refine Hid.out ?_))
  refine Lib.hid ?_
  have hx2 : w2.heap[w.heap.size]? = some (.cells #[.int .i64 0, .int .i64 0] 35 (0, 0)) := (hgr.block _ (by omega) (by simp)).trans hx
  have t0 := cell_row (i := 0) hT rfl
  have t1 := cell_row (i := 1) hT rfl
  have x0 : w2.cell? ⟨w.heap.size, 0, none⟩ = some (.int .i64 0) := by simp only [World.cell?, hx2]; rfl
  have x1 : w2.cell? ⟨w.heap.size, 1, none⟩ = some (.int .i64 0) := by simp only [World.cell?, hx2]; rfl
  have z0 : w2.frozen? ⟨w.heap.size, 0, none⟩ = false := by simp only [World.frozen?, hx2]; rfl
  have z1 : w2.frozen? ⟨w.heap.size, 1, none⟩ = false := by simp only [World.frozen?, hx2]; rfl
  have hb2 : Below w.heap.size w w2 := hb0.grown hgr (by omega) (fun k hk => by simp at hk; omega)
  have HB3 := hide (show Below w.heap.size w ((w2.setCell ⟨w.heap.size, 0, none⟩ (.int .i64 x)).setCell ⟨w.heap.size, 1, none⟩ (.int .i64 y)) from (hb2.setCell (Nat.le_refl _) _).setCell (Nat.le_refl _) _)
  clear hx hy C hgr hT hx2 hb0 hb2 hsz
  go_wp2_with fail
  have q0 : ((w2.setCell ⟨w.heap.size, 0, none⟩ (.int .i64 x)).setCell ⟨w.heap.size, 1, none⟩ (.int .i64 y)).cell? ⟨w.heap.size, 0, none⟩ = some (.int .i64 x) := by go_simp
  have q1 : ((w2.setCell ⟨w.heap.size, 0, none⟩ (.int .i64 x)).setCell ⟨w.heap.size, 1, none⟩ (.int .i64 y)).cell? ⟨w.heap.size, 1, none⟩ = some (.int .i64 y) := by go_simp
  simp only [bodyPost, results, Tryz.results22]
  exact ⟨trivial, _, by simp [go_sem, q0, q1], rfl, HB3.out⟩
end Go.Proofs.YtnkfdpnommjlcaaGreatDoor
/- Run's and Resume's deferred closures, where something went up. -/

namespace Go.Proofs.YtnkfdpnommjlcaaGreatDoor
open Go.RowKit Go.ChangeShapes Go.WideShapes Go.ChangeAt Go.Deep

theorem setCells_rowAt {b : Nat} {t : TypeId} : ∀ (vs old pre : List Value) (w : World), w.heap[b]? = some (.cells (pre ++ old).toArray t (0, 0)) → old.length = vs.length → (w.setCells b pre.length vs).heap[b]? = some (.cells (pre ++ vs).toArray t (0, 0))
  | [], old, pre, w, h, hl => by
    have : old = [] := List.eq_nil_of_length_eq_zero hl
    subst this
    exact h
  | v :: r, old, pre, w, h, hl => by
    cases old with
    | nil => simp at hl
    | cons o os =>
      unfold World.setCells
      have h1 : (w.setCell ⟨b, pre.length, none⟩ v).heap[b]? = some (.cells ((pre ++ [v]) ++ os).toArray t (0, 0)) := by
        rw [heap_setCell_same w b pre.length _ t v h]
        simp
      have := setCells_rowAt r os (pre ++ [v]) _ h1 (by simpa using hl)
      simpa using this
theorem setCells_row {w : World} {b : Nat} {t : TypeId} {old vs : List Value} (h : w.heap[b]? = some (.cells old.toArray t (0, 0))) (hl : old.length = vs.length) : (w.setCells b 0 vs).heap[b]? = some (.cells vs.toArray t (0, 0)) := by
  simpa using setCells_rowAt vs old [] w h hl
def Mc.stL (M : Mc) : List Value := [.int .i64 M.fn, .int .i64 M.pc, .int .i64 M.fu, M.sv, M.lv, .int .i64 M.kd, .bool M.wt]
def Mc.evL (M : Mc) : List Value := [.int .i64 M.ek, .int .i64 M.ef, .int .i64 M.ei, .int .i64 M.es, M.av, .int .i64 M.er, .int .i64 M.ev]

set_option maxHeartbeats 4000000 in
set_option maxRecDepth 100000 in
set_option linter.unusedSimpArgs false in
theorem rund_up {B : Bd} {w : World} {m : Nat} {M : Mc} {st lo ar : List Int} (h : Mach B w m M st lo ar) (a b c : Nat) (hbx : B.bx = some (a, .pointer (some ⟨m, 0, none⟩))) (x y : Int) (s0 s1 s2 s3 s4 s5 s6 e0 e1 e2 e3 e4 e5 e6 : Value)
    (hS : w.heap[b]? = some (.cells #[s0, s1, s2, s3, s4, s5, s6] 29 (0, 0))) (hE : w.heap[c]? = some (.cells #[e0, e1, e2, e3, e4, e5, e6] 37 (0, 0))) (hbB : b < B.n) (hcB : c < B.n) (older : List PanicEntry) (hg : w.cell? ⟨0, 0, none⟩ = some (.iface 139 (.agg #[.pointer (some ⟨2, 89, none⟩)]))) (N : Nat) (hNb : N ≤ b) (hNc : N ≤ c) :
    CallsD Tryz.prog 48 #[.pointer (some ⟨a, 0, none⟩), .pointer (some ⟨b, 0, none⟩), .pointer (some ⟨c, 0, none⟩)] (.panicking ({ v := failV x y, recovered := false } :: older)) w fun e u' w' =>
      e = .returned (.tuple #[]) ∧ u' = .panicking ({ v := failV x y, recovered := true } :: older) ∧ Mach B w' m { M with ek := 3, er := x, ev := y } st lo ar ∧ w'.heap[b]? = some (.cells { M with ek := 3, er := x, ev := y }.stL.toArray 29 (0, 0)) ∧ w'.heap[c]? = some (.cells { M with ek := 3, er := x, ev := y }.evL.toArray 37 (0, 0)) ∧ Below N w w' := by
  refine callsD_of_wpS Tryz.func48 rfl fun c₀ cs hu => ?_
  have hbm := h.bm
  apply wpS_seq
  apply wpS_region
  simp [wpOpsS, go_sem, recoverD, hu, Tryz.ntmps48, Exit.thenS, Array.replicate]
  refine (wentUp_hit x y w hg).mono ?_
  rintro e w1 ⟨rfl, hb1⟩
  have hnw := heap_alloc_new w1 (.cells #[.int .i64 0, .int .i64 0] 35)
  have n0 : (w1.alloc (.cells #[.int .i64 0, .int .i64 0] 35)).cell? ⟨w1.heap.size, 0, none⟩ = some (.int .i64 0) := by simp only [World.cell?, hnw]; rfl
  have n1 : (w1.alloc (.cells #[.int .i64 0, .int .i64 0] 35)).cell? ⟨w1.heap.size, 1, none⟩ = some (.int .i64 0) := by simp only [World.cell?, hnw]; rfl
  have z0 : (w1.alloc (.cells #[.int .i64 0, .int .i64 0] 35)).frozen? ⟨w1.heap.size, 0, none⟩ = false := by simp only [World.frozen?, hnw]; rfl
  have z1 : (w1.alloc (.cells #[.int .i64 0, .int .i64 0] 35)).frozen? ⟨w1.heap.size, 1, none⟩ = false := by simp only [World.frozen?, hnw]; rfl
  simp [go_sem, Exit.thenS, n0, n1, z0, z1]
  have hbel : Below w.heap.size w (w1.alloc (.cells #[.int .i64 x, .int .i64 y] 35)) := hb1.alloc hb1.size _
  have hr2 : (w1.alloc (.cells #[.int .i64 x, .int .i64 y] 35)).heap[w1.heap.size]? = some (.cells [.int .i64 x, .int .i64 y].toArray 35 (0, 0)) := heap_alloc_new w1 _
  clear n0 n1 z0 z1 hb1 hnw
  refine wpS_of_wp ?_
  generalize (w1.alloc (.cells #[.int .i64 x, .int .i64 y] 35)) = w2 at hbel hr2 ⊢
  generalize w1.heap.size = rb at hr2 ⊢
  have h2 := h.below hbel
  have hS2 := heap_row hS hbel
  have hE2 := heap_row hE hbel
  have r0 := cell_row (i := 0) hr2 rfl
  have r1 := cell_row (i := 1) hr2 rfl
  have k2 : w2.cell? ⟨a, 0, none⟩ = some (.pointer (some ⟨m, 0, none⟩)) := cell_row (cs := [.pointer (some ⟨m, 0, none⟩)]) (i := 0) (h2.kept _ _ hbx) rfl
  have CE := ended_any h2 x y
  have hlS := lt_row hS
  have hlE := lt_row hE
  have hbc : b ≠ c := fun e => by
    subst e
    rw [hS] at hE
    simp at hE
  clear hr2 hS hE
  go_wp2_with (go_at_call 29; go_must (with_reducible refine CE.mono ?_; (rintro e w5 ⟨rfl, h5, hb5⟩); refine Hid.out ?_))
  refine Lib.hid ?_
  have hS5 : w5.heap[b]? = some (.cells #[s0, s1, s2, s3, s4, s5, s6] 29 (0, 0)) := (hb5.block b hbB).trans hS2
  have hE5 : w5.heap[c]? = some (.cells #[e0, e1, e2, e3, e4, e5, e6] 37 (0, 0)) := (hb5.block c hcB).trans hE2
  have z0 : w5.cell? ⟨b, 0, none⟩ = some s0 := by simp [World.cell?, hS5]
  have zf0 : w5.frozen? ⟨b, 0, none⟩ = false := by simp [World.frozen?, hS5]
  have y0 : w5.cell? ⟨c, 0, none⟩ = some e0 := by simp [World.cell?, hE5]
  have yf0 : w5.frozen? ⟨c, 0, none⟩ = false := by simp [World.frozen?, hE5]
  have z1 : w5.cell? ⟨b, 1, none⟩ = some s1 := by simp [World.cell?, hS5]
  have zf1 : w5.frozen? ⟨b, 1, none⟩ = false := by simp [World.frozen?, hS5]
  have y1 : w5.cell? ⟨c, 1, none⟩ = some e1 := by simp [World.cell?, hE5]
  have yf1 : w5.frozen? ⟨c, 1, none⟩ = false := by simp [World.frozen?, hE5]
  have z2 : w5.cell? ⟨b, 2, none⟩ = some s2 := by simp [World.cell?, hS5]
  have zf2 : w5.frozen? ⟨b, 2, none⟩ = false := by simp [World.frozen?, hS5]
  have y2 : w5.cell? ⟨c, 2, none⟩ = some e2 := by simp [World.cell?, hE5]
  have yf2 : w5.frozen? ⟨c, 2, none⟩ = false := by simp [World.frozen?, hE5]
  have z3 : w5.cell? ⟨b, 3, none⟩ = some s3 := by simp [World.cell?, hS5]
  have zf3 : w5.frozen? ⟨b, 3, none⟩ = false := by simp [World.frozen?, hS5]
  have y3 : w5.cell? ⟨c, 3, none⟩ = some e3 := by simp [World.cell?, hE5]
  have yf3 : w5.frozen? ⟨c, 3, none⟩ = false := by simp [World.frozen?, hE5]
  have z4 : w5.cell? ⟨b, 4, none⟩ = some s4 := by simp [World.cell?, hS5]
  have zf4 : w5.frozen? ⟨b, 4, none⟩ = false := by simp [World.frozen?, hS5]
  have y4 : w5.cell? ⟨c, 4, none⟩ = some e4 := by simp [World.cell?, hE5]
  have yf4 : w5.frozen? ⟨c, 4, none⟩ = false := by simp [World.frozen?, hE5]
  have z5 : w5.cell? ⟨b, 5, none⟩ = some s5 := by simp [World.cell?, hS5]
  have zf5 : w5.frozen? ⟨b, 5, none⟩ = false := by simp [World.frozen?, hS5]
  have y5 : w5.cell? ⟨c, 5, none⟩ = some e5 := by simp [World.cell?, hE5]
  have yf5 : w5.frozen? ⟨c, 5, none⟩ = false := by simp [World.frozen?, hE5]
  have z6 : w5.cell? ⟨b, 6, none⟩ = some s6 := by simp [World.cell?, hS5]
  have zf6 : w5.frozen? ⟨b, 6, none⟩ = false := by simp [World.frozen?, hS5]
  have y6 : w5.cell? ⟨c, 6, none⟩ = some e6 := by simp [World.cell?, hE5]
  have yf6 : w5.frozen? ⟨c, 6, none⟩ = false := by simp [World.frozen?, hE5]
  have hcb := hbc.symm
  have HS5 := hide hS5
  have HE5 := hide hE5
  have H5 := hide h5
  have HB5 := hide (show Below N w w5 from (hbel.mono (by omega)).trans (hb5.mono (by omega)))
  obtain ⟨fn, pc, fu, sv, lv, kd, wt, j, ek, ef, ei, es, av, er0, ev0⟩ := M
  obtain ⟨sa, sc, rfl, _⟩ := slice_form h.own rfl
  obtain ⟨la, lc, rfl, _⟩ := slice_form h.loc rfl
  obtain ⟨aa, ac, rfl, _⟩ := slice_form h.arg rfl
  simp only [Mc.stV, Mc.evV]
  clear hS5 hE5 h5 hb5 CE k2 r0 r1 h2 hS2 hE2 hbel h hg
  go_wp2_with fail
  have lS : ([.int .i64 fn, .int .i64 pc, .int .i64 fu, .slice sa st.length sc, .slice la lo.length lc, .int .i64 kd, .bool wt] : List Value).length = 7 := rfl
  have FIN : Mach B ((w5.setCells b 0 [.int .i64 fn, .int .i64 pc, .int .i64 fu, .slice sa st.length sc, .slice la lo.length lc, .int .i64 kd, .bool wt]).setCells c 0 [.int .i64 3, .int .i64 ef, .int .i64 ei, .int .i64 es, .slice aa ar.length ac, .int .i64 x, .int .i64 y]) m ⟨fn, pc, fu, .slice sa st.length sc, .slice la lo.length lc, kd, wt, j, 3, ef, ei, es, .slice aa ar.length ac, x, y⟩ st lo ar ∧
      ((w5.setCells b 0 [.int .i64 fn, .int .i64 pc, .int .i64 fu, .slice sa st.length sc, .slice la lo.length lc, .int .i64 kd, .bool wt]).setCells c 0 [.int .i64 3, .int .i64 ef, .int .i64 ei, .int .i64 es, .slice aa ar.length ac, .int .i64 x, .int .i64 y]).heap[b]? = some (.cells [.int .i64 fn, .int .i64 pc, .int .i64 fu, .slice sa st.length sc, .slice la lo.length lc, .int .i64 kd, .bool wt].toArray 29 (0, 0)) ∧
      ((w5.setCells b 0 [.int .i64 fn, .int .i64 pc, .int .i64 fu, .slice sa st.length sc, .slice la lo.length lc, .int .i64 kd, .bool wt]).setCells c 0 [.int .i64 3, .int .i64 ef, .int .i64 ei, .int .i64 es, .slice aa ar.length ac, .int .i64 x, .int .i64 y]).heap[c]? = some (.cells [.int .i64 3, .int .i64 ef, .int .i64 ei, .int .i64 es, .slice aa ar.length ac, .int .i64 x, .int .i64 y].toArray 37 (0, 0)) ∧
      Below N w ((w5.setCells b 0 [.int .i64 fn, .int .i64 pc, .int .i64 fu, .slice sa st.length sc, .slice la lo.length lc, .int .i64 kd, .bool wt]).setCells c 0 [.int .i64 3, .int .i64 ef, .int .i64 ei, .int .i64 es, .slice aa ar.length ac, .int .i64 x, .int .i64 y]) := by
    refine ⟨?_, ?_, ?_, setCells_below (by omega) _ _ (setCells_below (by omega) _ _ HB5.out)⟩
    · refine H5.out.far (fun g q t ht hg => ?_)
      rw [setCells_other (k := g) (b := c) (by intro e; rw [e, HE5.out] at hg; simp only [Option.some.injEq, Obj.cells.injEq] at hg; rcases ht with q | q | q <;> (rw [q] at hg; exact absurd hg.2.1 (by decide))) _ 0 _, setCells_other (k := g) (b := b) (by intro e; rw [e, HS5.out] at hg; simp only [Option.some.injEq, Obj.cells.injEq] at hg; rcases ht with q | q | q <;> (rw [q] at hg; exact absurd hg.2.1 (by decide))) _ 0 _]
    · rw [setCells_other (k := b) (b := c) hbc _ 0 _]
      exact setCells_row (old := [s0, s1, s2, s3, s4, s5, s6]) HS5.out rfl
    · exact setCells_row (old := [e0, e1, e2, e3, e4, e5, e6]) ((setCells_other (k := c) (b := b) hcb _ 0 w5).trans HE5.out) rfl
  clear HS5 HE5 H5 HB5
  cases c₀
  simp only [bodyPostS, results, Tryz.results48]
  exact ⟨trivial, _, rfl, .tuple #[], by simp [go_sem], rfl, rfl, FIN.1, FIN.2.1, FIN.2.2.1, FIN.2.2.2⟩
end Go.Proofs.YtnkfdpnommjlcaaGreatDoor
