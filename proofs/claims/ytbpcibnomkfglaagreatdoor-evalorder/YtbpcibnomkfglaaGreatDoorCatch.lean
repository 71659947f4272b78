/- errors.As at a check.wrong. -/
import Derived.Test.YtbpcibnomkfglaaGreatDoorNeed
import Derived.LaidEql
import Derived.Stop.Asserts
import Derived.RowKitTokens
import Derived.Lib.Hide
import Derived.Laws.IdiomCopy
namespace Go.Proofs.YtbpcibnomkfglaaGreatDoor
open Go.RowKit Go.Extern.Stop Go.Stop Go.Extern Go.ChangeShapes Go.WideShapes Go.ChangeAt Go.Deep

theorem as_valueOf55 (t : Addr) (w : World) : (ReflectliteValue.unpack (.iface 63 (.pointer (some t)))).run Tryz.prog w
    = .ok (.agg #[.pointer (some ⟨2, 63, none⟩), .pointer (some ⟨w.heap.size, 0, none⟩), .int .u64 150]) (w.alloc (.cells #[.pointer (some t)] 63)) := by kernel_rfl
theorem as_type55 (a : Addr) (w : World) : (ReflectliteValue.methodAny (ReflectliteValue.valueError "reflectlite.Value.Type" 0) (fun t _ _ _ => ReflectliteType.toType t) #[.agg #[.pointer (some ⟨2, 63, none⟩), .pointer (some a), .int .u64 150]]).run Tryz.prog w
    = .ok (.iface 107 (.agg #[.pointer (some ⟨2, 63, none⟩)])) w := by kernel_rfl
theorem as_methodKind (h : Value) (w : World) : (Go.method 295 107 (.agg #[h]) "Kind").run Tryz.prog w = .ok (109, h) w := by kernel_rfl
theorem as_kind55 (w : World) : ((ReflectliteType.abiMethod fun t => (fun a : Nat => Value.int IntKind.u8 (a : Int)) <$> Rtype.kind t) #[.pointer (some ⟨2, 63, none⟩)]).run Tryz.prog w = .ok (.int .u8 22) w := by kernel_rfl
theorem as_kind50 (w : World) : ((ReflectliteType.abiMethod fun t => (fun a : Nat => Value.int IntKind.u8 (a : Int)) <$> Rtype.kind t) #[.pointer (some ⟨2, 58, none⟩)]).run Tryz.prog w = .ok (.int .u8 25) w := by kernel_rfl
theorem rlm (z : Sem Value) (f : TypeId → Addr → Nat → Nat → Sem Value) (v : Value) :
    ReflectliteValue.method z f #[v] = (do match ← ReflectliteValue.parts v with | none => z | some (t, a, fl) => f t a fl (fl % 32)) := rfl
theorem as_parts55 (a : Addr) (w : World) : (ReflectliteValue.parts (.agg #[.pointer (some ⟨2, 63, none⟩), .pointer (some a), .int .u64 150])).run Tryz.prog w = .ok (some (63, a, 150)) w := by kernel_rfl
theorem as_isNil55 (a p : Addr) (W : World) (ha : W.cell? a = some (.pointer (some p))) :
    (ReflectliteValue.method (ReflectliteValue.valueError "reflectlite.Value.IsNil" 0) ReflectliteValue.isNil #[.agg #[.pointer (some ⟨2, 63, none⟩), .pointer (some a), .int .u64 150]]).run Tryz.prog W = .ok (.bool false) W := by
  rw [rlm]
  simp only [Sem.run_bind, as_parts55, Result.andThen]
  simp [ReflectliteValue.isNil, loadVar, isAgg, underlying, Tryz.underlying63, ha, Result.andThen]
theorem as_methodElem (h : Value) (w : World) : (Go.method 295 107 (.agg #[h]) "Elem").run Tryz.prog w = .ok (119, .agg #[h]) w := by kernel_rfl
theorem as_methodImplements (h : Value) (w : World) : (Go.method 295 107 (.agg #[h]) "Implements").run Tryz.prog w = .ok (120, .agg #[h]) w := by kernel_rfl
theorem as_methodAssignableTo (h : Value) (w : World) : (Go.method 295 107 (.agg #[h]) "AssignableTo").run Tryz.prog w = .ok (117, .agg #[h]) w := by kernel_rfl
theorem as_elem55 (w : World) : (ReflectliteType.method ReflectliteType.elem #[.agg #[.pointer (some ⟨2, 63, none⟩)]]).run Tryz.prog w = .ok (.iface 107 (.agg #[.pointer (some ⟨2, 58, none⟩)])) w := by kernel_rfl
theorem as_implements50 (w : World) : (ReflectliteType.relation "Implements" ReflectliteType.implements_ #[.agg #[.pointer (some ⟨2, 58, none⟩)], .iface 107 (.agg #[.pointer (some ⟨2, 60, none⟩)])]).run Tryz.prog w = .ok (.bool true) w := by kernel_rfl
theorem as_typeOf50 (v : Value) (w : World) : (ReflectliteType.typeOf #[.iface 58 v]).run Tryz.prog w = .ok (.iface 107 (.agg #[.pointer (some ⟨2, 58, none⟩)])) w := by kernel_rfl
theorem as_assignable50 (w : World) : (ReflectliteType.relation "AssignableTo" ReflectliteType.assignableTo #[.agg #[.pointer (some ⟨2, 58, none⟩)], .iface 107 (.agg #[.pointer (some ⟨2, 58, none⟩)])]).run Tryz.prog w = .ok (.bool true) w := by kernel_rfl
theorem as_valueOf50 (x y z : Int) (w : World) : (ReflectliteValue.unpack (.iface 58 (.agg #[.int .i64 x, .int .i64 y, .int .i64 z]))).run Tryz.prog w
    = .ok (.agg #[.pointer (some ⟨2, 58, none⟩), .pointer (some ⟨w.heap.size, 0, none⟩), .int .u64 153]) (w.alloc (.cells #[.int .i64 x, .int .i64 y, .int .i64 z] 58)) := by kernel_rfl
theorem as_elemOf55 (w : World) : (Rtype.elem? 63).run Tryz.prog w = .ok (some 58) w := by kernel_rfl
theorem as_mk50 (p : Addr) (w : World) : (ReflectliteValue.mk 58 p ReflectliteValue.flagAddr).run Tryz.prog w = .ok (.agg #[.pointer (some ⟨2, 58, none⟩), .pointer (some p), .int .u64 409]) w := by kernel_rfl
theorem as_elemV55 (a p : Addr) (W : World) (ha : W.cell? a = some (.pointer (some p))) :
    (ReflectliteValue.method (ReflectliteValue.valueError "reflectlite.Value.Elem" 0) ReflectliteValue.elem #[.agg #[.pointer (some ⟨2, 63, none⟩), .pointer (some a), .int .u64 150]]).run Tryz.prog W
      = .ok (.agg #[.pointer (some ⟨2, 58, none⟩), .pointer (some p), .int .u64 409]) W := by
  rw [rlm]
  simp only [Sem.run_bind, as_parts55, Result.andThen]
  simp [ReflectliteValue.elem, loadVar, isAgg, underlying, Tryz.underlying63, ha, Result.andThen, as_elemOf55, as_mk50]
theorem rls (v x : Value) : ReflectliteValue.set #[v, x] = (do
    let (some (dst, a, fl), some (src, b, _)) := (← ReflectliteValue.parts v, ← ReflectliteValue.parts x)
      | unsupported (.noEntry "extern/(internal/reflectlite.Value).Set.zeroValue")
    if fl / ReflectliteValue.flagAddr % 2 == 0 then unsupported (.noEntry "extern/(internal/reflectlite.Value).Set.unaddressable")
    let val ← loadVar src b
    if ← Rtype.directlyAssignable dst src then storeVar dst a val
    else if ← Rtype.implements dst src then
      if (← Rtype.kind src) == 20 then
        match val with
        | .nilIface => unsupported (.noEntry "extern/reflectlite: a nil value of one interface type handed on as a value of another")
        | _ => storeVar dst a val
      else storeVar dst a (.iface src val)
    else panicString ("reflectlite.Set: value of type " ++ (← Rtype.spelt src) ++ " is not assignable to type " ++ (← Rtype.spelt dst))
    pure (.tuple #[])) := rfl
theorem as_parts50a (a : Addr) (w : World) : (ReflectliteValue.parts (.agg #[.pointer (some ⟨2, 58, none⟩), .pointer (some a), .int .u64 409])).run Tryz.prog w = .ok (some (58, a, 409)) w := by kernel_rfl
theorem as_parts50 (a : Addr) (w : World) : (ReflectliteValue.parts (.agg #[.pointer (some ⟨2, 58, none⟩), .pointer (some a), .int .u64 153])).run Tryz.prog w = .ok (some (58, a, 153)) w := by kernel_rfl
theorem as_direct50 (w : World) : (Rtype.directlyAssignable 58 58).run Tryz.prog w = .ok true w := by kernel_rfl
theorem as_set50 (t b : Nat) (x y z o0 o1 o2 : Int) (W : World) (hb : W.heap[b]? = some (.cells #[.int .i64 x, .int .i64 y, .int .i64 z] 58 (0, 0))) (ht : W.heap[t]? = some (.cells #[.int .i64 o0, .int .i64 o1, .int .i64 o2] 58 (0, 0))) :
    (ReflectliteValue.set #[.agg #[.pointer (some ⟨2, 58, none⟩), .pointer (some ⟨t, 0, none⟩), .int .u64 409], .agg #[.pointer (some ⟨2, 58, none⟩), .pointer (some ⟨b, 0, none⟩), .int .u64 153]]).run Tryz.prog W
      = .ok (.tuple #[]) (((W.setCell ⟨t, 0, none⟩ (.int .i64 x)).setCell ⟨t, 1, none⟩ (.int .i64 y)).setCell ⟨t, 2, none⟩ (.int .i64 z)) := by
  rw [rls]
  simp only [Sem.run_bind, as_parts50a, as_parts50, Result.andThen]
  have hl : (loadCells ⟨b, 0, none⟩ 3).run Tryz.prog W = .ok #[.int .i64 x, .int .i64 y, .int .i64 z] W :=
    run_loadCells_list (P := Tryz.prog) W ⟨b, 0, none⟩ [.int .i64 x, .int .i64 y, .int .i64 z] (fun j v hv => by rw [add_none, Nat.zero_add]; exact cell_row (cs := [.int .i64 x, .int .i64 y, .int .i64 z]) hb hv)
  have hs : (storeCells ⟨t, 0, none⟩ [.int .i64 x, .int .i64 y, .int .i64 z]).run Tryz.prog W = .ok () (((W.setCell ⟨t, 0, none⟩ (.int .i64 x)).setCell ⟨t, 1, none⟩ (.int .i64 y)).setCell ⟨t, 2, none⟩ (.int .i64 z)) :=
    run_storeCells_cells (P := Tryz.prog) t 0 [.int .i64 x, .int .i64 y, .int .i64 z] 0 W (fun j hj => by
      have : ∃ v, ([.int .i64 o0, .int .i64 o1, .int .i64 o2] : List Value)[j]? = some v := ⟨_, List.getElem?_eq_getElem (by simpa using hj)⟩
      obtain ⟨v, hv⟩ := this
      rw [show 0 + 0 + j = j by omega, cell_row (cs := [.int .i64 o0, .int .i64 o1, .int .i64 o2]) ht hv]; rfl)
      (fun j hj => frozen_row (cs := [.int .i64 o0, .int .i64 o1, .int .i64 o2]) ht) (fun v hv => by simp at hv; rcases hv with rfl | rfl | rfl <;> rfl)
  simp [ReflectliteValue.flagAddr, loadVar, isAgg, underlying, Tryz.underlying58, Result.andThen, as_direct50, storeVar, Value.cells, hl, hs]

set_option maxHeartbeats 4000000 in
set_option maxRecDepth 100000 in
/-- errors.As, at an error that is a wrong, and where a wrong is to be laid. -/
theorem as_hit (t : Nat) (x y z o0 o1 o2 : Int) (w : World) (hg : w.cell? ⟨0, 0, none⟩ = some (.iface 107 (.agg #[.pointer (some ⟨2, 60, none⟩)]))) (ht0 : w.heap[t]? = some (.cells #[.int .i64 o0, .int .i64 o1, .int .i64 o2] 58 (0, 0))) :
    Calls Tryz.prog 19 #[wrongV x y z, .iface 63 (.pointer (some ⟨t, 0, none⟩))] w fun ev w' => ev = .returned (.bool true) ∧ w'.heap[t]? = some (.cells [.int .i64 x, .int .i64 y, .int .i64 z].toArray 58 (0, 0)) ∧ w.grownBy w' (some t) := by
  unfold wrongV
  have h27 := @run_callFunc_extern Tryz.prog 24 _ (fun args => ReflectliteValue.unpack (args.getD 0 (.tuple #[]))) Tryz.func24 (by kernel_rfl) (by kernel_rfl) (by kernel_rfl) (by kernel_rfl)
  have h28 := @run_callFunc_extern Tryz.prog 25 _ (ReflectliteValue.methodAny (ReflectliteValue.valueError "reflectlite.Value.Type" 0) (fun t _ _ _ => ReflectliteType.toType t)) Tryz.func25 (by kernel_rfl) (by kernel_rfl) (by kernel_rfl) (by kernel_rfl)
  have h29 := @run_callFunc_extern Tryz.prog 26 _ (ReflectliteValue.method (ReflectliteValue.valueError "reflectlite.Value.IsNil" 0) ReflectliteValue.isNil) Tryz.func26 (by kernel_rfl) (by kernel_rfl) (by kernel_rfl) (by kernel_rfl)
  have h84 := @run_callFunc_extern Tryz.prog 109 _ (ReflectliteType.abiMethod fun t => do pure (.int .u8 (← Rtype.kind t))) Tryz.func109 (by kernel_rfl) (by kernel_rfl) (by kernel_rfl) (by kernel_rfl)
  have h94 := @run_callFunc_extern Tryz.prog 119 _ (ReflectliteType.method ReflectliteType.elem) Tryz.func119 (by kernel_rfl) (by kernel_rfl) (by kernel_rfl) (by kernel_rfl)
  have h95 := @run_callFunc_extern Tryz.prog 120 _ (ReflectliteType.relation "Implements" ReflectliteType.implements_) Tryz.func120 (by kernel_rfl) (by kernel_rfl) (by kernel_rfl) (by kernel_rfl)
  have h44 := @run_callFunc_extern Tryz.prog 41 _ ReflectliteType.typeOf Tryz.func41 (by kernel_rfl) (by kernel_rfl) (by kernel_rfl) (by kernel_rfl)
  have h92 := @run_callFunc_extern Tryz.prog 117 _ (ReflectliteType.relation "AssignableTo" ReflectliteType.assignableTo) Tryz.func117 (by kernel_rfl) (by kernel_rfl) (by kernel_rfl) (by kernel_rfl)
  have h45 := @run_callFunc_extern Tryz.prog 42 _ (ReflectliteValue.method (ReflectliteValue.valueError "reflectlite.Value.Elem" 0) ReflectliteValue.elem) Tryz.func42 (by kernel_rfl) (by kernel_rfl) (by kernel_rfl) (by kernel_rfl)
  have h46 := @run_callFunc_extern Tryz.prog 43 _ ReflectliteValue.set Tryz.func43 (by kernel_rfl) (by kernel_rfl) (by kernel_rfl) (by kernel_rfl)
  have tO := as_typeOf50
  have mA := as_methodAssignableTo
  have a25 := as_assignable50
  have v25 := as_valueOf50 x y z
  have f6 := as_valueOf55
  have f7 := as_type55
  have mK := as_methodKind
  have mE := as_methodElem
  have mI := as_methodImplements
  have k27 := as_kind55
  have k25 := as_kind50
  have e27 := as_elem55
  have i25 := as_implements50
  have hlt : 0 < w.heap.size := by
    rcases Nat.eq_zero_or_pos w.heap.size with h0 | h
    · simp [World.cell?, h0] at hg
    · exact h
  have htl := lt_row ht0
  let w1 := w.alloc (.cells #[.pointer (some ⟨t, 0, none⟩)] 63)
  let w2 := w1.alloc (.cells #[.pointer (some ⟨2, 63, none⟩), .pointer (some ⟨w.heap.size, 0, none⟩), .int .u64 150] 78)
  let w3 := w2.alloc (.cells #[.pointer (some ⟨2, 63, none⟩), .pointer (some ⟨w.heap.size, 0, none⟩), .int .u64 150] 78)
  let w4 := w3.alloc (.cells #[.int .i64 x, .int .i64 y, .int .i64 z] 58)
  have n8 := as_isNil55 ⟨w.heap.size, 0, none⟩ ⟨t, 0, none⟩ w2 (by simp [w2, w1])
  have hg2 : w2.cell? ⟨0, 0, none⟩ = some (.iface 107 (.agg #[.pointer (some ⟨2, 60, none⟩)])) := by
    rw [World.cell?_alloc_lt _ _ ⟨0, 0, none⟩ (by simp [w1]), World.cell?_alloc_lt _ _ ⟨0, 0, none⟩ hlt]; exact hg
  have el := as_elemV55 ⟨w.heap.size, 0, none⟩ ⟨t, 0, none⟩ w3 (by rw [World.cell?_alloc_lt _ _ ⟨w.heap.size, 0, none⟩ (by simp [w2, w1]; omega)]; simp [w2, w1])
  have hb4 : Below w.heap.size w w4 := ((((Below.refl _ _).alloc (Nat.le_refl _) _).alloc (by simp) _).alloc (by simp; omega) _).alloc (by simp; omega) _
  have ht4 : w4.heap[t]? = some (.cells #[.int .i64 o0, .int .i64 o1, .int .i64 o2] 58 (0, 0)) := (hb4.block t htl).trans ht0
  have hs4 : w4.heap[w.heap.size + 1 + 1 + 1]? = some (.cells #[.int .i64 x, .int .i64 y, .int .i64 z] 58 (0, 0)) := by
    have := heap_alloc_new w3 (.cells #[.int .i64 x, .int .i64 y, .int .i64 z] 58)
    rwa [show w3.heap.size = w.heap.size + 1 + 1 + 1 by simp [w3, w2, w1]] at this
  have st := as_set50 t (w.heap.size + 1 + 1 + 1) x y z o0 o1 o2 w4 hs4 ht4
  have HF : Hid ((((w4.setCell ⟨t, 0, none⟩ (.int .i64 x)).setCell ⟨t, 1, none⟩ (.int .i64 y)).setCell ⟨t, 2, none⟩ (.int .i64 z)).heap[t]? = some (.cells [.int .i64 x, .int .i64 y, .int .i64 z].toArray 58 (0, 0))) := by
    refine Lib.hid ?_
    have q1 := set_row (cs := [.int .i64 o0, .int .i64 o1, .int .i64 o2]) (i := 0) ht4 (.int .i64 x)
    have q2 := set_row (i := 1) q1 (.int .i64 y)
    exact set_row (i := 2) q2 (.int .i64 z)
  have HG : Hid (w.grownBy (((w4.setCell ⟨t, 0, none⟩ (.int .i64 x)).setCell ⟨t, 1, none⟩ (.int .i64 y)).setCell ⟨t, 2, none⟩ (.int .i64 z)) (some t)) :=
    grown_trans (grown_trans (grown_trans (grown_of hb4 (some t)) (grown_setCell _ t 0 _)) (grown_setCell _ t 1 _)) (grown_setCell _ t 2 _)
  clear hb4 ht4 hs4 ht0
  simp only [w1, w2, w3, w4] at *
  go_enter Tryz.func19, Tryz.ntmps19
  go_wp2
  refine wp_loop_rounds 1 ?_
  rw [rounds_succ]
  go_wp2
  go_ret
  exact ⟨rfl, HF.out, HG.out⟩
end Go.Proofs.YtbpcibnomkfglaaGreatDoor
/- The deferred closure of Check. -/

namespace Go.Proofs.YtbpcibnomkfglaaGreatDoor
open Go.RowKit Go.ChangeShapes Go.WideShapes Go.ChangeAt Go.Deep

/-- A number in its box. -/
def Box1 (w : World) (b : Nat) (v : Int) (t : TypeId) : Prop := w.heap[b]? = some (.cells [.int .i64 v].toArray t (0, 0))

theorem tags_ne' {w : World} {a c s t : Nat} {cs cs' : Array Value} (h : w.heap[a]? = some (.cells cs s (0, 0))) (h' : w.heap[c]? = some (.cells cs' t (0, 0))) (hne : s ≠ t) : a ≠ c := fun e => by
  subst e; exact tag_ne h hne h'
theorem ta_nil (w : World) : (Instr.typeAssert .nilIface 20 60 true).run Tryz.prog w = .ok (.tuple #[.nilIface, .bool false]) w := by kernel_rfl
theorem ta_hit (v : Value) (w : World) : (Instr.typeAssert (.iface 58 v) 20 60 true).run Tryz.prog w = .ok (.tuple #[.iface 58 v, .bool true]) w := by kernel_rfl

set_option maxHeartbeats 2000000 in
set_option maxRecDepth 100000 in
set_option linter.unusedSimpArgs false in
theorem catch_idle (a b c : Nat) (w : World) :
    CallsD Tryz.prog 18 #[.pointer (some ⟨a, 0, none⟩), .pointer (some ⟨b, 0, none⟩), .pointer (some ⟨c, 0, none⟩)] .returning w fun e u' w' => e = .returned (.tuple #[]) ∧ u' = .returning ∧ Below w.heap.size w w' := by
  refine callsD_of_wpS Tryz.func18 rfl fun c₀ cs hu => ?_
  have hta := ta_nil
  apply wpS_seq
  apply wpS_region
  simp [wpOpsS, go_sem, recoverD, hu, Tryz.ntmps18, Exit.thenS]
  apply wpS_seq
  apply wpS_region
  simp [wpOpsS, go_sem, recoverD, hu, Exit.thenS, hta, Array.replicate]
  refine wpS_of_wp ?_
  have hbel := alloc_below w (.cells #[.int .i64 0, .int .i64 0, .int .i64 0] 58)
  generalize w.alloc (.cells #[.int .i64 0, .int .i64 0, .int .i64 0] 58) = w1 at hbel ⊢
  go_wp2
  cases c₀
  simp_all [bodyPostS, results, Tryz.results18]

set_option maxHeartbeats 2000000 in
set_option maxRecDepth 100000 in
set_option linter.unusedSimpArgs false in
theorem catch_up (a b c : Nat) (x y z o0 o1 o2 : Int) (older : List PanicEntry) (w : World) (ha : Box1 w a o0 3) (hb : Box1 w b o1 3) (hc : Box1 w c o2 24) (hab : a ≠ b) (hg : w.cell? ⟨0, 0, none⟩ = some (.iface 107 (.agg #[.pointer (some ⟨2, 60, none⟩)]))) :
    CallsD Tryz.prog 18 #[.pointer (some ⟨a, 0, none⟩), .pointer (some ⟨b, 0, none⟩), .pointer (some ⟨c, 0, none⟩)] (.panicking ({ v := wrongV x y z, recovered := false } :: older)) w fun e u' w' =>
      e = .returned (.tuple #[]) ∧ u' = .panicking ({ v := wrongV x y z, recovered := true } :: older) ∧ Box1 w' a x 3 ∧ Box1 w' b y 3 ∧ Box1 w' c z 24 ∧ (∀ B, B ≤ a → B ≤ b → B ≤ c → B ≤ w.heap.size → Below B w w') := by
  refine callsD_of_wpS Tryz.func18 rfl fun c₀ cs hu => ?_
  have hta := ta_hit
  unfold wrongV at *
  apply wpS_seq
  apply wpS_region
  simp [wpOpsS, go_sem, recoverD, hu, Tryz.ntmps18, Exit.thenS]
  apply wpS_seq
  apply wpS_region
  simp [wpOpsS, go_sem, recoverD, hu, Exit.thenS, hta, Array.replicate]
  refine wpS_of_wp ?_
  have hbel := alloc_below w (.cells #[.int .i64 0, .int .i64 0, .int .i64 0] 58)
  have hrow : (w.alloc (.cells #[.int .i64 0, .int .i64 0, .int .i64 0] 58)).heap[w.heap.size]? = some (.cells #[.int .i64 0, .int .i64 0, .int .i64 0] 58 (0, 0)) := heap_alloc_new w _
  have hg1 := keep_cell hg hbel
  have ha1 := heap_row ha hbel
  have hb1 := heap_row hb hbel
  have hc1 := heap_row hc hbel
  have hal := lt_row ha
  have hbl := lt_row hb
  have hcl := lt_row hc
  have hac : a ≠ c := tags_ne' ha hc (by decide)
  have hbc : b ≠ c := tags_ne' hb hc (by decide)
  have C := as_hit w.heap.size x y z 0 0 0 _ hg1 hrow
  unfold wrongV at C
  clear hg hg1 hrow ha hb hc
  generalize w.alloc (.cells #[.int .i64 0, .int .i64 0, .int .i64 0] 58) = w1 at *
  generalize hts : w.heap.size = t at *
  go_wp2_with (go_at_call 19; go_must (with_reducible refine C.mono ?_; (rintro e w2 ⟨rfl, hT, hgr⟩); refine Hid.out ?_))
  refine Lib.hid ?_
  have hl1 := hbel.size
  have ha2 : w2.heap[a]? = some (.cells [.int .i64 o0].toArray 3 (0, 0)) := (hgr.block a (by omega) (by simp; omega)).trans ha1
  have hb2 : w2.heap[b]? = some (.cells [.int .i64 o1].toArray 3 (0, 0)) := (hgr.block b (by omega) (by simp; omega)).trans hb1
  have hc2 : w2.heap[c]? = some (.cells [.int .i64 o2].toArray 24 (0, 0)) := (hgr.block c (by omega) (by simp; omega)).trans hc1
  have t0 := cell_row (i := 0) hT rfl
  have t1 := cell_row (i := 1) hT rfl
  have t2 := cell_row (i := 2) hT rfl
  have a0 := cell_row (i := 0) ha2 rfl
  have b0 := cell_row (i := 0) hb2 rfl
  have c0 := cell_row (i := 0) hc2 rfl
  have fa := frozen_row (i := 0) ha2
  have fb := frozen_row (i := 0) hb2
  have fc := frozen_row (i := 0) hc2
  have hba := hab.symm
  have hca := hac.symm
  have hcb := hbc.symm
  have HB : Hid (∀ B, B ≤ a → B ≤ b → B ≤ c → B ≤ t → Below B w (((w2.setCell ⟨a, 0, none⟩ (.int .i64 x)).setCell ⟨b, 0, none⟩ (.int .i64 y)).setCell ⟨c, 0, none⟩ (.int .i64 z))) := fun B h1 h2 h3 h4 =>
    (((((hbel.mono h4).grown hgr (by omega) (fun k hk => by simp at hk; omega)).setCell (p := ⟨a, 0, none⟩) h1 _).setCell (p := ⟨b, 0, none⟩) h2 _).setCell (p := ⟨c, 0, none⟩) h3 _)
  have s1 := set_row (i := 0) ha2 (.int .i64 x)
  have s2 : (w2.setCell ⟨a, 0, none⟩ (.int .i64 x)).heap[b]? = _ := (Below.heap_setCell _ _ _ _ (by simpa using hba)).trans hb2
  have s3 := set_row (i := 0) s2 (.int .i64 y)
  have s4 : ((w2.setCell ⟨a, 0, none⟩ (.int .i64 x)).setCell ⟨b, 0, none⟩ (.int .i64 y)).heap[c]? = _ := ((Below.heap_setCell _ _ _ _ (by simpa using hcb)).trans (Below.heap_setCell _ _ _ _ (by simpa using hca))).trans hc2
  have HC : Hid ((((w2.setCell ⟨a, 0, none⟩ (.int .i64 x)).setCell ⟨b, 0, none⟩ (.int .i64 y)).setCell ⟨c, 0, none⟩ (.int .i64 z)).heap[c]? = some (.cells [.int .i64 z].toArray 24 (0, 0))) := set_row (i := 0) s4 (.int .i64 z)
  have HBb : Hid ((((w2.setCell ⟨a, 0, none⟩ (.int .i64 x)).setCell ⟨b, 0, none⟩ (.int .i64 y)).setCell ⟨c, 0, none⟩ (.int .i64 z)).heap[b]? = some (.cells [.int .i64 y].toArray 3 (0, 0))) := (Below.heap_setCell _ _ _ _ (by simpa using hbc)).trans s3
  have HA : Hid ((((w2.setCell ⟨a, 0, none⟩ (.int .i64 x)).setCell ⟨b, 0, none⟩ (.int .i64 y)).setCell ⟨c, 0, none⟩ (.int .i64 z)).heap[a]? = some (.cells [.int .i64 x].toArray 3 (0, 0))) := ((Below.heap_setCell _ _ _ _ (by simpa using hac)).trans (Below.heap_setCell _ _ _ _ (by simpa using hab))).trans s1
  clear s1 s2 s3 s4 hT C hgr ha2 hb2 hc2 ha1 hb1 hc1 hts
  go_wp2
  cases c₀
  simp only [bodyPostS, results, Tryz.results18]
  exact ⟨trivial, _, rfl, .tuple #[], by simp [go_sem], rfl, rfl, HA.out, HBb.out, HC.out, fun B h1 h2 h3 h4 => HB.out B h1 h2 h3 h4⟩
end Go.Proofs.YtbpcibnomkfglaaGreatDoor
