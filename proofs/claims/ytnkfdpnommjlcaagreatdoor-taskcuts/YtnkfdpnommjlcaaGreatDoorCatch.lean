/- The deferred closure of Check. -/
import Derived.Test.YtnkfdpnommjlcaaGreatDoorAs
namespace Go.Proofs.YtnkfdpnommjlcaaGreatDoor
open Go.RowKit Go.ChangeShapes Go.WideShapes Go.ChangeAt Go.Deep

/-- A number in its box. -/
def Box1 (w : World) (b : Nat) (v : Int) (t : TypeId) : Prop := w.heap[b]? = some (.cells [.int .i64 v].toArray t (0, 0))

theorem tags_ne' {w : World} {a c s t : Nat} {cs cs' : Array Value} (h : w.heap[a]? = some (.cells cs s (0, 0))) (h' : w.heap[c]? = some (.cells cs' t (0, 0))) (hne : s ≠ t) : a ≠ c := fun e => by
  subst e; exact tag_ne h hne h'
theorem ta_nil (w : World) : (Instr.typeAssert .nilIface 20 89 true).run Tryz.prog w = .ok (.tuple #[.nilIface, .bool false]) w := by kernel_rfl
theorem ta_hit (v : Value) (w : World) : (Instr.typeAssert (.iface 96 v) 20 89 true).run Tryz.prog w = .ok (.tuple #[.iface 96 v, .bool true]) w := by kernel_rfl

set_option maxHeartbeats 2000000 in
set_option maxRecDepth 100000 in
set_option linter.unusedSimpArgs false in
theorem catch_idle (a b c : Nat) (w : World) :
    CallsD Tryz.prog 44 #[.pointer (some ⟨a, 0, none⟩), .pointer (some ⟨b, 0, none⟩), .pointer (some ⟨c, 0, none⟩)] .returning w fun e u' w' => e = .returned (.tuple #[]) ∧ u' = .returning ∧ Below w.heap.size w w' := by
  refine callsD_of_wpS Tryz.func44 rfl fun c₀ cs hu => ?_
  have hta := ta_nil
  apply wpS_seq
  apply wpS_region
  simp [wpOpsS, go_sem, recoverD, hu, Tryz.ntmps44, Exit.thenS]
  apply wpS_seq
  apply wpS_region
  simp [wpOpsS, go_sem, recoverD, hu, Exit.thenS, hta, Array.replicate]
  refine wpS_of_wp ?_
  have hbel := alloc_below w (.cells #[.int .i64 0, .int .i64 0, .int .i64 0] 96)
  generalize w.alloc (.cells #[.int .i64 0, .int .i64 0, .int .i64 0] 96) = w1 at hbel ⊢
  go_wp2
  cases c₀
  simp_all [bodyPostS, results, Tryz.results44]

set_option maxHeartbeats 2000000 in
set_option maxRecDepth 100000 in
set_option linter.unusedSimpArgs false in
theorem catch_up (a b c : Nat) (x y z o0 o1 o2 : Int) (older : List PanicEntry) (w : World) (ha : Box1 w a o0 3) (hb : Box1 w b o1 3) (hc : Box1 w c o2 30) (hab : a ≠ b) (hg : w.cell? ⟨0, 0, none⟩ = some (.iface 139 (.agg #[.pointer (some ⟨2, 89, none⟩)]))) :
    CallsD Tryz.prog 44 #[.pointer (some ⟨a, 0, none⟩), .pointer (some ⟨b, 0, none⟩), .pointer (some ⟨c, 0, none⟩)] (.panicking ({ v := wrongV x y z, recovered := false } :: older)) w fun e u' w' =>
      e = .returned (.tuple #[]) ∧ u' = .panicking ({ v := wrongV x y z, recovered := true } :: older) ∧ Box1 w' a x 3 ∧ Box1 w' b y 3 ∧ Box1 w' c z 30 ∧ (∀ B, B ≤ a → B ≤ b → B ≤ c → B ≤ w.heap.size → Below B w w') := by
  refine callsD_of_wpS Tryz.func44 rfl fun c₀ cs hu => ?_
  have hta := ta_hit
  unfold wrongV at *
  apply wpS_seq
  apply wpS_region
  simp [wpOpsS, go_sem, recoverD, hu, Tryz.ntmps44, Exit.thenS]
  apply wpS_seq
  apply wpS_region
  simp [wpOpsS, go_sem, recoverD, hu, Exit.thenS, hta, Array.replicate]
  refine wpS_of_wp ?_
  have hbel := alloc_below w (.cells #[.int .i64 0, .int .i64 0, .int .i64 0] 96)
  have hrow : (w.alloc (.cells #[.int .i64 0, .int .i64 0, .int .i64 0] 96)).heap[w.heap.size]? = some (.cells #[.int .i64 0, .int .i64 0, .int .i64 0] 96 (0, 0)) := heap_alloc_new w _
  have hg1 := keep_cell hg hbel
  have ha1 := heap_row ha hbel
  have hb1 := heap_row hb hbel
  have hc1 := heap_row hc hbel
  have hal := lt_row ha
  have hbl := lt_row hb
  have hcl := lt_row hc
  have hac : a ≠ c := tags_ne' ha hc (by decide)
  have hbc : b ≠ c := tags_ne' hb hc (by decide)
  have C := as_hit w.heap.size x y z 0 0 0 _ hg1 hrow
  unfold wrongV at C
  clear hg hg1 hrow ha hb hc
  generalize w.alloc (.cells #[.int .i64 0, .int .i64 0, .int .i64 0] 96) = w1 at *
  generalize hts : w.heap.size = t at *
  go_wp2_with (go_at_call 43; go_must (with_reducible refine C.mono ?_; (rintro e w2 ⟨rfl, hT, hgr⟩); refine Hid.out ?_))
  refine Lib.hid ?_
  have hl1 := hbel.size
  have ha2 : w2.heap[a]? = some (.cells [.int .i64 o0].toArray 3 (0, 0)) := (hgr.block a (by omega) (by simp; omega)).trans ha1
  have hb2 : w2.heap[b]? = some (.cells [.int .i64 o1].toArray 3 (0, 0)) := (hgr.block b (by omega) (by simp; omega)).trans hb1
  have hc2 : w2.heap[c]? = some (.cells [.int .i64 o2].toArray 30 (0, 0)) := (hgr.block c (by omega) (by simp; omega)).trans hc1
  have t0 := cell_row (i := 0) hT rfl
  have t1 := cell_row (i := 1) hT rfl
  have t2 := cell_row (i := 2) hT rfl
  have a0 := cell_row (i := 0) ha2 rfl
  have b0 := cell_row (i := 0) hb2 rfl
  have c0 := cell_row (i := 0) hc2 rfl
  have fa := frozen_row (i := 0) ha2
  have fb := frozen_row (i := 0) hb2
  have fc := frozen_row (i := 0) hc2
  have hba := hab.symm
  have hca := hac.symm
  have hcb := hbc.symm
  have HB : Hid (∀ B, B ≤ a → B ≤ b → B ≤ c → B ≤ t → Below B w (((w2.setCell ⟨a, 0, none⟩ (.int .i64 x)).setCell ⟨b, 0, none⟩ (.int .i64 y)).setCell ⟨c, 0, none⟩ (.int .i64 z))) := fun B h1 h2 h3 h4 =>
    (((((hbel.mono h4).grown hgr (by omega) (fun k hk => by simp at hk; omega)).setCell (p := ⟨a, 0, none⟩) h1 _).setCell (p := ⟨b, 0, none⟩) h2 _).setCell (p := ⟨c, 0, none⟩) h3 _)
  have s1 := set_row (i := 0) ha2 (.int .i64 x)
  have s2 : (w2.setCell ⟨a, 0, none⟩ (.int .i64 x)).heap[b]? = _ := (Below.heap_setCell _ _ _ _ (by simpa using hba)).trans hb2
  have s3 := set_row (i := 0) s2 (.int .i64 y)
  have s4 : ((w2.setCell ⟨a, 0, none⟩ (.int .i64 x)).setCell ⟨b, 0, none⟩ (.int .i64 y)).heap[c]? = _ := ((Below.heap_setCell _ _ _ _ (by simpa using hcb)).trans (Below.heap_setCell _ _ _ _ (by simpa using hca))).trans hc2
  have HC : Hid ((((w2.setCell ⟨a, 0, none⟩ (.int .i64 x)).setCell ⟨b, 0, none⟩ (.int .i64 y)).setCell ⟨c, 0, none⟩ (.int .i64 z)).heap[c]? = some (.cells [.int .i64 z].toArray 30 (0, 0))) := set_row (i := 0) s4 (.int .i64 z)
  have HBb : Hid ((((w2.setCell ⟨a, 0, none⟩ (.int .i64 x)).setCell ⟨b, 0, none⟩ (.int .i64 y)).setCell ⟨c, 0, none⟩ (.int .i64 z)).heap[b]? = some (.cells [.int .i64 y].toArray 3 (0, 0))) := (Below.heap_setCell _ _ _ _ (by simpa using hbc)).trans s3
  have HA : Hid ((((w2.setCell ⟨a, 0, none⟩ (.int .i64 x)).setCell ⟨b, 0, none⟩ (.int .i64 y)).setCell ⟨c, 0, none⟩ (.int .i64 z)).heap[a]? = some (.cells [.int .i64 x].toArray 3 (0, 0))) := ((Below.heap_setCell _ _ _ _ (by simpa using hac)).trans (Below.heap_setCell _ _ _ _ (by simpa using hab))).trans s1
  clear s1 s2 s3 s4 hT C hgr ha2 hb2 hc2 ha1 hb1 hc1 hts
  go_wp2
  cases c₀
  simp only [bodyPostS, results, Tryz.results44]
  exact ⟨trivial, _, rfl, .tuple #[], by simp [go_sem], rfl, rfl, HA.out, HBb.out, HC.out, fun B h1 h2 h3 h4 => HB.out B h1 h2 h3 h4⟩
end Go.Proofs.YtnkfdpnommjlcaaGreatDoor
