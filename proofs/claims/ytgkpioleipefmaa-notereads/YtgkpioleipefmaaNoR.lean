/- note.Clear. -/
import Derived.Test.YtgkpioleipefmaaNoQ
namespace Go.Proofs.Ytgkpioleipefmaa
open Go.RowKit Go.ChangeShapes Go.WideShapes Go.ChangeAt Go.Deep

theorem clear_len (n : No) : (clearN n).args.length ≤ n.args.length ∧ (clearN n).mem.length ≤ n.mem.length ∧ (clearN n).id.length ≤ n.id.length := by
  unfold clearN
  split
  · simp only
    refine ⟨?_, ?_, ?_⟩ <;> (split <;> simp)
  · simp [no0]
theorem only_any (n : No) (s : ByteArray) (av mv pv : Value) (B B' : Nat) (w : World) (hM : NM B w n s av mv) (hk : isKind n.kind = true) (hp : RowV B' w pv (partsL n.kind).length (pV (partsL n.kind))) :
    Calls Try.prog 28 #[Nv n s av mv, pv] w (NPost (clearN n) w) := by
  obtain ⟨h1, h2, h3, h4, ⟨aa, al, ac, rfl, hal, _, hna, hra, _⟩, ⟨ma, ml, mc, rfl, hml, _, hnm, hrm, _⟩⟩ := hM
  obtain ⟨pa, pl, pc, rfl, hpl, _, _, hrp, _⟩ := hp
  have hal' : n.args.length = al := hal
  have hml' : n.mem.length = ml := hml
  have hpl' : (partsL n.kind).length = pl := hpl
  have h5 := (parts_len n.kind).1
  have hc := clear_len n
  have e := only_clear n hk
  have := only_go n.kind n.node n.life n.epoch n.id s n.func n.args aa al ac n.err n.val n.vep n.mem ma ml mc (partsL n.kind) pa pl pc w h2 h1 hal' (by omega) hna hra hml' (by omega) hnm hrm hpl' (by omega) (parts_lt n.kind) hrp (by
    show (onlyN n (partsL n.kind)).args.length ≤ 20000 ∧ (onlyN n (partsL n.kind)).mem.length ≤ 20000
    rw [e]; omega)
  rw [← e]
  exact this
theorem box2 (w : World) (L M : List Value) (t u : TypeId) : BoxL ((w.alloc (.cells L.toArray t)).alloc (.cells M.toArray u)) w.heap.size L ∧ BoxL ((w.alloc (.cells L.toArray t)).alloc (.cells M.toArray u)) (w.heap.size + 1) M ∧ Below w.heap.size w ((w.alloc (.cells L.toArray t)).alloc (.cells M.toArray u)) ∧ ((w.alloc (.cells L.toArray t)).alloc (.cells M.toArray u)).heap.size = w.heap.size + 2 := by
  have b1 := below_new w (.cells L.toArray t)
  have b2 := below_new (w.alloc (.cells L.toArray t)) (.cells M.toArray u)
  have e : (w.alloc (.cells L.toArray t)).heap.size = w.heap.size + 1 := by simp
  refine ⟨(BoxL.new w L t).below b2, ?_, b1.trans (b2.mono b1.size), by simp⟩
  have h := BoxL.new (w.alloc (.cells L.toArray t)) M u
  rw [e] at h
  exact h

set_option maxRecDepth 100000 in
set_option maxHeartbeats 8000000 in
theorem clear_yes (n : No) (s : ByteArray) (aa ma : Option Addr) (al ac ml mc : Nat) (B : Nat) (w : World) (hM : NM B w n s (.slice aa al ac) (.slice ma ml mc)) (hk : isKind n.kind = true) :
    Calls Try.prog 15 #[.agg #[.int .i64 n.kind, .int .i64 n.node, .int .i64 n.life, .int .i64 n.epoch, .string s, .int .i64 n.func, (.slice aa al ac), .int .i64 n.err, .int .i64 n.val, .int .i64 n.vep, (.slice ma ml mc)]] w (NPost (clearN n) w) := by
  have CP := hide (fun W => parts_any n.kind W)
  have CO := hide (fun W pv B' (hb : Below w.heap.size w W) (hp : RowV B' W pv (partsL n.kind).length (pV (partsL n.kind))) => (show Calls Try.prog 28 #[.agg #[.int .i64 n.kind, .int .i64 n.node, .int .i64 n.life, .int .i64 n.epoch, .string s, .int .i64 n.func, (.slice aa al ac), .int .i64 n.err, .int .i64 n.val, .int .i64 n.vep, (.slice ma ml mc)], pv] W (NPost (clearN n) W) from only_any n s _ _ pv B B' W (hM.below hb) hk hp))
  have hpl := (parts_len n.kind).2
  have HPL := hide (show (partsL n.kind).length ≠ 0 from fun h => by rw [hpl.1 h] at hk; cases hk)
  generalize clearN n = o at CO ⊢
  obtain ⟨hx1, hx2, hx3, hx4⟩ := box2 w [.int .i64 n.kind, .int .i64 n.node, .int .i64 n.life, .int .i64 n.epoch, .string s, .int .i64 n.func, (.slice aa al ac), .int .i64 n.err, .int .i64 n.val, .int .i64 n.vep, (.slice ma ml mc)] [.int .i64 0, .int .i64 0, .int .i64 0, .int .i64 0, .string ⟨#[]⟩, .int .i64 0, .slice none 0 0, .int .i64 0, .int .i64 0, .int .i64 0, .slice none 0 0] 31 31
  obtain ⟨V, hV⟩ : ∃ V, V = (w.alloc (.cells #[.int .i64 n.kind, .int .i64 n.node, .int .i64 n.life, .int .i64 n.epoch, .string s, .int .i64 n.func, (.slice aa al ac), .int .i64 n.err, .int .i64 n.val, .int .i64 n.vep, (.slice ma ml mc)] 31)).alloc (.cells #[.int .i64 0, .int .i64 0, .int .i64 0, .int .i64 0, .string ⟨#[]⟩, .int .i64 0, .slice none 0 0, .int .i64 0, .int .i64 0, .int .i64 0, .slice none 0 0] 31) := ⟨_, rfl⟩
  have HX := hide (show BoxL V w.heap.size [.int .i64 n.kind, .int .i64 n.node, .int .i64 n.life, .int .i64 n.epoch, .string s, .int .i64 n.func, (.slice aa al ac), .int .i64 n.err, .int .i64 n.val, .int .i64 n.vep, (.slice ma ml mc)] by rw [hV]; exact hx1)
  have HY := hide (show BoxL V (w.heap.size + 1) [.int .i64 0, .int .i64 0, .int .i64 0, .int .i64 0, .string ⟨#[]⟩, .int .i64 0, .slice none 0 0, .int .i64 0, .int .i64 0, .int .i64 0, .slice none 0 0] by rw [hV]; exact hx2)
  have HB := hide (show Below w.heap.size w V by rw [hV]; exact hx3)
  have HS := hide (show V.heap.size = w.heap.size + 2 by rw [hV]; exact hx4)
  have HV := hide hV
  clear hx1 hx2 hx3 hx4 hV hM hpl
  go_enter Try.func15, Try.ntmps15
  go_wp2_with (first
    | (go_at_call 23; go_must (rw [← HV.out]; (with_reducible refine (CP.out V).mono ?_); rintro e w1 ⟨v1, rfl, hrow1, hb1⟩; have HR1 := hide hrow1; obtain ⟨a1, l1, c1, rfl, hl1, -⟩ := hrow1; have HX1 := hide (HX.out.below hb1); have HY1 := hide (HY.out.below hb1); have HB1 := hide (HB.out.trans (hb1.mono HB.out.size)); obtain ⟨k0, k1, k2, k3, k4, k5, k6, k7, k8, k9, k10⟩ := HX1.out.c11; have hl0 : l1 ≠ 0 := (fun h0 => HPL.out (hl1.out.trans h0)); have hl0' : ((l1 : Int) == 0) = false := (by rw [beq_eq_false_iff_ne]; omega); have HSZ := hide hb1.size))
    | (go_at_call 28; go_must ((with_reducible refine (CO.out w1 _ _ HB1.out HR1.out).mono ?_); rintro e w2 ⟨s2, av2, mv2, rfl, hM2, hb2⟩; simp only [Nv]; have HM2 := hide hM2; have HM3 := hide hM2; obtain ⟨-, -, -, -, ⟨aa2, al2, ac2, rfl, -⟩, ⟨ma2, ml2, mc2, rfl, -⟩⟩ := hM2; have HB2 := hide (HB1.out.trans (hb2.mono HB1.out.size)); have HY2 := hide (HY1.out.below hb2); obtain ⟨e0, e1, e2, e3, e4, e5, e6, e7, e8, e9, e10⟩ := HY2.out.c11; obtain ⟨u0, u1, u2, u3, u4, u5, u6, u7, u8, u9, u10⟩ := HY2.out.f11)))
  have HX8 := hide (put11_box HY2.out (.int .i64 o.kind) (.int .i64 o.node) (.int .i64 o.life) (.int .i64 o.epoch) (.string s2) (.int .i64 o.func) (.slice aa2 al2 ac2) (.int .i64 o.err) (.int .i64 o.val) (.int .i64 o.vep) (.slice ma2 ml2 mc2))
  have HB8 := hide (put11_below (g := w.heap.size + 1) HB2.out (by omega) (.int .i64 o.kind) (.int .i64 o.node) (.int .i64 o.life) (.int .i64 o.epoch) (.string s2) (.int .i64 o.func) (.slice aa2 al2 ac2) (.int .i64 o.err) (.int .i64 o.val) (.int .i64 o.vep) (.slice ma2 ml2 mc2))
  have HN8 := hide (HM2.out.keep (w' := put11 w2 (w.heap.size + 1) (.int .i64 o.kind) (.int .i64 o.node) (.int .i64 o.life) (.int .i64 o.epoch) (.string s2) (.int .i64 o.func) (.slice aa2 al2 ac2) (.int .i64 o.err) (.int .i64 o.val) (.int .i64 o.vep) (.slice ma2 ml2 mc2)) (fun k h1 h2 => put11_keep (by have := HSZ.out; have := HS.out; omega) (.int .i64 o.kind) (.int .i64 o.node) (.int .i64 o.life) (.int .i64 o.epoch) (.string s2) (.int .i64 o.func) (.slice aa2 al2 ac2) (.int .i64 o.err) (.int .i64 o.val) (.int .i64 o.vep) (.slice ma2 ml2 mc2)))
  obtain ⟨X, hX⟩ : ∃ X, X = put11 w2 (w.heap.size + 1) (.int .i64 o.kind) (.int .i64 o.node) (.int .i64 o.life) (.int .i64 o.epoch) (.string s2) (.int .i64 o.func) (.slice aa2 al2 ac2) (.int .i64 o.err) (.int .i64 o.val) (.int .i64 o.vep) (.slice ma2 ml2 mc2) := ⟨_, rfl⟩
  rw [← hX] at HX8 HB8 HN8
  unfold put11 at hX
  rw [← hX]
  clear hX
  obtain ⟨x0, x1, x2, x3, x4, x5, x6, x7, x8, x9, x10⟩ := HX8.out.c11
  refine bodyPost_ret (v := .agg #[.int .i64 o.kind, .int .i64 o.node, .int .i64 o.life, .int .i64 o.epoch, .string s2, .int .i64 o.func, .slice aa2 al2 ac2, .int .i64 o.err, .int .i64 o.val, .int .i64 o.vep, .slice ma2 ml2 mc2]) (by simp [results, Try.results15, go_sem, x0, x1, x2, x3, x4, x5, x6, x7, x8, x9, x10]) rfl ?_
  exact ⟨s2, .slice aa2 al2 ac2, .slice ma2 ml2 mc2, rfl, HN8.out.mono HB1.out.size, HB8.out⟩

set_option maxRecDepth 100000 in
set_option maxHeartbeats 8000000 in
theorem clear_none (n : No) (s : ByteArray) (aa ma : Option Addr) (al ac ml mc : Nat) (w : World) (hk : isKind n.kind = false) :
    Calls Try.prog 15 #[.agg #[.int .i64 n.kind, .int .i64 n.node, .int .i64 n.life, .int .i64 n.epoch, .string s, .int .i64 n.func, (.slice aa al ac), .int .i64 n.err, .int .i64 n.val, .int .i64 n.vep, (.slice ma ml mc)]] w (NPost no0 w) := by
  have CP := hide (fun W => parts_any n.kind W)
  have HPL := hide (show (partsL n.kind).length = 0 from (parts_len n.kind).2.2 hk)
  obtain ⟨hx1, hx2, hx3, hx4⟩ := box2 w [.int .i64 n.kind, .int .i64 n.node, .int .i64 n.life, .int .i64 n.epoch, .string s, .int .i64 n.func, (.slice aa al ac), .int .i64 n.err, .int .i64 n.val, .int .i64 n.vep, (.slice ma ml mc)] [.int .i64 0, .int .i64 0, .int .i64 0, .int .i64 0, .string ⟨#[]⟩, .int .i64 0, .slice none 0 0, .int .i64 0, .int .i64 0, .int .i64 0, .slice none 0 0] 31 31
  obtain ⟨V, hV⟩ : ∃ V, V = (w.alloc (.cells #[.int .i64 n.kind, .int .i64 n.node, .int .i64 n.life, .int .i64 n.epoch, .string s, .int .i64 n.func, (.slice aa al ac), .int .i64 n.err, .int .i64 n.val, .int .i64 n.vep, (.slice ma ml mc)] 31)).alloc (.cells #[.int .i64 0, .int .i64 0, .int .i64 0, .int .i64 0, .string ⟨#[]⟩, .int .i64 0, .slice none 0 0, .int .i64 0, .int .i64 0, .int .i64 0, .slice none 0 0] 31) := ⟨_, rfl⟩
  have HX := hide (show BoxL V w.heap.size [.int .i64 n.kind, .int .i64 n.node, .int .i64 n.life, .int .i64 n.epoch, .string s, .int .i64 n.func, (.slice aa al ac), .int .i64 n.err, .int .i64 n.val, .int .i64 n.vep, (.slice ma ml mc)] by rw [hV]; exact hx1)
  have HY := hide (show BoxL V (w.heap.size + 1) [.int .i64 0, .int .i64 0, .int .i64 0, .int .i64 0, .string ⟨#[]⟩, .int .i64 0, .slice none 0 0, .int .i64 0, .int .i64 0, .int .i64 0, .slice none 0 0] by rw [hV]; exact hx2)
  have HB := hide (show Below w.heap.size w V by rw [hV]; exact hx3)
  have HV := hide hV
  clear hx1 hx2 hx3 hx4 hV
  go_enter Try.func15, Try.ntmps15
  go_wp2_with (go_at_call 23; go_must (rw [← HV.out]; (with_reducible refine (CP.out V).mono ?_); rintro e w1 ⟨v1, rfl, hrow1, hb1⟩; obtain ⟨a1, l1, c1, rfl, hl1, -⟩ := hrow1; have HY1 := hide (HY.out.below hb1); have HB1 := hide (HB.out.trans (hb1.mono HB.out.size)); obtain ⟨e0, e1, e2, e3, e4, e5, e6, e7, e8, e9, e10⟩ := HY1.out.c11; obtain ⟨u0, u1, u2, u3, u4, u5, u6, u7, u8, u9, u10⟩ := HY1.out.f11; have hl0 : l1 = 0 := hl1.out.symm.trans HPL.out; subst hl0))
  have HX8 := hide (put11_box HY1.out (.int .i64 0) (.int .i64 0) (.int .i64 0) (.int .i64 0) (.string ⟨#[]⟩) (.int .i64 0) (.slice none 0 0) (.int .i64 0) (.int .i64 0) (.int .i64 0) (.slice none 0 0))
  have HB8 := hide (put11_below (g := w.heap.size + 1) HB1.out (by omega) (.int .i64 0) (.int .i64 0) (.int .i64 0) (.int .i64 0) (.string ⟨#[]⟩) (.int .i64 0) (.slice none 0 0) (.int .i64 0) (.int .i64 0) (.int .i64 0) (.slice none 0 0))
  obtain ⟨X, hX⟩ : ∃ X, X = put11 w1 (w.heap.size + 1) (.int .i64 0) (.int .i64 0) (.int .i64 0) (.int .i64 0) (.string ⟨#[]⟩) (.int .i64 0) (.slice none 0 0) (.int .i64 0) (.int .i64 0) (.int .i64 0) (.slice none 0 0) := ⟨_, rfl⟩
  rw [← hX] at HX8 HB8
  unfold put11 at hX
  rw [← hX]
  clear hX
  obtain ⟨x0, x1, x2, x3, x4, x5, x6, x7, x8, x9, x10⟩ := HX8.out.c11
  refine bodyPost_ret (v := .agg #[.int .i64 0, .int .i64 0, .int .i64 0, .int .i64 0, .string ⟨#[]⟩, .int .i64 0, .slice none 0 0, .int .i64 0, .int .i64 0, .int .i64 0, .slice none 0 0]) (by simp [results, Try.results15, go_sem, x0, x1, x2, x3, x4, x5, x6, x7, x8, x9, x10]) rfl ?_
  exact ⟨⟨#[]⟩, .slice none 0 0, .slice none 0 0, rfl, ⟨rfl, (by show (0 : Nat) ≤ 20000; omega), (by show (0 : Nat) ≤ 20000; omega), (by show (0 : Nat) ≤ 20000; omega), RowV.nil _ _, RowV.nil _ _⟩, HB8.out⟩

/-- note.Clear. -/
theorem clear_any (n : No) (s : ByteArray) (av mv : Value) (B : Nat) (w : World) (hM : NM B w n s av mv) : Calls Try.prog 15 #[Nv n s av mv] w (NPost (clearN n) w) := by
  have hM' := hM
  obtain ⟨_, _, _, _, ⟨aa, al, ac, rfl, _⟩, ⟨ma, ml, mc, rfl, _⟩⟩ := hM'
  by_cases hk : isKind n.kind = true
  · exact clear_yes n s aa ma al ac ml mc B w hM hk
  · have hk' : isKind n.kind = false := by simpa using hk
    rw [clear_no n hk']
    exact clear_none n s aa ma al ac ml mc w hk'

end Go.Proofs.Ytgkpioleipefmaa
