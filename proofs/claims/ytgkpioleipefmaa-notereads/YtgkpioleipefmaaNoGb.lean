/- gleanerref10.SameNote. -/
import Derived.Test.YtgkpioleipefmaaNoH
namespace Go.Proofs.Ytgkpioleipefmaa
open Go.RowKit Go.ChangeShapes Go.WideShapes Go.ChangeAt Go.Deep

set_option maxRecDepth 100000 in
set_option maxHeartbeats 16000000 in
theorem sameNote_f4 (k1 nd1 lf1 ep1 fn1 er1 va1 ve1 fn2 er2 va2 ve2 : Int) (s1 s2 : ByteArray) (aa1 ma1 aa2 ma2 : Option Addr) (al1 ac1 ml1 mc1 al2 ac2 ml2 mc2 : Nat) (w : World) (q1 : (s1.toList == s2.toList) = false) : Calls Try.prog 14 #[.agg #[.int .i64 k1, .int .i64 nd1, .int .i64 lf1, .int .i64 ep1, .string s1, .int .i64 fn1, .slice aa1 al1 ac1, .int .i64 er1, .int .i64 va1, .int .i64 ve1, .slice ma1 ml1 mc1], .agg #[.int .i64 k1, .int .i64 nd1, .int .i64 lf1, .int .i64 ep1, .string s2, .int .i64 fn2, .slice aa2 al2 ac2, .int .i64 er2, .int .i64 va2, .int .i64 ve2, .slice ma2 ml2 mc2]] w fun e w' => e = .returned (.bool false) ∧ Below w.heap.size w w' := by
  obtain ⟨hx1, hx2, hx3, hx4⟩ := box2 w [.int .i64 k1, .int .i64 nd1, .int .i64 lf1, .int .i64 ep1, .string s1, .int .i64 fn1, .slice aa1 al1 ac1, .int .i64 er1, .int .i64 va1, .int .i64 ve1, .slice ma1 ml1 mc1] [.int .i64 k1, .int .i64 nd1, .int .i64 lf1, .int .i64 ep1, .string s2, .int .i64 fn2, .slice aa2 al2 ac2, .int .i64 er2, .int .i64 va2, .int .i64 ve2, .slice ma2 ml2 mc2] 31 31
  obtain ⟨V, hV⟩ : ∃ V, V = (w.alloc (.cells #[.int .i64 k1, .int .i64 nd1, .int .i64 lf1, .int .i64 ep1, .string s1, .int .i64 fn1, .slice aa1 al1 ac1, .int .i64 er1, .int .i64 va1, .int .i64 ve1, .slice ma1 ml1 mc1] 31)).alloc (.cells #[.int .i64 k1, .int .i64 nd1, .int .i64 lf1, .int .i64 ep1, .string s2, .int .i64 fn2, .slice aa2 al2 ac2, .int .i64 er2, .int .i64 va2, .int .i64 ve2, .slice ma2 ml2 mc2] 31) := ⟨_, rfl⟩
  have HX := hide (show BoxL V w.heap.size [.int .i64 k1, .int .i64 nd1, .int .i64 lf1, .int .i64 ep1, .string s1, .int .i64 fn1, .slice aa1 al1 ac1, .int .i64 er1, .int .i64 va1, .int .i64 ve1, .slice ma1 ml1 mc1] by rw [hV]; exact hx1)
  have HY := hide (show BoxL V (w.heap.size + 1) [.int .i64 k1, .int .i64 nd1, .int .i64 lf1, .int .i64 ep1, .string s2, .int .i64 fn2, .slice aa2 al2 ac2, .int .i64 er2, .int .i64 va2, .int .i64 ve2, .slice ma2 ml2 mc2] by rw [hV]; exact hx2)
  have HB := hide (show Below w.heap.size w V by rw [hV]; exact hx3)
  have HV := hide hV
  clear hx1 hx2 hx3 hx4 hV
  have q2 : (s1.toList != s2.toList) = true := by simp [bne, q1]
  clear HX HY
  go_enter Try.func14, Try.ntmps14
  go_wp2
  go_ret
  exact ⟨rfl, by rw [← HV.out]; exact HB.out⟩

set_option maxRecDepth 100000 in
set_option maxHeartbeats 16000000 in
theorem sameNote_f5 (k1 nd1 lf1 ep1 fn1 er1 va1 ve1 fn2 er2 va2 ve2 : Int) (s1 : ByteArray) (aa1 ma1 aa2 ma2 : Option Addr) (al1 ac1 ml1 mc1 al2 ac2 ml2 mc2 : Nat) (w : World) (q1 : (fn1 == fn2) = false) : Calls Try.prog 14 #[.agg #[.int .i64 k1, .int .i64 nd1, .int .i64 lf1, .int .i64 ep1, .string s1, .int .i64 fn1, .slice aa1 al1 ac1, .int .i64 er1, .int .i64 va1, .int .i64 ve1, .slice ma1 ml1 mc1], .agg #[.int .i64 k1, .int .i64 nd1, .int .i64 lf1, .int .i64 ep1, .string s1, .int .i64 fn2, .slice aa2 al2 ac2, .int .i64 er2, .int .i64 va2, .int .i64 ve2, .slice ma2 ml2 mc2]] w fun e w' => e = .returned (.bool false) ∧ Below w.heap.size w w' := by
  obtain ⟨hx1, hx2, hx3, hx4⟩ := box2 w [.int .i64 k1, .int .i64 nd1, .int .i64 lf1, .int .i64 ep1, .string s1, .int .i64 fn1, .slice aa1 al1 ac1, .int .i64 er1, .int .i64 va1, .int .i64 ve1, .slice ma1 ml1 mc1] [.int .i64 k1, .int .i64 nd1, .int .i64 lf1, .int .i64 ep1, .string s1, .int .i64 fn2, .slice aa2 al2 ac2, .int .i64 er2, .int .i64 va2, .int .i64 ve2, .slice ma2 ml2 mc2] 31 31
  obtain ⟨V, hV⟩ : ∃ V, V = (w.alloc (.cells #[.int .i64 k1, .int .i64 nd1, .int .i64 lf1, .int .i64 ep1, .string s1, .int .i64 fn1, .slice aa1 al1 ac1, .int .i64 er1, .int .i64 va1, .int .i64 ve1, .slice ma1 ml1 mc1] 31)).alloc (.cells #[.int .i64 k1, .int .i64 nd1, .int .i64 lf1, .int .i64 ep1, .string s1, .int .i64 fn2, .slice aa2 al2 ac2, .int .i64 er2, .int .i64 va2, .int .i64 ve2, .slice ma2 ml2 mc2] 31) := ⟨_, rfl⟩
  have HX := hide (show BoxL V w.heap.size [.int .i64 k1, .int .i64 nd1, .int .i64 lf1, .int .i64 ep1, .string s1, .int .i64 fn1, .slice aa1 al1 ac1, .int .i64 er1, .int .i64 va1, .int .i64 ve1, .slice ma1 ml1 mc1] by rw [hV]; exact hx1)
  have HY := hide (show BoxL V (w.heap.size + 1) [.int .i64 k1, .int .i64 nd1, .int .i64 lf1, .int .i64 ep1, .string s1, .int .i64 fn2, .slice aa2 al2 ac2, .int .i64 er2, .int .i64 va2, .int .i64 ve2, .slice ma2 ml2 mc2] by rw [hV]; exact hx2)
  have HB := hide (show Below w.heap.size w V by rw [hV]; exact hx3)
  have HV := hide hV
  clear hx1 hx2 hx3 hx4 hV
  have q2 : (fn1 != fn2) = true := by simp [bne, q1]
  clear HX HY
  go_enter Try.func14, Try.ntmps14
  go_wp2
  go_ret
  exact ⟨rfl, by rw [← HV.out]; exact HB.out⟩

set_option maxRecDepth 100000 in
set_option maxHeartbeats 16000000 in
theorem sameNote_f6 (k1 nd1 lf1 ep1 fn1 er1 va1 ve1 er2 va2 ve2 : Int) (s1 : ByteArray) (aa1 ma1 aa2 ma2 : Option Addr) (al1 ac1 ml1 mc1 al2 ac2 ml2 mc2 : Nat) (w : World) (q1 : (er1 == er2) = false) : Calls Try.prog 14 #[.agg #[.int .i64 k1, .int .i64 nd1, .int .i64 lf1, .int .i64 ep1, .string s1, .int .i64 fn1, .slice aa1 al1 ac1, .int .i64 er1, .int .i64 va1, .int .i64 ve1, .slice ma1 ml1 mc1], .agg #[.int .i64 k1, .int .i64 nd1, .int .i64 lf1, .int .i64 ep1, .string s1, .int .i64 fn1, .slice aa2 al2 ac2, .int .i64 er2, .int .i64 va2, .int .i64 ve2, .slice ma2 ml2 mc2]] w fun e w' => e = .returned (.bool false) ∧ Below w.heap.size w w' := by
  obtain ⟨hx1, hx2, hx3, hx4⟩ := box2 w [.int .i64 k1, .int .i64 nd1, .int .i64 lf1, .int .i64 ep1, .string s1, .int .i64 fn1, .slice aa1 al1 ac1, .int .i64 er1, .int .i64 va1, .int .i64 ve1, .slice ma1 ml1 mc1] [.int .i64 k1, .int .i64 nd1, .int .i64 lf1, .int .i64 ep1, .string s1, .int .i64 fn1, .slice aa2 al2 ac2, .int .i64 er2, .int .i64 va2, .int .i64 ve2, .slice ma2 ml2 mc2] 31 31
  obtain ⟨V, hV⟩ : ∃ V, V = (w.alloc (.cells #[.int .i64 k1, .int .i64 nd1, .int .i64 lf1, .int .i64 ep1, .string s1, .int .i64 fn1, .slice aa1 al1 ac1, .int .i64 er1, .int .i64 va1, .int .i64 ve1, .slice ma1 ml1 mc1] 31)).alloc (.cells #[.int .i64 k1, .int .i64 nd1, .int .i64 lf1, .int .i64 ep1, .string s1, .int .i64 fn1, .slice aa2 al2 ac2, .int .i64 er2, .int .i64 va2, .int .i64 ve2, .slice ma2 ml2 mc2] 31) := ⟨_, rfl⟩
  have HX := hide (show BoxL V w.heap.size [.int .i64 k1, .int .i64 nd1, .int .i64 lf1, .int .i64 ep1, .string s1, .int .i64 fn1, .slice aa1 al1 ac1, .int .i64 er1, .int .i64 va1, .int .i64 ve1, .slice ma1 ml1 mc1] by rw [hV]; exact hx1)
  have HY := hide (show BoxL V (w.heap.size + 1) [.int .i64 k1, .int .i64 nd1, .int .i64 lf1, .int .i64 ep1, .string s1, .int .i64 fn1, .slice aa2 al2 ac2, .int .i64 er2, .int .i64 va2, .int .i64 ve2, .slice ma2 ml2 mc2] by rw [hV]; exact hx2)
  have HB := hide (show Below w.heap.size w V by rw [hV]; exact hx3)
  have HV := hide hV
  clear hx1 hx2 hx3 hx4 hV
  have q2 : (er1 != er2) = true := by simp [bne, q1]
  clear HX HY
  go_enter Try.func14, Try.ntmps14
  go_wp2
  go_ret
  exact ⟨rfl, by rw [← HV.out]; exact HB.out⟩

end Go.Proofs.Ytgkpioleipefmaa
