/- alive: the example of the document. -/
import Derived.Test.YtcgapdkehmpmbaaGro
namespace Go.Proofs.Ytcgapdkehmpmbaa
open Go.RowKit Go.ChangeShapes Go.WideShapes Go.ChangeAt Go.Deep

theorem new_three (w : World) : Calls Try.prog 7 #[.int .i64 3, .slice none 0 0] w fun e w' => ∃ cb g, e = .returned (.pointer (some ⟨cb, 0, none⟩)) ∧ RingP w' cb g 4 [0, 0, 0, 0] ∧ w.heap.size ≤ cb ∧ w.heap.size ≤ g ∧ Below w.heap.size w w' := by
  refine (new_any 3 none 0 0 [] w rfl (by omega) (.inl rfl)).mono ?_
  rintro e w' ⟨cb, g, m, rfl, hU, hR, h1, h2, h3⟩
  obtain rfl := hU.same (show UpTo 3 4 from ⟨⟨2, by omega, rfl⟩, .inl (by decide), .inr (by decide)⟩)
  exact ⟨cb, g, rfl, hR, h1, h2, h3⟩

set_option maxRecDepth 100000 in
theorem alive_any (w : World) : Calls Try.prog 6 #[] w fun e w' => e = .returned (.bool true) ∧ Below w.heap.size w w' := by
  go_enter Try.func6, Try.ntmps6
  go_wp2_with (first
    | (go_at_call 7; go_must ((with_reducible refine (new_three w).mono ?_); rintro e w1 ⟨cb, g, rfl, hR1, hcb, hg, hb1⟩; have C9 := hide (show Calls Try.prog 9 #[.pointer (some ⟨cb, 0, none⟩), .int .i64 5, .int .i64 7] w1 (PutPost w1 cb g 4 [0, 0, 0, 0] 5 7) from put_any w1 cb g 4 [0, 0, 0, 0] 5 7 hR1); have HG := hide hg; have HB1 := hide hb1; clear hR1 hcb hg hb1))
    | (go_at_call 9; go_must ((with_reducible refine C9.out.mono ?_); rintro e w2 ⟨rfl, hR2, hg2⟩; have C13 := hide (show Calls Try.prog 13 #[.pointer (some ⟨cb, 0, none⟩)] w2 (fun e w' => e = .returned (.int .i64 4) ∧ w' = w2) from size_any w2 cb g 4 _ hR2); have C14 := hide (show Calls Try.prog 14 #[.pointer (some ⟨cb, 0, none⟩), .int .i64 1] w2 (fun e w' => e = .returned (.int .i64 7) ∧ ∃ q, w' = w2.drewN q) from get_any w2 cb g 4 _ 1 hR2); have HG2 := hide hg2; clear hR2 hg2))
    | (go_at_call 13; go_must ((with_reducible refine C13.out.mono ?_); rintro e w3 ⟨rfl, rfl⟩))
    | (go_at_call 14; go_must ((with_reducible refine C14.out.mono ?_); rintro e w4 ⟨rfl, q, rfl⟩)))
  go_ret
  exact ⟨rfl, below_drewN (HB1.out.grown HG2.out HB1.out.size (fun k hk => by cases hk; exact HG.out)) q⟩
end Go.Proofs.Ytcgapdkehmpmbaa
