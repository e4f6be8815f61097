/-
  make of one, or two, trees.
-/
import Derived.Test.YtjmcaceegfdkkaaGreatDoorQbLRead
import Derived.Test.YtjmcaceegfdkkaaGreatDoorQbTKit
namespace Go.Proofs.YtjmcaceegfdkkaaGreatDoor
open Go.RowKit
set_option maxRecDepth 100000 in
theorem mk_one (W : World) : (Instr.makeSlice TreesT (.int .i64 1) (.int .i64 1)).run Tryz.prog W = .ok (.slice (some ⟨W.heap.size, 0, none⟩) 1 1) (W.alloc (.cells #[.int .i64 0, .int .i64 0, .int .i64 0, .int .u64 0, .string ⟨#[]⟩, .slice none 0 0] TrT)) := by kernel_rfl
set_option maxRecDepth 100000 in
theorem mk_two (W : World) : (Instr.makeSlice TreesT (.int .i64 2) (.int .i64 2)).run Tryz.prog W = .ok (.slice (some ⟨W.heap.size, 0, none⟩) 2 2) (W.alloc (.cells #[.int .i64 0, .int .i64 0, .int .i64 0, .int .u64 0, .string ⟨#[]⟩, .slice none 0 0, .int .i64 0, .int .i64 0, .int .i64 0, .int .u64 0, .string ⟨#[]⟩, .slice none 0 0] TrT)) := by kernel_rfl
end Go.Proofs.YtjmcaceegfdkkaaGreatDoor
