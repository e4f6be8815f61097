/-
  The law's own walk: ViewNil.
-/
import Derived.Test.YtgaklaajbepfaaaDoorVNil
namespace Go.Proofs.YtgaklaajbepfaaaDoor
open Go.RowKit Go.Maps Go.Shelf
set_option linter.unusedVariables false

set_option maxRecDepth 100000 in
set_option maxHeartbeats 25600000 in
theorem nil_walk {w : World} (hl : Laid w) : Calls Tryd.prog 7 #[] w fun e w' => e = .returned (.bool true) ∧ Below w.heap.size w w' := by
  have HL := Lib.hid hl
  clear hl
  have NU := Lib.hid (fun (n : Int) (W : World) => num_any n W)
  go_enter Tryd.func7, Tryd.ntmps7
  go_wp2_with fail
  refine (view_nil _ 0 1).mono ?_
  rintro e w1 ⟨rfl, u1⟩
  have U1 := Lib.hid (bmore u1 (bA0 w1 (.cells #[.int .i64 1] TermT)))
  clear u1
  go_wp2_with fail
  refine (Frame_nil _ 0 _ _ _).mono ?_
  rintro e w2 ⟨rfl, u2⟩
  have U2 := Lib.hid (bmore (bmore U1.out u2) (bA0 w2 (.cells #[.int .i64 1] TermT)))
  clear u2
  go_wp2_with fail
  refine (Classes_nil _ 0 _ _ _).mono ?_
  rintro e w3 ⟨rfl, u3⟩
  have U3 := Lib.hid (bmore U2.out u3)
  clear u3
  go_wp2_with fail
  refine (swap_nil _ 0 1).mono ?_
  rintro e w4 ⟨rfl, u4⟩
  have U4 := Lib.hid (bmore U3.out u4)
  clear u4
  go_wp2_with fail
  refine (live_any (HL.out.below U4.out)).mono ?_
  rintro e w5 ⟨rfl, u5⟩
  have U5 := Lib.hid (bmore U4.out u5)
  clear u5
  go_wp2_with ((with_reducible refine (NU.out _ _).mono ?_); rintro e wn ⟨rfl, rfl⟩)
  refine (Tells_nil _ 0 1).mono ?_
  rintro e w6 ⟨rfl, u6⟩
  have U6 := Lib.hid (bmore U5.out u6)
  clear u6
  go_wp2_with fail
  refine (Alike_nil _ 0 _ _ _ _ _ _).mono ?_
  rintro e w7 ⟨rfl, u7⟩
  have U7 := Lib.hid (bmore U6.out u7)
  clear u7
  go_wp2_with fail
  refine (Promises_nil _ 0 1).mono ?_
  rintro e w8 ⟨rfl, u8⟩
  have U8 := Lib.hid (bmore U7.out u8)
  clear u8
  go_wp2_with fail
  go_returns
  exact ⟨rfl, U8.out⟩
end Go.Proofs.YtgaklaajbepfaaaDoor
