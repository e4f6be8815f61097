/-
  Compare of a nil pool.
-/
import Derived.Test.YtjpembnnelhfkaaDoorTCmp
namespace Go.Proofs.YtjpembnnelhfkaaDoor
open Go.RowKit
set_option linter.unusedVariables false

theorem row5 (W : World) (a b c d e : Int) : Row (W.alloc (.cells #[.int .i64 a, .int .i64 b, .int .i64 c, .int .i64 d, .int .i64 e] 3)) 1 (.slice (some ⟨W.heap.size, 0, none⟩) 5 5) 5 (ints [a, b, c, d, e]) := by
  refine ⟨rfl, .inr ⟨W.heap.size, 0, 5, rfl, by simp, Nat.le_refl _, by decide, fun j u hj => ?_⟩⟩
  rw [Nat.zero_add, World.cell?, heap_alloc_new W _]
  simpa [ints] using hj

theorem row5d (W : World) (a b c d e : Int) : Row (W.alloc (.cells #[.int .i64 a, .int .i64 b, .int .i64 c, .int .i64 d, .int .i64 e] 3)).drew 1 (.slice (some ⟨W.heap.size, 0, none⟩) 5 5) 5 (ints [a, b, c, d, e]) :=
  (row5 W a b c d e).below (bd _)

set_option maxRecDepth 100000 in
set_option maxHeartbeats 6400000 in
theorem ncompare (t : Int) (w : World) : Calls Tryd.prog 36 #[.pointer none, .int .i64 t, .int .i64 t] w fun e w' => e = .returned (.int .i64 0) ∧ Below w.heap.size w w' := by
  have hfd := field_node
  go_enter Tryd.func36, Tryd.ntmps36
  go_wp2_with fail
  refine (nlook t _).mono ?_
  rintro e w1 ⟨rfl, u1⟩
  have U1 := Lib.hid u1
  clear u1
  go_wp2_with fail
  refine (nlook t _).mono ?_
  rintro e w2 ⟨rfl, u2⟩
  have U2 := Lib.hid (bmore U1.out u2)
  clear u2
  have bX : Below w2.heap.size w2 ((w2.alloc (.cells #[.int .i64 0, .int .i64 0, .int .i64 0, .int .u64 0, .string ⟨#[]⟩, .int .i64 0, .int .i64 0] NodeT)).alloc (.cells #[.int .i64 0, .int .i64 0, .int .i64 0, .int .u64 0, .string ⟨#[]⟩, .int .i64 0, .int .i64 0] NodeT)) := ((Below.refl _ _).alloc (Nat.le_refl _) _).alloc (by simp) _
  have hX : ((w2.alloc (.cells #[.int .i64 0, .int .i64 0, .int .i64 0, .int .u64 0, .string ⟨#[]⟩, .int .i64 0, .int .i64 0] NodeT)).alloc (.cells #[.int .i64 0, .int .i64 0, .int .i64 0, .int .u64 0, .string ⟨#[]⟩, .int .i64 0, .int .i64 0] NodeT)).heap[w2.heap.size]? = some (Obj.cells #[.int .i64 0, .int .i64 0, .int .i64 0, .int .u64 0, .string ⟨#[]⟩, .int .i64 0, .int .i64 0] NodeT) := by
    rw [((Below.refl _ _).alloc (Nat.le_refl _) (.cells #[.int .i64 0, .int .i64 0, .int .i64 0, .int .u64 0, .string ⟨#[]⟩, .int .i64 0, .int .i64 0] NodeT) : Below (w2.alloc (.cells #[.int .i64 0, .int .i64 0, .int .i64 0, .int .u64 0, .string ⟨#[]⟩, .int .i64 0, .int .i64 0] NodeT)).heap.size (w2.alloc (.cells #[.int .i64 0, .int .i64 0, .int .i64 0, .int .u64 0, .string ⟨#[]⟩, .int .i64 0, .int .i64 0] NodeT)) _).block _ (by simp)]; exact heap_alloc_new _ _
  have hY : ((w2.alloc (.cells #[.int .i64 0, .int .i64 0, .int .i64 0, .int .u64 0, .string ⟨#[]⟩, .int .i64 0, .int .i64 0] NodeT)).alloc (.cells #[.int .i64 0, .int .i64 0, .int .i64 0, .int .u64 0, .string ⟨#[]⟩, .int .i64 0, .int .i64 0] NodeT)).heap[w2.heap.size + 1]? = some (Obj.cells #[.int .i64 0, .int .i64 0, .int .i64 0, .int .u64 0, .string ⟨#[]⟩, .int .i64 0, .int .i64 0] NodeT) := by
    have e : w2.heap.size + 1 = (w2.alloc (.cells #[.int .i64 0, .int .i64 0, .int .i64 0, .int .u64 0, .string ⟨#[]⟩, .int .i64 0, .int .i64 0] NodeT)).heap.size := by simp
    rw [e]; exact heap_alloc_new _ _
  go_wp2_with fail
  have U3 := Lib.hid (bmore U2.out bX)
  clear bX
  generalize ((w2.alloc (.cells #[.int .i64 0, .int .i64 0, .int .i64 0, .int .u64 0, .string ⟨#[]⟩, .int .i64 0, .int .i64 0] NodeT)).alloc (.cells #[.int .i64 0, .int .i64 0, .int .i64 0, .int .u64 0, .string ⟨#[]⟩, .int .i64 0, .int .i64 0] NodeT)) = W at *
  generalize w2.heap.size + 1 = Y at *
  generalize w2.heap.size = X at *
  have x0 : W.cell? ⟨X, 0, none⟩ = some (.int .i64 0) := cellB hX rfl
  have y0 : W.cell? ⟨Y, 0, none⟩ = some (.int .i64 0) := cellB hY rfl
  have x1 : W.cell? ⟨X, 1, none⟩ = some (.int .i64 0) := cellB hX rfl
  have y1 : W.cell? ⟨Y, 1, none⟩ = some (.int .i64 0) := cellB hY rfl
  have x2 : W.cell? ⟨X, 2, none⟩ = some (.int .i64 0) := cellB hX rfl
  have y2 : W.cell? ⟨Y, 2, none⟩ = some (.int .i64 0) := cellB hY rfl
  have x3 : W.cell? ⟨X, 3, none⟩ = some (.int .u64 0) := cellB hX rfl
  have y3 : W.cell? ⟨Y, 3, none⟩ = some (.int .u64 0) := cellB hY rfl
  have x4 : W.cell? ⟨X, 4, none⟩ = some (.string ⟨#[]⟩) := cellB hX rfl
  have y4 : W.cell? ⟨Y, 4, none⟩ = some (.string ⟨#[]⟩) := cellB hY rfl
  have x5 : W.cell? ⟨X, 5, none⟩ = some (.int .i64 0) := cellB hX rfl
  have y5 : W.cell? ⟨Y, 5, none⟩ = some (.int .i64 0) := cellB hY rfl
  have x6 : W.cell? ⟨X, 6, none⟩ = some (.int .i64 0) := cellB hX rfl
  have y6 : W.cell? ⟨Y, 6, none⟩ = some (.int .i64 0) := cellB hY rfl
  clear hX hY
  have hk : ∀ w' : World, Below W.heap.size W w' → w'.cell? ⟨X, 0, none⟩ = some (.int .i64 0) ∧ w'.cell? ⟨X, 1, none⟩ = some (.int .i64 0) ∧ w'.cell? ⟨X, 2, none⟩ = some (.int .i64 0) ∧ w'.cell? ⟨X, 3, none⟩ = some (.int .u64 0) ∧ w'.cell? ⟨X, 4, none⟩ = some (.string ⟨#[]⟩) ∧ w'.cell? ⟨X, 5, none⟩ = some (.int .i64 0) ∧ w'.cell? ⟨X, 6, none⟩ = some (.int .i64 0) ∧ w'.cell? ⟨Y, 0, none⟩ = some (.int .i64 0) ∧ w'.cell? ⟨Y, 1, none⟩ = some (.int .i64 0) ∧ w'.cell? ⟨Y, 2, none⟩ = some (.int .i64 0) ∧ w'.cell? ⟨Y, 3, none⟩ = some (.int .u64 0) ∧ w'.cell? ⟨Y, 4, none⟩ = some (.string ⟨#[]⟩) ∧ w'.cell? ⟨Y, 5, none⟩ = some (.int .i64 0) ∧ w'.cell? ⟨Y, 6, none⟩ = some (.int .i64 0) ∧ Below W.heap.size W w' := fun w' hb => ⟨bcellAt hb x0, bcellAt hb x1, bcellAt hb x2, bcellAt hb x3, bcellAt hb x4, bcellAt hb x5, bcellAt hb x6, bcellAt hb y0, bcellAt hb y1, bcellAt hb y2, bcellAt hb y3, bcellAt hb y4, bcellAt hb y5, bcellAt hb y6, hb⟩
  have HK := Lib.hid hk
  clear hk
  go_region_held3 (fun w' => w'.cell? ⟨X, 0, none⟩ = some (.int .i64 0) ∧ w'.cell? ⟨X, 1, none⟩ = some (.int .i64 0) ∧ w'.cell? ⟨X, 2, none⟩ = some (.int .i64 0) ∧ w'.cell? ⟨X, 3, none⟩ = some (.int .u64 0) ∧ w'.cell? ⟨X, 4, none⟩ = some (.string ⟨#[]⟩) ∧ w'.cell? ⟨X, 5, none⟩ = some (.int .i64 0) ∧ w'.cell? ⟨X, 6, none⟩ = some (.int .i64 0) ∧ w'.cell? ⟨Y, 0, none⟩ = some (.int .i64 0) ∧ w'.cell? ⟨Y, 1, none⟩ = some (.int .i64 0) ∧ w'.cell? ⟨Y, 2, none⟩ = some (.int .i64 0) ∧ w'.cell? ⟨Y, 3, none⟩ = some (.int .u64 0) ∧ w'.cell? ⟨Y, 4, none⟩ = some (.string ⟨#[]⟩) ∧ w'.cell? ⟨Y, 5, none⟩ = some (.int .i64 0) ∧ w'.cell? ⟨Y, 6, none⟩ = some (.int .i64 0) ∧ Below W.heap.size W w') ((refine HK.out _ ?_; repeat' (first | exact Below.refl _ _ | exact bd _ | exact bdn _ _ | refine bAl ?_ _ | refine Below.drew ?_ | (refine bmore ?_ (by assumption)))))
    ((first
      | ((with_reducible refine (cmpI_eq 0 _).mono ?_); rintro e w' ⟨rfl, rfl⟩)
      | ((with_reducible refine (cmpU_eq 0 _).mono ?_); rintro e w' ⟨rfl, rfl⟩)
      | ((with_reducible refine (cmpS_eq ⟨#[]⟩ _).mono ?_); rintro e w' ⟨rfl, rfl⟩)
      | ((with_reducible refine (or_any (l := [0, 0, 0, 0, 0]) (row5d _ _ _ _ _ _) (by decide)).mono ?_); rintro e w' ⟨rfl, rfl⟩; rw [show orI [0, 0, 0, 0, 0] = 0 from rfl])
      | ((with_reducible refine (or_any (l := [0, 0, 0, 0, 0]) (row5 _ _ _ _ _ _) (by decide)).mono ?_); rintro e w' ⟨rfl, rfl⟩; rw [show orI [0, 0, 0, 0, 0] = 0 from rfl])))
  have bE : Below W.heap.size W (W.alloc (.cells #[.int .i64 0, .int .i64 0, .int .i64 0, .int .i64 0, .int .i64 0] 3)).drew := (bAl (Below.refl _ _) _).drew
  replace x5 := bcellAt bE x5
  replace x6 := bcellAt bE x6
  replace y5 := bcellAt bE y5
  replace y6 := bcellAt bE y6
  have UE := Lib.hid (bmore U3.out bE)
  clear bE x0 x1 x2 x3 x4 y0 y1 y2 y3 y4 HK
  go_wp2_with fail
  go_returns
  exact ⟨rfl, UE.out⟩
end Go.Proofs.YtjpembnnelhfkaaDoor
