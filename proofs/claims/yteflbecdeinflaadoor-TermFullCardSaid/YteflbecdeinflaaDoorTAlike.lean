/-
  The law's alike: two pools that are the same plain one.
-/
import Derived.Test.YteflbecdeinflaaDoorTLive
import Derived.Test.YteflbecdeinflaaDoorTRefP
namespace Go.Proofs.YteflbecdeinflaaDoor
open Go.RowKit Go.Maps
set_option linter.unusedVariables false

theorem nok_zero : NdOk zeroM.1 := by
  have z : i64R 0 := i64R_lit (by omega)
  exact ⟨z, z, z, ⟨by decide, by decide⟩, emptyS_le, z, z⟩
theorem atP_nok {p : Pl} (h : ∀ m ∈ p, NdOk m.1) (t : Int) : NdOk (atP p t).1 := by
  unfold atP
  split
  · by_cases hl : t.toNat - 1 < p.length
    · rw [show p.getD (t.toNat - 1) zeroM = p[t.toNat - 1] by simp [List.getD_eq_getElem?_getD, hl]]; exact h _ (List.getElem_mem hl)
    · rw [show p.getD (t.toNat - 1) zeroM = zeroM by simp [List.getD_eq_getElem?_getD, List.getElem?_eq_none (Nat.le_of_not_lt hl)]]; exact nok_zero
  · exact nok_zero

theorem rnew (w : World) (B : Nat) (hB : B ≤ w.heap.size) : Calls Tryd.prog 13 #[] w fun e w' => e = .returned (.pointer (some ⟨w.heap.size, 0, none⟩)) ∧ IsRef w' B w.heap.size (.slice none 0 0) (.slice none 0 0) (.slice none 0 0) [] ∧ Below w.heap.size w w' := by
  go_enter Tryd.func13, Tryd.ntmps13
  go_wp2_with fail
  go_returns
  exact ⟨rfl, ⟨heap_alloc_new _ _, hB, World.ownsRow_nil _ _ _ 7, World.ownsRow_nil _ _ _ 1, World.ownsRow_nil _ _ _ 1, fun g e => by first | cases e | exact absurd e (by simp [Value.ownBlock]), Ok.nil, fun m hm => by cases hm⟩, (Below.refl _ _).alloc (Nat.le_refl _) _⟩

section
variable {w : World} {B a b : Nat} {v : Value} {p : Pl} {B2 a2 : Nat} {vl vs vd : Value}
set_option maxRecDepth 100000 in
set_option maxHeartbeats 6400000 in
theorem alike_any (h : IsPool w B a b v p) (hr : IsRef w B2 a2 vl vs vd p) : Calls Tryd.prog 20 #[.pointer (some ⟨a, 0, none⟩), .pointer (some ⟨a2, 0, none⟩)] w fun e w' => e = .returned (.bool true) ∧ Below w.heap.size w w' := by
  obtain ⟨lA, lC, rfl⟩ := (row_of_own hr.rl).shape
  have HP := Lib.hid h
  have HR := Lib.hid hr
  have PL := Lib.hid (fun (W : World) (hW : IsPool W B a b v p) => plen hW)
  have c0 : w.cell? ⟨a2, 0, none⟩ = some (.slice lA p.length lC) := cellB hr.lay rfl
  have hlen : p.length ≤ 65536 := h.ok.len
  clear h hr
  go_enter Tryd.func20, Tryd.ntmps20
  go_wp2_with fail
  go_quiet (with_reducible exact Calls.quiet_of_same (still_of (PL.out _ (HP.out.below (bdn _ _)))))
  go_wp2_with fail
  have HB0 := Lib.hid (show Below w.heap.size w (w.drewN nq) from bdn _ _)
  generalize w.drewN nq = W at *
  go_loopw [5] (fun v wr => ∃ k0 : Nat, v = .int .i64 (k0 : Int) ∧ k0 ≤ p.length + 2 ∧ Below w.heap.size w wr) (fun v _ => p.length + 2 - (intOf v).toNat)
  case atStart => exact ⟨0, rfl, Nat.zero_le _, HB0.out⟩
  case round =>
    obtain ⟨k0, rfl, hk0, hbr⟩ := hrel
    have HI := Lib.hid (HP.out.below hbr)
    have HQ := Lib.hid (HR.out.below hbr)
    have HBR := Lib.hid hbr
    have d0 := bcellAt hbr c0
    clear hbr c0
    by_cases hlt : k0 < p.length + 2
    · have hk1 : (k0 : Int) ≤ (p.length : Int) + 1 := by omega
      go_wp2_with fail
      refine (pnode HI.out _).mono ?_
      rintro e w1 ⟨rfl, u1⟩
      have HNK := Lib.hid (atP_nok HI.out.nok (k0 : Int))
      have HS := Lib.hid (fun (W : World) (hW : IsPool W B a b v p) => psize hW (k0 : Int))
      have HRS := Lib.hid (fun (W : World) (hW : IsRef W B2 a2 (.slice lA p.length lC) vs vd p) => rsize hW (k0 : Int))
      have HD := Lib.hid (fun (W : World) (hW : IsPool W B a b v p) => pdepth hW (k0 : Int))
      have HRD := Lib.hid (fun (W : World) (hW : IsRef W B2 a2 (.slice lA p.length lC) vs vd p) => rdepth hW (k0 : Int))
      have HRN := Lib.hid (fun (W : World) (hW : IsRef W B2 a2 (.slice lA p.length lC) vs vd p) => rnode hW (k0 : Int))
      have HI1 := Lib.hid (HI.out.below u1)
      have HQ1 := Lib.hid (HQ.out.below u1)
      have HB1 := Lib.hid (bmore HBR.out u1)
      generalize (atP p (k0 : Int)).1 = m at *
      generalize inP p (k0 : Int) = ib at *
      generalize szP p (k0 : Int) = sz at *
      generalize dpP p (k0 : Int) = dp at *
      have HEQ := Lib.hid (fun W => neq_nodes HNK.out HNK.out W)
      obtain ⟨k, f, q, u, s, y, z⟩ := m
      simp only [nodeA] at *
      clear u1 d0
      have bA : Below w1.heap.size w1 (w1.alloc (.cells #[.int .i64 k, .int .i64 f, .int .i64 q, .int .u64 u, .string s, .int .i64 y, .int .i64 z] NodeT)) := (Below.refl _ _).alloc (Nat.le_refl _) _
      have hb : (w1.alloc (.cells #[.int .i64 k, .int .i64 f, .int .i64 q, .int .u64 u, .string s, .int .i64 y, .int .i64 z] NodeT)).heap[w1.heap.size]? = some (Obj.cells #[.int .i64 k, .int .i64 f, .int .i64 q, .int .u64 u, .string s, .int .i64 y, .int .i64 z] NodeT) := heap_alloc_new _ _
      go_wp2_with fail
      refine (HRN.out _ (HQ1.out.below bA)).mono ?_
      rintro e w2 ⟨rfl, u2⟩
      have hb2 := Hold.below u2 _ _ hb
      have bA2 : Below w1.heap.size w1 w2 := bmore bA u2
      have bC : Below w2.heap.size w2 (w2.alloc (.cells #[.int .i64 k, .int .i64 f, .int .i64 q, .int .u64 u, .string s, .int .i64 y, .int .i64 z] NodeT)) := (Below.refl _ _).alloc (Nat.le_refl _) _
      have HBA := Lib.hid bA2
      have HBC := Lib.hid bC
      have hbb := Hold.below bC _ _ hb2
      have hbc : (w2.alloc (.cells #[.int .i64 k, .int .i64 f, .int .i64 q, .int .u64 u, .string s, .int .i64 y, .int .i64 z] NodeT)).heap[w2.heap.size]? = some (Obj.cells #[.int .i64 k, .int .i64 f, .int .i64 q, .int .u64 u, .string s, .int .i64 y, .int .i64 z] NodeT) := heap_alloc_new _ _
      have x0 : (w2.alloc (.cells #[.int .i64 k, .int .i64 f, .int .i64 q, .int .u64 u, .string s, .int .i64 y, .int .i64 z] NodeT)).cell? ⟨w1.heap.size, 0, none⟩ = some (.int .i64 k) := cellB hbb rfl
      have x1 : (w2.alloc (.cells #[.int .i64 k, .int .i64 f, .int .i64 q, .int .u64 u, .string s, .int .i64 y, .int .i64 z] NodeT)).cell? ⟨w1.heap.size, 1, none⟩ = some (.int .i64 f) := cellB hbb rfl
      have x2 : (w2.alloc (.cells #[.int .i64 k, .int .i64 f, .int .i64 q, .int .u64 u, .string s, .int .i64 y, .int .i64 z] NodeT)).cell? ⟨w1.heap.size, 2, none⟩ = some (.int .i64 q) := cellB hbb rfl
      have x3 : (w2.alloc (.cells #[.int .i64 k, .int .i64 f, .int .i64 q, .int .u64 u, .string s, .int .i64 y, .int .i64 z] NodeT)).cell? ⟨w1.heap.size, 3, none⟩ = some (.int .u64 u) := cellB hbb rfl
      have x4 : (w2.alloc (.cells #[.int .i64 k, .int .i64 f, .int .i64 q, .int .u64 u, .string s, .int .i64 y, .int .i64 z] NodeT)).cell? ⟨w1.heap.size, 4, none⟩ = some (.string s) := cellB hbb rfl
      have x5 : (w2.alloc (.cells #[.int .i64 k, .int .i64 f, .int .i64 q, .int .u64 u, .string s, .int .i64 y, .int .i64 z] NodeT)).cell? ⟨w1.heap.size, 5, none⟩ = some (.int .i64 y) := cellB hbb rfl
      have x6 : (w2.alloc (.cells #[.int .i64 k, .int .i64 f, .int .i64 q, .int .u64 u, .string s, .int .i64 y, .int .i64 z] NodeT)).cell? ⟨w1.heap.size, 6, none⟩ = some (.int .i64 z) := cellB hbb rfl
      have y0 : (w2.alloc (.cells #[.int .i64 k, .int .i64 f, .int .i64 q, .int .u64 u, .string s, .int .i64 y, .int .i64 z] NodeT)).cell? ⟨w2.heap.size, 0, none⟩ = some (.int .i64 k) := cellB hbc rfl
      have y1 : (w2.alloc (.cells #[.int .i64 k, .int .i64 f, .int .i64 q, .int .u64 u, .string s, .int .i64 y, .int .i64 z] NodeT)).cell? ⟨w2.heap.size, 1, none⟩ = some (.int .i64 f) := cellB hbc rfl
      have y2 : (w2.alloc (.cells #[.int .i64 k, .int .i64 f, .int .i64 q, .int .u64 u, .string s, .int .i64 y, .int .i64 z] NodeT)).cell? ⟨w2.heap.size, 2, none⟩ = some (.int .i64 q) := cellB hbc rfl
      have y3 : (w2.alloc (.cells #[.int .i64 k, .int .i64 f, .int .i64 q, .int .u64 u, .string s, .int .i64 y, .int .i64 z] NodeT)).cell? ⟨w2.heap.size, 3, none⟩ = some (.int .u64 u) := cellB hbc rfl
      have y4 : (w2.alloc (.cells #[.int .i64 k, .int .i64 f, .int .i64 q, .int .u64 u, .string s, .int .i64 y, .int .i64 z] NodeT)).cell? ⟨w2.heap.size, 4, none⟩ = some (.string s) := cellB hbc rfl
      have y5 : (w2.alloc (.cells #[.int .i64 k, .int .i64 f, .int .i64 q, .int .u64 u, .string s, .int .i64 y, .int .i64 z] NodeT)).cell? ⟨w2.heap.size, 5, none⟩ = some (.int .i64 y) := cellB hbc rfl
      have y6 : (w2.alloc (.cells #[.int .i64 k, .int .i64 f, .int .i64 q, .int .u64 u, .string s, .int .i64 y, .int .i64 z] NodeT)).cell? ⟨w2.heap.size, 6, none⟩ = some (.int .i64 z) := cellB hbc rfl
      clear bA hb u2 hb2 bA2 bC hbb hbc
      have he : ∀ W : World, (binOp .neq NodeT (.agg #[.int .i64 k, .int .i64 f, .int .i64 q, .int .u64 u, .string s, .int .i64 y, .int .i64 z]) (.agg #[.int .i64 k, .int .i64 f, .int .i64 q, .int .u64 u, .string s, .int .i64 y, .int .i64 z])).run Tryd.prog W = .ok (.bool false) W := fun W => by rw [HEQ.out W]; simp
      go_wp2_with fail
      have hall : Below w1.heap.size w1 (w2.alloc (.cells #[.int .i64 k, .int .i64 f, .int .i64 q, .int .u64 u, .string s, .int .i64 y, .int .i64 z] NodeT)) := bmore HBA.out HBC.out
      have HI3 := Lib.hid (HI1.out.below hall)
      have HQ3 := Lib.hid (HQ1.out.below hall)
      have HB3 := Lib.hid (bmore HB1.out hall)
      clear hall he x0 x1 x2 x3 x4 x5 x6 y0 y1 y2 y3 y4 y5 y6 HBC HBA
      generalize (w2.alloc (.cells #[.int .i64 k, .int .i64 f, .int .i64 q, .int .u64 u, .string s, .int .i64 y, .int .i64 z] NodeT)) = w3 at *
      refine (HS.out _ HI3.out).mono ?_
      rintro e w4 ⟨rfl, u4⟩
      have HI4 := Lib.hid (HI3.out.below u4)
      have HQ4 := Lib.hid (HQ3.out.below u4)
      have HB4 := Lib.hid (bmore HB3.out u4)
      clear u4
      go_wp2_with fail
      refine (HRS.out _ HQ4.out).mono ?_
      rintro e w5 ⟨rfl, rfl⟩
      go_wp2_with fail
      refine (HD.out _ HI4.out).mono ?_
      rintro e w5 ⟨rfl, u5⟩
      have HQ5 := Lib.hid (HQ4.out.below u5)
      have HB5 := Lib.hid (bmore HB4.out u5)
      clear u5
      go_wp2_with fail
      refine (HRD.out _ HQ5.out).mono ?_
      rintro e w6 ⟨rfl, rfl⟩
      go_wp2_with fail
      go_roundw
      case rel => exact ⟨k0 + 1, by go_num, by omega, HB5.out⟩
      case measure => simp [intOf]; omega
    · have hk1 : decide ((k0 : Int) ≤ (p.length : Int) + 1) = false := decide_eq_false (by omega)
      go_wp2_with fail
      go_returns
      exact ⟨rfl, HBR.out⟩
end
end Go.Proofs.YteflbecdeinflaaDoor
