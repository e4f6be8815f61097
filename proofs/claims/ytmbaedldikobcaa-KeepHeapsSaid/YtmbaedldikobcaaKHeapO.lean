/-
  A heap in memory: Len, Peek, NewHeap.
-/
import Derived.Test.YtmbaedldikobcaaKHeapU
namespace Go.Proofs.Ytmbaedldikobcaa
open Go.RowKit
set_option linter.unusedVariables false

set_option maxHeartbeats 800000 in
theorem hlen_any {w : World} {B hb fl : Nat} {v : Value} {L : List Hp} {t : Int} (h : IsHp w B hb fl v L t) :
    Calls Try.prog 57 #[.pointer (some ⟨hb, 0, none⟩)] w fun e w' => e = .returned (.int .i64 (L.length : Int)) ∧ w' = w := by
  obtain ⟨va, vc, rfl⟩ := (row_of_own h.row).shape
  have z1 := cellB (j := 1) h.lay rfl
  clear h
  go_enter Try.func57, Try.ntmps57
  go_wp2_with fail
  go_returns
  exact ⟨rfl, rfl⟩

set_option maxHeartbeats 1600000 in
theorem peek_no {w : World} {B hb fl : Nat} {v : Value} {t : Int} (h : IsHp w B hb fl v [] t) :
    Calls Try.prog 56 #[.pointer (some ⟨hb, 0, none⟩)] w fun e w' => e = .returned (.tuple #[thV 0 0, .bool false]) ∧ Below w.heap.size w w' := by
  have H := Lib.hid h
  clear h
  have hl : ∀ W, Below w.heap.size w W → IsHp W B hb fl v [] t := fun W hb => ⟨(Hold.below hb) _ _ H.out.lay, own_hold H.out.row (Hold.below hb), H.out.gb⟩
  have HL := Lib.hid hl
  clear hl
  go_enter Try.func56, Try.ntmps56
  go_wp2_with fail
  refine (hlen_any (HL.out _ ((Below.refl _ _).alloc (Nat.le_refl _) _))).mono ?_
  rintro e w2 ⟨rfl, rfl⟩
  go_wp2_with fail
  refine bodyPost_ret (v := .tuple #[thV 0 0, .bool false]) (by simp [results, Try.results56, go_sem]) rfl ⟨rfl, ((Below.refl _ _).alloc (Nat.le_refl _) _).alloc (by simp) _⟩

set_option maxHeartbeats 1600000 in
theorem peek_yes {w : World} {B hb fl : Nat} {v : Value} {L : List Hp} {t : Int} (h : IsHp w B hb fl v L t) (h0 : 0 < L.length) :
    Calls Try.prog 56 #[.pointer (some ⟨hb, 0, none⟩)] w fun e w' => e = .returned (.tuple #[thV (atH L 0).key (atH L 0).num, .bool true]) ∧ Below w.heap.size w w' := by
  have H := Lib.hid h
  obtain ⟨g, cap, rfl, hBg, hcm, hl⟩ := laid_of_own h.row h0
  obtain ⟨x0, x1, x2⟩ := hl.at3 (atH_some h0)
  have bA : Below w.heap.size w (w.alloc (.cells #[.int .i64 0, .int .i64 0] ThT)) := (Below.refl _ _).alloc (Nat.le_refl _) _
  have HL : Hid (IsHp (w.alloc (.cells #[.int .i64 0, .int .i64 0] ThT)) B hb fl (.slice (some ⟨g, 0, none⟩) L.length cap) L t) := Lib.hid ⟨(Hold.below bA) _ _ H.out.lay, own_hold H.out.row (Hold.below bA), H.out.gb⟩
  have z1 := cellB (j := 1) h.lay rfl
  have hn0 : (0 : Int) < (L.length : Int) := by omega
  have hne : ((L.length : Int) == 0) = false := by simp only [beq_eq_false_iff_ne, ne_eq]; omega
  generalize (atH L 0).key = k0 at *
  generalize (atH L 0).num = m0 at *
  simp only [Nat.zero_mul, Nat.zero_add] at x0 x1
  have y1 := bcellAt bA z1
  have y0 := bcellAt bA x0
  have y2 := bcellAt bA x1
  have hgl : g < w.heap.size := World.block_lt_of_cell? w _ x0
  have r0 : (w.alloc (.cells #[.int .i64 0, .int .i64 0] ThT)).cell? ⟨w.heap.size, 0, none⟩ = some (.int .i64 0) := cellB (heap_alloc_new _ _) rfl
  have HBA := Lib.hid bA
  have HGL := Lib.hid hgl
  clear h h0 hl x2 bA z1 x0 x1 hgl
  go_enter Try.func56, Try.ntmps56
  go_wp2_with fail
  refine (hlen_any HL.out).mono ?_
  rintro e w2 ⟨rfl, rfl⟩
  go_wp2_with fail
  refine bodyPost_ret (v := .tuple #[thV k0 m0, .bool true]) (by simp [results, Try.results56, go_sem]) rfl ⟨rfl, ?_⟩
  exact (Below.refl _ _).alloc (Nat.le_refl _) _

theorem less_nil (W : World) (fn : Fn) (x y : Array Value) : Sem.run Try.prog (binOp BinOp.eql 89 (.func fn x y) Value.nilFunc) W = .ok (.bool false) W := by kernel_rfl
set_option maxHeartbeats 1600000 in
theorem new_heap {fl : Nat} (w : World) :
    Calls Try.prog 51 #[.func (.func fl) #[] #[]] w fun e w' => e = .returned (.pointer (some ⟨w.heap.size, 0, none⟩)) ∧ IsHp w' w.heap.size w.heap.size fl (.slice none 0 0) [] 0 ∧ Below w.heap.size w w' := by
  have hni := less_nil
  go_enter Try.func51, Try.ntmps51
  go_wp2_with fail
  go_returns
  exact ⟨rfl, ⟨heap_alloc_new _ _, World.ownsRow_nil _ _ _ 3, Nat.le_refl _⟩, (Below.refl _ _).alloc (Nat.le_refl _) _⟩

/-- What is left when the first was taken out: the last stands in its place. -/
def cutH (L : List Hp) : List Hp := (L.set 0 (atH L (L.length - 1))).take (L.length - 1)
theorem cutH_length {L : List Hp} : (cutH L).length = L.length - 1 := by simp [cutH]
theorem cutH_perm {L : List Hp} (h : 0 < L.length) : (atH L 0 :: cutH L).Perm L := by
  cases L with
  | nil => simp at h
  | cons x r =>
    rcases List.eq_nil_or_concat r with rfl | ⟨r0, z, rfl⟩
    · simp [cutH, atH]
    · have e : cutH (x :: r0.concat z) = z :: r0 := by
        simp [cutH, atH]
      rw [e]
      simp only [List.concat_eq_append]
      show (x :: z :: r0).Perm (x :: (r0 ++ [z]))
      exact List.Perm.cons x (List.perm_append_singleton z r0).symm
theorem cutH_sink {f : Int → Int} {L : List Hp} (h : HeapOk f (atH L) L.length) : SinkOk f (atH (cutH L)) (L.length - 1) 0 :=
  HeapOk.pop h (by omega) fun j j0 hj => by
    unfold atH cutH
    simp only [List.getD_eq_getElem?_getD]
    rw [List.getElem?_take_of_lt hj, List.getElem?_set_ne (by omega)]
theorem Laid3.take {w : World} {g cap : Nat} {L : List Hp} (h : Laid3 w g cap L) (n : Nat) : Laid3 w g cap (L.take n) := by
  obtain ⟨cur, h1, h2, h3, h4⟩ := h
  refine ⟨cur, h1, h2, by simp; omega, fun k x hx => h4 k x ?_⟩
  rw [List.getElem?_take] at hx
  split at hx
  · exact hx
  · cases hx
end Go.Proofs.Ytmbaedldikobcaa
