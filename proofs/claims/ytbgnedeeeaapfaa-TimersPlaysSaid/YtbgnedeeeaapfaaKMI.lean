/-
  Len, All and what All answers, of a map in memory (int,int).
-/
import Derived.Test.YtbgnedeeeaapfaaKWI
namespace Go.Proofs.Ytbgnedeeeaapfaa
open Go.RowKit Go.Shelf
attribute [local go_sem] Oper.semAt_some
set_option linter.unusedVariables false
set_option maxHeartbeats 400000 in
theorem mlenI {w : World} {p : Option Addr} {t : Tr Int Int} (h : IsTI w (.pointer p) t) : Calls Try.prog 84 #[.agg #[.pointer p]] w fun e w' => e = .returned (.int .i64 (t.size : Int)) ∧ Below w.heap.size w w' := by
  have b0 : Below w.heap.size w (w.alloc (.cells #[.pointer p] 111)) := (Below.refl _ _).alloc (Nat.le_refl _) _
  have h' := h.below b0
  have HB := Lib.hid b0
  clear h b0
  go_enter Try.func84, Try.ntmps84
  go_wp2_with fail
  refine (sizeI h').mono ?_
  rintro e w1 ⟨rfl, rfl⟩
  go_wp2_with fail
  go_ret
  exact ⟨rfl, HB.out⟩
set_option maxHeartbeats 400000 in
theorem mallI (p : Option Addr) (w : World) : Calls Try.prog 70 #[.agg #[.pointer p]] w fun e w' => e = .returned (.func (.func 91) #[] #[.pointer (some ⟨w.heap.size, 0, none⟩)]) ∧ w' = (w.alloc (.cells #[.pointer p] 111)) := by
  go_enter Try.func70, Try.ntmps70
  go_wp2_with fail
  go_ret
  exact ⟨rfl, rfl⟩
set_option maxRecDepth 100000 in
set_option maxHeartbeats 1600000 in
/-- What All answers goes over the tree's entries, or a part of them from the front. -/
theorem stopsI (n : Nat) (Bt : Nat) (p : Option Addr) (t : Tr Int Int) (w0 w : World) (hb : Below w0.heap.size w0 w) (hc : w.cell? ⟨Bt, 0, none⟩ = some (.pointer p)) (hT : IsTI w0 (.pointer p) t) :
    SeqStopsK Fence.wide n Try.prog 91 #[.pointer (some ⟨Bt, 0, none⟩)] encI (Below w0.heap.size) (fun ys => ys = t.toL) (fun pre => pre <+: t.toL) t.toL.length w := by
  intro l J Jx W hW hJ _ hY h0
  have c := bcellAt hW hc
  have hp := walkI l w0 t.toL.length J Jx (fun s W' hs => hJ s W' W'.drew none hs (grownBy_drew W') (fun r e => by cases e))
    (fun m pre x W' hj hl => (by obtain ⟨fn, tmps, assign, body, hy, hR⟩ := hY pre x W' hj hl; exact ⟨fn, tmps, assign, body, hy, hR.1, fun c cs _ => hR.2 c cs (fun d h => by cases h)⟩)) t
    (n - 1) (.pointer p) [] W hT (hb.trans (hW.mono hb.size)) h0 (by simp)
  have HP := Lib.hid hp
  clear hp hb hc hT hW hJ hY h0
  refine callsIn_of_wp Try.func91 rfl trivial ?_ rfl
  simp only [Try.ntmps91, List.size_toArray, List.length_cons, List.length_nil, Nat.reduceAdd, Nat.reduceSub, Array.replicate_succ, Array.replicate_zero, List.push_toArray, List.append_toArray, List.nil_append, List.cons_append]
  gi_wp2_with fail
  refine ⟨trivial, fun h => (by cases h), HP.out.mono ?_⟩
  rintro e W1 (⟨rfl, hJ1, _⟩ | ⟨rfl, q, hq, hx⟩)
  · have HJ1 := Lib.hid hJ1
    clear hJ1
    gi_wp2
    go_end0
    exact ⟨⟨_, rfl⟩, .inl ⟨_, rfl, by simpa using HJ1.out⟩⟩
  · have HX := Lib.hid hx
    have HQ := Lib.hid hq
    clear hx hq
    gi_wp2
    go_end0
    exact ⟨⟨_, rfl⟩, .inr ⟨q, HQ.out, by simpa using HX.out⟩⟩
end Go.Proofs.Ytbgnedeeeaapfaa
