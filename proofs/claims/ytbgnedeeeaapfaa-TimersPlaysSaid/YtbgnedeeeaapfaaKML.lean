/-
  Len, All and what All answers, of a map in memory (int64,Map[int,int]).
-/
import Derived.Test.YtbgnedeeeaapfaaKWL
namespace Go.Proofs.Ytbgnedeeeaapfaa
open Go.RowKit Go.Shelf
attribute [local go_sem] Oper.semAt_some
set_option linter.unusedVariables false
set_option maxHeartbeats 400000 in
theorem mallL (p : Option Addr) (w : World) : Calls Try.prog 69 #[.agg #[.pointer p]] w fun e w' => e = .returned (.func (.func 89) #[] #[.pointer (some ⟨w.heap.size, 0, none⟩)]) ∧ w' = (w.alloc (.cells #[.pointer p] 82)) := by
  go_enter Try.func69, Try.ntmps69
  go_wp2_with fail
  go_ret
  exact ⟨rfl, rfl⟩
set_option maxRecDepth 100000 in
set_option maxHeartbeats 1600000 in
/-- What All answers goes over the tree's entries, or a part of them from the front. -/
theorem stopsL (n : Nat) (Bt : Nat) (p : Option Addr) (t : Tr Int (Option Addr)) (w0 w : World) (hb : Below w0.heap.size w0 w) (hc : w.cell? ⟨Bt, 0, none⟩ = some (.pointer p)) (hT : IsTL w0 (.pointer p) t) :
    SeqStopsK Fence.wide n Try.prog 89 #[.pointer (some ⟨Bt, 0, none⟩)] encL (Below w0.heap.size) (fun ys => ys = t.toL) (fun pre => pre <+: t.toL) t.toL.length w := by
  intro l J Jx W hW hJ _ hY h0
  have c := bcellAt hW hc
  have hp := walkL l w0 t.toL.length J Jx (fun s W' hs => hJ s W' W'.drew none hs (grownBy_drew W') (fun r e => by cases e))
    (fun m pre x W' hj hl => (by obtain ⟨fn, tmps, assign, body, hy, hR⟩ := hY pre x W' hj hl; exact ⟨fn, tmps, assign, body, hy, hR.1, fun c cs _ => hR.2 c cs (fun d h => by cases h)⟩)) t
    (n - 1) (.pointer p) [] W hT (hb.trans (hW.mono hb.size)) h0 (by simp)
  have HP := Lib.hid hp
  clear hp hb hc hT hW hJ hY h0
  refine callsIn_of_wp Try.func89 rfl trivial ?_ rfl
  simp only [Try.ntmps89, List.size_toArray, List.length_cons, List.length_nil, Nat.reduceAdd, Nat.reduceSub, Array.replicate_succ, Array.replicate_zero, List.push_toArray, List.append_toArray, List.nil_append, List.cons_append]
  gi_wp2_with fail
  refine ⟨trivial, fun h => (by cases h), HP.out.mono ?_⟩
  rintro e W1 (⟨rfl, hJ1, _⟩ | ⟨rfl, q, hq, hx⟩)
  · have HJ1 := Lib.hid hJ1
    clear hJ1
    gi_wp2
    go_end0
    exact ⟨⟨_, rfl⟩, .inl ⟨_, rfl, by simpa using HJ1.out⟩⟩
  · have HX := Lib.hid hx
    have HQ := Lib.hid hq
    clear hx hq
    gi_wp2
    go_end0
    exact ⟨⟨_, rfl⟩, .inr ⟨q, HQ.out, by simpa using HX.out⟩⟩
end Go.Proofs.Ytbgnedeeeaapfaa
