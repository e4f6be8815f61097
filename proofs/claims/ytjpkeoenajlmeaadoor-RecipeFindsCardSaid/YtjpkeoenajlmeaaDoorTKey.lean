/-
  A node as a key of a map.
-/
import Derived.Test.YtjpkeoenajlmeaaDoorTShape
import Derived.DeepKeys4
namespace Go.Proofs.YtjpkeoenajlmeaaDoor
open Go.RowKit Go.Maps
set_option linter.unusedVariables false

theorem own : ownKnob Tryd.prog.godebug = none := by kernel_rfl
theorem laidOut : laidOutB Tryd.prog = true := by kernel_rfl
theorem lawN : Keyed Tryd.prog NodeT := Keyed.of_law (deep_law_laid laidOut (m := 3) (by decide) (of_decide_eq_true (by kernel_rfl)) (by kernel_rfl) (by kernel_rfl))
def keyN (n : Nd) : Lit := .string (keyBytes [.int .i64 n.kind, .int .i64 n.frm, .int .i64 n.to, .int .u64 n.num, .string n.text.data.toList, .int .i64 n.a, .int .i64 n.b])
theorem wf_i64 {n : Int} (h : i64R n) : (Lit.int .i64 n).wf = true := WalkArith.wf_i64 (by unfold i64R at h; omega)
theorem wf_u64 {n : Int} (h : 0 ≤ n ∧ n ≤ 18446744073709551615) : (Lit.int .u64 n).wf = true := by
  exact WalkArith.wf_u64 h
set_option maxRecDepth 100000 in
theorem keyN_of {n : Nd} (h : NdOk n) : keyOf Tryd.prog NodeT (.agg (nodeA n)) = some (keyN n) := by
  have hk : Tryd.prog.keyType NodeT = true := by kernel_rfl
  have hu := Tryd.underlying85
  have u3 := Tryd.underlying3
  have u31 := Tryd.underlying25
  have u9 := Tryd.underlying9
  have u28 := Tryd.underlying23
  have c33 : Tryd.prog.cellsOf NodeT = 7 := by kernel_rfl
  have c3 : Tryd.prog.cellsOf 3 = 1 := by kernel_rfl
  have c31 : Tryd.prog.cellsOf 25 = 1 := by kernel_rfl
  have c9 : Tryd.prog.cellsOf 9 = 1 := by kernel_rfl
  have c28 : Tryd.prog.cellsOf 23 = 1 := by kernel_rfl
  have h0 : 0 < Tryd.prog.types.size := of_decide_eq_true (by kernel_rfl)
  obtain ⟨m, hm⟩ : ∃ m, Tryd.prog.types.size = m + 1 := ⟨Tryd.prog.types.size - 1, by omega⟩
  have hf : (Value.agg (nodeA n)).formed Tryd.prog NodeT = true := by
    simp [Value.formed, hu, c33, nodeA]
  unfold keyOf
  rw [hu]
  simp only [hk, hf, Bool.and_self, if_true, hm]
  simp [Program.keyLits, hu, u3, u31, u9, u28, c33, c3, c31, c9, c28, nodeA, Value.cells, keyN, wf_i64 h.kind, wf_i64 h.frm, wf_i64 h.to, wf_u64 h.num, h.text, wf_i64 h.a, wf_i64 h.b]
theorem keyN_inj {a b : Nd} (ha : NdOk a) (hb : NdOk b) (h : keyN a = keyN b) : a = b := by
  have e := lawN.inj (keyN_of ha) (by rw [h]; exact keyN_of hb)
  obtain ⟨k, f, t, u, x, y, z⟩ := a
  obtain ⟨k', f', t', u', x', y', z'⟩ := b
  simp [nodeA] at e
  simp [e]
end Go.Proofs.YtjpkeoenajlmeaaDoor
