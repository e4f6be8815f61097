/-
  What an argument that is a list of acts gives the walk; the law's long.
-/
import Derived.Test.YtbgnedeeeaapfaaWArg
namespace Go.Proofs.Ytbgnedeeeaapfaa
open Go.ChangeShapes Go.WideShapes Go.ChangeAt Go.RowKit
set_option linter.unusedVariables false
/-- An act: its kind, tick, id, text. -/
structure Ac where
  kd : Int
  tk : Int
  id : Int
  v : ByteArray
def tacs (l : List Ac) : List Value := l.flatMap fun x => [.int .i64 x.kd, .int .i64 x.tk, .int .i64 x.id, .string x.v]
theorem tacs_length (l : List Ac) : (tacs l).length = l.length * 4 := by
  induction l with
  | nil => rfl
  | cons a l ih => simp [tacs, List.flatMap_cons] at ih ⊢; omega
theorem tacs_at (l : List Ac) : ∀ (i : Nat) (h : i < l.length), (tacs l)[i * 4]? = some (.int .i64 (l[i]).kd) ∧ (tacs l)[i * 4 + 1]? = some (.int .i64 (l[i]).tk) ∧ (tacs l)[i * 4 + 2]? = some (.int .i64 (l[i]).id) ∧ (tacs l)[i * 4 + 3]? = some (.string (l[i]).v) := by
  induction l with
  | nil => intro i h; simp at h
  | cons a l ih =>
    intro i h
    have e : tacs (a :: l) = .int .i64 a.kd :: .int .i64 a.tk :: .int .i64 a.id :: .string a.v :: tacs l := by simp [tacs]
    cases i with
    | zero => simp [e]
    | succ i =>
      have := ih i (by simpa using h)
      rw [e, show (i + 1) * 4 = i * 4 + 1 + 1 + 1 + 1 by omega, show i * 4 + 1 + 1 + 1 + 1 + 1 = (i * 4 + 1) + 1 + 1 + 1 + 1 by omega, show i * 4 + 1 + 1 + 1 + 1 + 2 = (i * 4 + 2) + 1 + 1 + 1 + 1 by omega, show i * 4 + 1 + 1 + 1 + 1 + 3 = (i * 4 + 3) + 1 + 1 + 1 + 1 by omega]
      simpa using this
/-- What may stand in an act. -/
def AcOk (x : Ac) : Prop := i64R x.kd ∧ i64R x.tk ∧ i64R x.id
theorem cellsTA : Try.prog.cellsOf 33 = 4 := by kernel_rfl
section
variable {H : Type} {enc : TypeId × Value → H} {W : World} {base : Nat}
set_option maxRecDepth 100000 in
theorem open_tacts {v : Value} {fuel : Nat} {x : DataW H × List MemPlace} (hval : Cell.okWide Try.prog W .any base 22 v) (hf : DataW.trod enc Try.prog W 0 (fun _ => true) true fuel 22 [v] = some x) :
    ∃ l : List Ac, Row W 4 v l.length (tacs l) ∧ ∀ y ∈ l, AcOk y := by
  rcases Go.Deep.open_slice Try.underlying22 hf with ⟨hcs, _⟩ | ⟨y, len, cap, m, n, D, Pl, hcs, _, hl, hm, hmm, hx, hi⟩
  · simp at hcs
    subst hcs
    exact ⟨[], Row.nils W 4, fun s hs => by cases hs⟩
  · simp at hcs
    subst hcs
    simp only [if_true] at hmm
    subst hmm
    have hh : W.has Try.prog .any base y 33 m := by
      simp only [Try.underlying22, Cell.okWide, Cell.ok] at hval
      exact hval.2.2
    obtain ⟨hspot, hblk⟩ := place_of hh
    obtain ⟨b, off, spot⟩ := y
    simp only at hspot hblk
    subst hspot
    have each : ∀ i, i < m → ∃ z : Ac, AcOk z ∧ W.cell? ⟨b, off + i * 4, none⟩ = some (.int .i64 z.kd) ∧ W.cell? ⟨b, off + i * 4 + 1, none⟩ = some (.int .i64 z.tk) ∧ W.cell? ⟨b, off + i * 4 + 2, none⟩ = some (.int .i64 z.id) ∧ W.cell? ⟨b, off + i * 4 + 3, none⟩ = some (.string z.v) := by
      intro i him
      obtain ⟨cs', hc, ht⟩ := hi i him
      rw [cellsTA] at hc
      obtain ⟨_, hlen3, hat⟩ := World.cells?_some hc
      obtain ⟨ys, k, _, _, _, hyl, hfld⟩ := DataW.trod_struct Try.underlying33 ht
      match cs', hlen3 with
      | [u0, u1, u2, u3], _ =>
        have f0 : DataW.trod enc Try.prog W 0 (fun _ => true) true k 3 (([u0, u1, u2, u3].drop 0).take (Try.prog.cellsOf 3)) = ys[0]? := hfld 0 _ rfl
        have f1 : DataW.trod enc Try.prog W 0 (fun _ => true) true k 2 (([u0, u1, u2, u3].drop 1).take (Try.prog.cellsOf 2)) = ys[1]? := hfld 1 _ rfl
        have f2 : DataW.trod enc Try.prog W 0 (fun _ => true) true k 3 (([u0, u1, u2, u3].drop 2).take (Try.prog.cellsOf 3)) = ys[2]? := hfld 2 _ rfl
        have f3 : DataW.trod enc Try.prog W 0 (fun _ => true) true k 9 (([u0, u1, u2, u3].drop 3).take (Try.prog.cellsOf 9)) = ys[3]? := hfld 3 _ rfl
        have hi1 : Try.prog.cellsOf 3 = 1 := by kernel_rfl
        rw [hi1] at f0 f2
        rw [cells64] at f1
        rw [cellsS] at f3
        simp only [List.drop_zero, List.drop_succ_cons, List.take_succ_cons, List.take_zero] at f0 f1 f2 f3
        have y0 : ys[0]? = some (ys[0]'(by rw [hyl]; decide)) := List.getElem?_eq_getElem (by rw [hyl]; decide)
        have y1 : ys[1]? = some (ys[1]'(by rw [hyl]; decide)) := List.getElem?_eq_getElem (by rw [hyl]; decide)
        have y2 : ys[2]? = some (ys[2]'(by rw [hyl]; decide)) := List.getElem?_eq_getElem (by rw [hyl]; decide)
        have y3 : ys[3]? = some (ys[3]'(by rw [hyl]; decide)) := List.getElem?_eq_getElem (by rw [hyl]; decide)
        rw [y0] at f0
        rw [y1] at f1
        rw [y2] at f2
        rw [y3] at f3
        obtain ⟨n0, e0, _, w0⟩ := DataW.trod_int Try.underlying3 f0
        obtain ⟨n1, e1, _, w1⟩ := DataW.trod_int Try.underlying2 f1
        obtain ⟨n2, e2, _, w2⟩ := DataW.trod_int Try.underlying3 f2
        obtain ⟨s3, e3, _, w3⟩ := DataW.trod_string Try.underlying9 f3
        simp at e0 e1 e2 e3
        subst e0; subst e1; subst e2; subst e3
        have a0 := hat 0 (by decide)
        have a1 := hat 1 (by decide)
        have a2 := hat 2 (by decide)
        have a3 := hat 3 (by decide)
        rw [Go.Deep.add_add, addr_add] at a0 a1 a2 a3
        refine ⟨⟨n0, n1, n2, s3⟩, ⟨?_, ?_, ?_⟩, ?_, ?_, ?_, ?_⟩
        · have := bounds_i64 w0; show -9223372036854775808 ≤ n0 ∧ n0 ≤ 9223372036854775807; omega
        · have := bounds_i64 w1; show -9223372036854775808 ≤ n1 ∧ n1 ≤ 9223372036854775807; omega
        · have := bounds_i64 w2; show -9223372036854775808 ≤ n2 ∧ n2 ≤ 9223372036854775807; omega
        · simpa using a0
        · rw [Nat.add_assoc]; simpa using a1
        · rw [Nat.add_assoc]; simpa using a2
        · rw [Nat.add_assoc]; simpa using a3
    obtain ⟨l, hll, hq⟩ := list_of m each
    have hlt : (l.take len).length = len := by simp; omega
    refine ⟨l.take len, ⟨by rw [tacs_length], .inr ⟨b, off, m, by rw [hlt], hblk, by omega, hm, fun j u hj => ?_⟩⟩, fun z hz => ?_⟩
    · have hj' : j < len * 4 := by
        have := (List.getElem?_eq_some_iff.1 hj).1
        rw [tacs_length] at this; omega
      have hd : j / 4 < (l.take len).length := by omega
      obtain ⟨_, q0, q1, q2, q3⟩ := hq (j / 4) (by omega)
      obtain ⟨p0, p1, p2, p3⟩ := tacs_at (l.take len) (j / 4) hd
      rw [List.getElem_take] at p0 p1 p2 p3
      rcases (by omega : j = j / 4 * 4 ∨ j = j / 4 * 4 + 1 ∨ j = j / 4 * 4 + 2 ∨ j = j / 4 * 4 + 3) with e | e | e | e
      · rw [← e] at p0 q0; rw [p0] at hj; rw [← hj]; exact q0
      · rw [← e] at p1; rw [Nat.add_assoc, ← e] at q1; rw [p1] at hj; rw [← hj]; exact q1
      · rw [← e] at p2; rw [Nat.add_assoc, ← e] at q2; rw [p2] at hj; rw [← hj]; exact q2
      · rw [← e] at p3; rw [Nat.add_assoc, ← e] at q3; rw [p3] at hj; rw [← hj]; exact q3
    · obtain ⟨i, hi', rfl⟩ := List.getElem_of_mem (List.mem_of_mem_take hz)
      exact (hq i hi').1
end
theorem Row.at2 {w : World} {size n : Nat} {v : Value} {cs : List Value} (h : Row w size v n cs) : ∃ a c, v = .slice a n c ∧ (0 < n → ∃ b off, a = some ⟨b, off, none⟩ ∧ ∀ (j : Nat) (u : Value), cs[j]? = some u → w.cell? ⟨b, off + j, none⟩ = some u) := by
  rcases h.2 with ⟨rfl, rfl⟩ | ⟨b, off, cap, rfl, _, _, _, h6⟩
  · exact ⟨_, _, rfl, fun h0 => absurd h0 (by omega)⟩
  · exact ⟨_, _, rfl, fun _ => ⟨b, off, rfl, h6⟩⟩
/-- Not too many: whether long is told hangs on the bytes alone. -/
theorem long_any {w : World} {v : Value} {l : List Ac} (h : Row w 4 v l.length (tacs l)) (hl : l.length ≤ 80) :
    Calls Try.prog 9 #[v] w fun e w' => (e = .returned (.bool true) ∨ e = .returned (.bool false)) ∧ w = w' := by
  obtain ⟨aa, ca, rfl, xa⟩ := h.at2
  have XA := Lib.hid xa
  clear h xa
  go_enter Try.func9, Try.ntmps9
  go_wp2_with fail
  go_loop [4, 3] (fun u n => ∃ (k : Nat) (acc : Int), u = .int .i64 (k : Int) ∧ n = .int .i64 acc ∧ k ≤ l.length) (fun u _ => 82 - (intOf u).toNat)
  case atStart => exact ⟨0, 0, rfl, rfl, by omega⟩
  case round =>
    obtain ⟨k, acc, rfl, rfl, hk⟩ := hrel
    by_cases hlt : k < l.length
    · obtain ⟨b1, o1, rfl, q1⟩ := XA.out (by omega)
      have c1 := q1 _ _ (tacs_at l k hlt).2.2.2
      rw [← Nat.add_assoc] at c1
      clear q1 XA
      generalize (l[k]).v = x at *
      have hk0 : (0 : Int) ≤ (k : Int) := by omega
      have hk1 : (k : Int) < (l.length : Int) := by omega
      have hk2 : (k : Int) ≤ 80 := by omega
      go_wp2_with fail
      go_round
      case rel => exact ⟨k + 1, _, by go_num, rfl, by omega⟩
      case measure => simp [intOf]; omega
    · obtain rfl : k = l.length := by omega
      clear hlt XA
      by_cases hacc : 4000 < acc
      · go_wp2_with fail
        go_returns
        exact ⟨.inl rfl, rfl⟩
      · have hacc' : decide (4000 < acc) = false := by simpa using hacc
        have h80 : decide ((80 : Int) < (l.length : Int)) = false := by simp; omega
        clear hacc
        go_wp2_with fail
        go_returns
        exact ⟨.inr rfl, rfl⟩
theorem long_long {w : World} {v : Value} {l : List Ac} (h : Row w 4 v l.length (tacs l)) (hm : l.length ≤ maxLen) (hl : 80 < l.length) :
    Calls Try.prog 9 #[v] w fun e w' => e = .returned (.bool true) ∧ w = w' := by
  obtain ⟨aa, ca, rfl, xa⟩ := h.at2
  have XA := Lib.hid xa
  unfold maxLen at hm
  clear h xa
  go_enter Try.func9, Try.ntmps9
  go_wp2_with fail
  go_loop [4, 3] (fun u n => ∃ (k : Nat) (acc : Int), u = .int .i64 (k : Int) ∧ n = .int .i64 acc ∧ k ≤ 81) (fun u _ => 82 - (intOf u).toNat)
  case atStart => exact ⟨0, 0, rfl, rfl, by omega⟩
  case round =>
    obtain ⟨k, acc, rfl, rfl, hk⟩ := hrel
    by_cases hlt : k ≤ 80
    · obtain ⟨b1, o1, rfl, q1⟩ := XA.out (by omega)
      have c1 := q1 _ _ (tacs_at l k (by omega)).2.2.2
      rw [← Nat.add_assoc] at c1
      clear q1 XA
      generalize (l[k]'(by omega)).v = x at *
      have hk0 : (0 : Int) ≤ (k : Int) := by omega
      have hk1 : (k : Int) < (l.length : Int) := by omega
      have hk2 : (k : Int) ≤ 80 := by omega
      go_wp2_with fail
      go_round
      case rel => exact ⟨k + 1, _, by go_num, rfl, by omega⟩
      case measure => simp [intOf]; omega
    · obtain rfl : k = 81 := by omega
      clear hlt XA
      by_cases h82 : 81 < l.length
      · have h82' : (81 : Int) < (l.length : Int) := by omega
        go_wp2_with fail
        go_returns
        exact ⟨rfl, rfl⟩
      · have h83 : l.length = 81 := by omega
        go_wp2_with fail
        go_returns
        exact ⟨rfl, rfl⟩
end Go.Proofs.Ytbgnedeeeaapfaa
