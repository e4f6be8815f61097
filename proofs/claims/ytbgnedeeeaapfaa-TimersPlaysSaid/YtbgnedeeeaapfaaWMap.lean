/-
  The map of timers by their ids, in memory.
-/
import Derived.Test.YtbgnedeeeaapfaaWOps
import Derived.Test.YtbgnedeeeaapfaaWTou
import Derived.Maps.OwnSet
import Derived.Maps.AppendAt
import Derived.Maps.Views
namespace Go.Proofs.Ytbgnedeeeaapfaa
open Go.RowKit Go.Maps
set_option linter.unusedVariables false
abbrev IntT : TypeId := 3
def i64R (x : Int) : Prop := -9223372036854775808 ≤ x ∧ x ≤ 9223372036854775807
theorem wf_i64 {x : Int} (h : i64R x) : (Lit.int .i64 x).wf = true := WalkArith.wf_i64 h
theorem lawI : Keyed Try.prog 3 := int_keyed Try.underlying3
theorem keyI {x : Int} (h : i64R x) : keyOf Try.prog 3 (.int .i64 x) = some (.int .i64 x) := keyOf_int_mk Try.underlying3 (wf_i64 h)
/-- How an element reads: as it is. -/
def heldE : Value → Option (DataW Value × List MemPlace) := fun v => some (.held v, [])
def tmV (t : Tm) : Value := .agg #[t.v, .int .i64 t.tk, .int .i64 t.pl]
/-- What stands at an id. -/
def tmAt (Z : Value) (ts : List Tm) (i : Int) : Value := ((fnd ts i).map tmV).getD Z
structure MapD (Z : Value) (ts : List Tm) (D : DataW Value) : Prop where
  size : Maps.size D = ts.length
  at_ : ∀ i, i64R i → D.atKey (.int .i64 i) (.held Z) = .held (tmAt Z ts i) ∧ Maps.has D (.int .i64 i) = (fnd ts i).isSome
/-- At block mb stands the map of the timers ts. -/
def IsMapT (w : World) (mb : Nat) (Z : Value) (pls : Int) (ts : List Tm) : Prop := ∃ (n : Nat) (D : DataW Value), w.ownsMap Try.prog IntT heldE mb n D ∧ (n : Int) ≤ pls ∧ MapD Z ts D
theorem IsMapT.lt {w : World} {mb : Nat} {Z : Value} {pls : Int} {ts : List Tm} (h : IsMapT w mb Z pls ts) : mb < w.heap.size := by
  obtain ⟨n, D, h1, _⟩ := h
  exact h1.lt
theorem IsMapT.is {w : World} {mb : Nat} {Z : Value} {pls : Int} {ts : List Tm} (h : IsMapT w mb Z pls ts) : ∃ es c, w.heap[mb]? = some (.map es c) := by
  obtain ⟨n, D, ⟨es, c, hb, _⟩, _⟩ := h
  exact ⟨es, c, hb⟩
theorem IsMapT.same {w w' : World} {mb : Nat} {Z : Value} {pls : Int} {ts : List Tm} (h : IsMapT w mb Z pls ts) (hs : w'.heap[mb]? = w.heap[mb]?) : IsMapT w' mb Z pls ts := by
  obtain ⟨n, D, ⟨es, c, hb, r⟩, h2⟩ := h
  exact ⟨n, D, ⟨es, c, by rw [hs]; exact hb, r⟩, h2⟩
theorem IsMapT.below {w w' : World} {mb : Nat} {Z : Value} {pls : Int} {ts : List Tm} (h : IsMapT w mb Z pls ts) (hb : Below w.heap.size w w') : IsMapT w' mb Z pls ts := h.same (hb.block mb h.lt)
theorem IsMapT.new (w : World) (Z : Value) : IsMapT (w.alloc (.map #[] 0)) w.heap.size Z 0 [] :=
  ⟨0, _, World.ownsMap_made w _ _ _, by simp, rfl, fun i _ => ⟨rfl, rfl⟩⟩
theorem IsMapT.look {w : World} {mb : Nat} {Z : Value} {pls : Int} {ts : List Tm} (h : IsMapT w mb Z pls ts) {t e : TypeId} (ht : Try.prog.underlying t = some (.map IntT e)) (hz : (zeroValue e).run Try.prog w = .ok Z w) {i : Int} (hi : i64R i) :
    (Instr.lookup t (.map (some mb)) (.int .i64 i) true).run Try.prog w = .ok (.tuple #[tmAt Z ts i, .bool (fnd ts i).isSome]) w ∧ (Instr.lookup t (.map (some mb)) (.int .i64 i) false).run Try.prog w = .ok (tmAt Z ts i) w := by
  obtain ⟨n, D, h1, _, h2⟩ := h
  obtain ⟨v, ps, hr, hv⟩ := h1.look_ok lawI ht hz (R := heldE) (zd := .held Z) (zp := []) rfl (keyI hi)
  obtain ⟨v', ps', hr', hv'⟩ := h1.lookup lawI ht hz (zd := .held Z) (zp := []) rfl (keyI hi)
  rw [(h2.at_ i hi).1] at hv hv'
  simp only [heldE, Option.some.injEq, Prod.mk.injEq, DataW.held.injEq] at hv hv'
  rw [hr, hr', hv.1, hv'.1, (h2.at_ i hi).2]
  exact ⟨rfl, rfl⟩
theorem IsMapT.store {w : World} {mb : Nat} {Z : Value} {pls : Int} {ts : List Tm} (h : IsMapT w mb Z pls ts) {t e : TypeId} (ht : Try.prog.underlying t = some (.map IntT e)) (hp : pls < 400000) (hn : ts.Pairwise fun a b => a.id ≠ b.id) {x : Tm} (hi : i64R x.id) (hf : ∀ a ∈ ts, a.id ≠ x.id) :
    ∃ w', (Instr.mapUpdate t (.map (some mb)) (.int .i64 x.id) (tmV x)).run Try.prog w = .ok () w' ∧ IsMapT w' mb Z (pls + 1) (ins ts x) ∧ w.mapTurned w' mb := by
  obtain ⟨n, D, h1, h3, h2⟩ := h
  obtain ⟨w', hr, ho, ht'⟩ := h1.store lawI ht (by unfold maxLen; omega) (keyI hi) (show heldE (tmV x) = some (.held (tmV x), []) from rfl)
  have hno : fnd ts x.id = none := by
    cases e : fnd ts x.id with
    | none => rfl
    | some a => exact absurd (fnd_some e).2 (hf a (fnd_some e).1)
  refine ⟨w', hr, ⟨n + 1, _, ho, by push_cast; omega, ?_, fun i hi' => ?_⟩, ht'⟩
  · rw [size_put (h1.tidy lawI), (h2.at_ _ hi).2, hno, ins_len, h2.size]; rfl
  · unfold tmAt
    rw [fnd_ins hn hf]
    by_cases e : i = x.id
    · subst e
      rw [atKey_put_same h1.isMap (lawI.key (keyI hi)), has_put_same h1.isMap (lawI.key (keyI hi))]
      simp
    · rw [atKey_put_other (fun e' => e (by simpa using e')), has_put_other (fun e' => e (by simpa using e')), if_neg e]
      exact h2.at_ i hi'
theorem IsMapT.drop {w : World} {mb : Nat} {Z : Value} {pls : Int} {ts : List Tm} (h : IsMapT w mb Z pls ts) {t e : TypeId} (ht : Try.prog.underlying t = some (.map IntT e)) (hn : ts.Pairwise fun a b => a.id ≠ b.id) {x : Tm} (hx : x ∈ ts) (hi : i64R x.id) (ty : TypeId) :
    ∃ w', (Builtin.delete_ #[t, IntT] ty #[.map (some mb), .int .i64 x.id]).run Try.prog w = .ok (.tuple #[]) w' ∧ IsMapT w' mb Z pls (out ts x.id) ∧ w.mapTurned w' mb := by
  obtain ⟨n, D, h1, h3, h2⟩ := h
  obtain ⟨w', hr, ho, ht'⟩ := h1.drop lawI ht (keyI hi) ty
  refine ⟨w', hr, ⟨n, _, ho, h3, ?_, fun i hi' => ?_⟩, ht'⟩
  · have := size_del (k := Lit.int .i64 x.id) (h1.tidy lawI)
    rw [(h2.at_ _ hi).2, fnd_mem hn hx, h2.size] at this
    have hl := out_len hn hx
    simp at this
    omega
  · unfold tmAt
    rw [fnd_out hn]
    by_cases e : i = x.id
    · subst e
      rw [atKey_del_same, has_del_same]
      simp
    · rw [atKey_del_other (fun e' => e (by simpa using e')), has_del_other (fun e' => e (by simpa using e')), if_neg e]
      exact h2.at_ i hi'
theorem IsMapT.len {w : World} {mb : Nat} {Z : Value} {pls : Int} {ts : List Tm} (h : IsMapT w mb Z pls ts) {t e : TypeId} (ht : Try.prog.underlying t = some (.map IntT e)) (ty : TypeId) : (Builtin.len_ #[t] ty #[.map (some mb)]).run Try.prog w = .ok (.int .i64 (ts.length : Int)) w := by
  obtain ⟨n, D, h1, h3, h2⟩ := h
  rw [h1.len ht ty, h2.size]
theorem turned_touch {w w' : World} {b : Nat} (h : w.mapTurned w' b) (S : Nat → Prop) (hS : S b) : Touch S w w' := touch_of_grown h.grown S fun k e => by cases e; exact hS
end Go.Proofs.Ytbgnedeeeaapfaa
