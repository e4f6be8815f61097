/-
  Trees in a row of the call's own: what is appended one behind the other.
-/
import Derived.Test.YtjpkeoenajlmeaaDoorTParts
import Derived.Test.YtjpkeoenajlmeaaDoorTApp
import Derived.Test.YtjpkeoenajlmeaaDoorTLexG
namespace Go.Proofs.YtjpkeoenajlmeaaDoor
open Go.RowKit Go.Maps
set_option linter.unusedVariables false

theorem rowTree : (Tryd.prog.info? TrT).map (fun i => (i.zero, i.size, i.bytes)) = some (some (.agg #[.int .i64 0, .int .i64 0, .int .i64 0, .int .u64 0, .string ⟨#[]⟩, .slice none 0 0]), 6, 72) := by kernel_rfl
theorem news6 (w : World) (x0 x1 x2 x3 x4 x5 : Value) (T : TypeId) : ∀ j u, [x0, x1, x2, x3, x4, x5][j]? = some u → (w.alloc (.cells #[x0, x1, x2, x3, x4, x5] T)).cell? ((⟨w.heap.size, 0, none⟩ : Addr).add j) = some u := by
  intro j u hj
  have hadd : (⟨w.heap.size, 0, none⟩ : Addr).add j = ⟨w.heap.size, j, none⟩ := by unfold Addr.add; split <;> simp_all
  rw [hadd, World.cell?, heap_alloc_new w _]
  simpa using hj

def six (n : Nd) (v : Value) : List Value := [.int .i64 n.kind, .int .i64 n.frm, .int .i64 n.to, .int .u64 n.num, .string n.text, v]
/-- These cells are those of these trees. -/
def RowF (w : World) (G : Nat → Prop) : List (Nd × Fo) → List Value → Prop
  | [], xs => xs = []
  | x :: l, xs => ∃ v ys, xs = six x.1 v ++ ys ∧ IsK w G v x.2 ∧ RowF w G l ys
theorem RowF.length {w : World} {G : Nat → Prop} : ∀ {l : List (Nd × Fo)} {xs : List Value}, RowF w G l xs → xs.length = l.length * 6
  | [], _, rfl => rfl
  | x :: l, _, ⟨v, ys, rfl, _, h⟩ => by have := RowF.length h; simp [six, this]; omega
theorem RowF.keep {w w' : World} {G G' : Nat → Prop} (hk : ∀ b, G b → b < w.heap.size → G' b ∧ w'.heap[b]? = w.heap[b]?) : ∀ {l : List (Nd × Fo)} {xs : List Value}, RowF w G l xs → RowF w' G' l xs
  | [], _, h => h
  | x :: l, _, ⟨v, ys, e, h1, h2⟩ => ⟨v, ys, e, h1.keep hk, RowF.keep hk h2⟩
theorem RowF.snoc {w : World} {G : Nat → Prop} {n : Nd} {k : Fo} {v : Value} (hv : IsK w G v k) : ∀ {l : List (Nd × Fo)} {xs : List Value}, RowF w G l xs → RowF w G (l ++ [(n, k)]) (xs ++ six n v)
  | [], _, rfl => ⟨v, [], by simp, hv, rfl⟩
  | x :: l, _, ⟨u, ys, e, h1, h2⟩ => ⟨u, ys ++ six n v, by rw [e, List.append_assoc], h1, RowF.snoc hv h2⟩
theorem RowF.at {w : World} {G : Nat → Prop} {b : Nat} : ∀ {l : List (Nd × Fo)} {xs : List Value} {off : Nat}, RowF w G l xs → (∀ j u, xs[j]? = some u → w.cell? ⟨b, off + j, none⟩ = some u) → AtF w G (foOf l) b off
  | [], _, _, _, _ => trivial
  | x :: l, _, off, ⟨v, ys, rfl, h1, h2⟩, hc => by
    have c0 := hc 0 _ (by simp [six]; rfl)
    have c1 := hc 1 _ (by simp [six]; rfl)
    have c2 := hc 2 _ (by simp [six]; rfl)
    have c3 := hc 3 _ (by simp [six]; rfl)
    have c4 := hc 4 _ (by simp [six]; rfl)
    have c5 := hc 5 _ (by simp [six]; rfl)
    refine AtF.mk c0 c1 c2 c3 c4 c5 h1 (RowF.at h2 fun j u hj => ?_)
    have := hc (6 + j) u (by rw [Nat.add_comm 6 j]; simpa [six] using hj)
    rw [← Nat.add_assoc] at this
    exact this
/-- A list of trees and what follows. -/
def foApp : List (Nd × Fo) → Fo → Fo
  | [], r => r
  | x :: l, r => .cons x.1 x.2 (foApp l r)
theorem foApp_snoc (l : List (Nd × Fo)) (n : Nd) (k r : Fo) : foApp (l ++ [(n, k)]) r = foApp l (.cons n k r) := by
  induction l with
  | nil => rfl
  | cons x l ih => simp [foApp, ih]
theorem foApp_nil (l : List (Nd × Fo)) : foApp l .nil = foOf l := by
  induction l with
  | nil => rfl
  | cons x l ih => simp [foApp, foOf, ih]
/-- A row of the call's own as a slice of trees; it may have one more. -/
theorem isK_row {w : World} {G : Nat → Prop} {base m : Nat} {v : Value} {a : Option Addr} {c : Nat} {l : List (Nd × Fo)} {xs zs : List Value} (ho : w.ownsRow base TrT 6 v m (xs ++ zs)) (hv : v = .slice a m c) (hm : l.length ≤ m) (hr : RowF w G l xs) (hg : ∀ b, v.ownBlock = some b → G b) : IsK w G (.slice a l.length c) (foOf l) := by
  have hrow := row_of_own ho
  obtain ⟨_, hr2⟩ := hrow
  subst hv
  rcases hr2 with ⟨e, h0⟩ | ⟨b, off, cap, e, h3, h4, h5, h6⟩
  · cases e
    obtain rfl : l = [] := List.eq_nil_of_length_eq_zero (by omega)
    exact IsK.nils _ _ _ _ (Nat.zero_le _)
  · cases e
    refine ⟨_, _, by rw [foOf_len], by rw [foOf_len]; omega, h5, fun _ => ?_⟩
    have hb : (Value.slice (some (⟨b, off, none⟩ : Addr)) m c).ownBlock = some b := rfl
    refine ⟨b, off, rfl, hg b hb, RowF.at hr fun j u hj => h6 j u ?_⟩
    rw [List.getElem?_append_left (List.getElem?_eq_some_iff.1 hj).1]
    exact hj
end Go.Proofs.YtjpkeoenajlmeaaDoor
