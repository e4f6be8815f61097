/-
  The document's own Make.
-/
import Derived.Test.YtjmcaceegfdkkaaGreatDoorQcTRefP
import Derived.Test.YtjmcaceegfdkkaaGreatDoorQcTRef2
namespace Go.Proofs.YtjmcaceegfdkkaaGreatDoor
open Go.RowKit Go.Maps
set_option linter.unusedVariables false
theorem rowNode : (Tryz.prog.info? NodeT).map (fun i => (i.zero, i.size, i.bytes)) = some (some (.agg #[.int .i64 0, .int .i64 0, .int .i64 0, .int .u64 0, .string ⟨#[]⟩, .int .i64 0, .int .i64 0]), 7, 64) := by kernel_rfl
theorem rowInt : (Tryz.prog.info? IntT).map (fun i => (i.zero, i.size, i.bytes)) = some (some (.int .i64 0), 1, 8) := by kernel_rfl
theorem news7 (w : World) (x0 x1 x2 x3 x4 x5 x6 : Value) (T : TypeId) : ∀ j u, [x0, x1, x2, x3, x4, x5, x6][j]? = some u → (w.alloc (.cells #[x0, x1, x2, x3, x4, x5, x6] T)).cell? ((⟨w.heap.size, 0, none⟩ : Addr).add j) = some u := by
 intro j u hj
 have hadd : (⟨w.heap.size, 0, none⟩ : Addr).add j = ⟨w.heap.size, j, none⟩ := by unfold Addr.add; split <;> simp_all
 rw [hadd, World.cell?, heap_alloc_new w _]
 simpa using hj
theorem nds_add (p : Pl) (n : Nd) : nodes (nds (addP p n)) = nodes (nds p) ++ ncs n := by simp [nds, addP, nodes]
theorem szs_add (p : Pl) (n : Nd) : ints (szs (addP p n)) = ints (szs p) ++ [.int .i64 (szN p n)] := by simp [szs, addP, ints]
theorem dps_add (p : Pl) (n : Nd) : ints (dps (addP p n)) = ints (dps p) ++ [.int .i64 (dpN p n)] := by simp [dps, addP, ints]
theorem add_len (p : Pl) (n : Nd) : (addP p n).length = p.length + 1 := by simp [addP]
def RGrew (w : World) (B a : Nat) (vl vs vd : Value) (p' : Pl) (w' : World) : Prop :=
 Below B w w' ∧ (∀ k, k < w.heap.size → k ≠ a → vl.ownBlock ≠ some k → vs.ownBlock ≠ some k → vd.ownBlock ≠ some k → w'.heap[k]? = w.heap[k]?) ∧ ∃ vl' vs' vd', IsRef w' B a vl' vs' vd' p' ∧ (vl'.ownBlock = vl.ownBlock ∨ ∃ g, vl'.ownBlock = some g ∧ w.heap.size ≤ g)
def RPost (w : World) (B a : Nat) (vl vs vd : Value) (p : Pl) (n : Nd) (e : Ending) (w' : World) : Prop :=
 e = .returned (.tuple #[.int .i64 (mkP p n).1, .int .i64 (mkP p n).2.1]) ∧ RGrew w B a vl vs vd (mkP p n).2.2 w'
section
variable {w : World} {B a : Nat} {vl vs vd : Value} {p : Pl}
theorem RGrew.same (h : IsRef w B a vl vs vd p) {w' : World} (hb : Below w.heap.size w w') : RGrew w B a vl vs vd p w' :=
 ⟨hb.mono (Nat.le_trans h.ga (Nat.le_of_lt h.lt)), fun k hk _ _ _ _ => hb.block k hk, vl, vs, vd, h.below hb, .inl rfl⟩
theorem IsRef.apart (h : IsRef w B a vl vs vd p) : (∀ g, vl.ownBlock = some g → g ≠ a ∧ g < w.heap.size ∧ B ≤ g ∧ vs.ownBlock ≠ some g ∧ vd.ownBlock ≠ some g) ∧ (∀ g, vs.ownBlock = some g → g ≠ a ∧ g < w.heap.size ∧ B ≤ g ∧ vd.ownBlock ≠ some g) ∧ (∀ g, vd.ownBlock = some g → g ≠ a ∧ g < w.heap.size ∧ B ≤ g) := by
 have ty : ∀ {T : TypeId} {size : Nat} {v : Value} {xs : List Value} {g : Nat}, w.ownsRow B T size v p.length xs → v.ownBlock = some g → T ≠ RPoolT → g ≠ a ∧ g < w.heap.size ∧ B ≤ g := fun ho hg hT => by
  obtain ⟨hB, cur, hc⟩ := own_type ho hg
  refine ⟨?_, (Array.getElem?_eq_some_iff.1 hc).1, hB⟩
  rintro rfl
  rw [h.lay] at hc
  simp only [Option.some.injEq, Obj.cells.injEq] at hc
  exact hT hc.2.1.symm
 have tt : ∀ {v v' : Value} {xs xs' : List Value} {g : Nat}, w.ownsRow B NodeT 7 v p.length xs → w.ownsRow B IntT 1 v' p.length xs' → v.ownBlock = some g → v'.ownBlock ≠ some g := fun ho ho' hg hg' => by
  obtain ⟨_, cur, hc⟩ := own_type ho hg
  obtain ⟨_, cur', hc'⟩ := own_type ho' hg'
  rw [hc] at hc'
  simp only [Option.some.injEq, Obj.cells.injEq] at hc'
  exact absurd hc'.2.1 (by decide)
 refine ⟨fun g hg => ?_, fun g hg => ?_, fun g hg => ty h.rd hg (by decide)⟩
 ·obtain ⟨q1, q2, q3⟩ := ty h.rl hg (by decide)
  exact ⟨q1, q2, q3, tt h.rl h.rs hg, tt h.rl h.rd hg⟩
 ·obtain ⟨q1, q2, q3⟩ := ty h.rs hg (by decide)
  exact ⟨q1, q2, q3, h.ap g hg⟩
theorem own_other {w w' : World} {B n size : Nat} {T : TypeId} {v x : Value} {xs : List Value} (ho : w.ownsRow B T size v n xs) (hg : w.grownBy w' x.ownBlock) (hx : ∀ g, x.ownBlock = some g → v.ownBlock ≠ some g) : w'.ownsRow B T size v n xs :=
 own_kept ho hg hx
end
end Go.Proofs.YtjmcaceegfdkkaaGreatDoor
