/-
  A statement that leaves its order open, inside a fence: its operations one behind the other, in an order that is named.
-/
import Derived.Test.YtgnmieobgdbafaaKMem
import Derived.RangeFuncNested
import Derived.RangeFuncFrom
import Derived.RangeFuncBound
import Derived.RangeFuncCalls
import Derived.RangeFuncLeaves
import Derived.Shelf.Abstract
import Derived.OwnWalkIn
import Derived.TacticsInMore
import Derived.LoopNIn
import Derived.LoopIn
import Derived.OrdersIn
namespace Go.Proofs.Ytgnmieobgdbafaa
open Go.RowKit Go.Shelf
section
variable {F : Fence} {n : Nat} {P : Program} {ops : Array Oper} {Q : Exit → Act → World → Prop} {md : Region.Mode}
/-- One operation's turn. -/
def Turn (F : Fence) (n : Nat) (P : Program) (ops : Array Oper) (Q : Exit → Act → World → Prop) (o : Oper) (K : Act → World → Prop) (a : Act) (w : World) : Prop :=
  if Region.wanted o (yielded ops a.tmps) = true then Oper.wpIn F n P o a w K Q else (∀ f, o.about P w a.eval = some f → F.fn f) ∧ K (a.put o.dst undef) w
theorem Turn.mono {o : Oper} {K K' : Act → World → Prop} {a : Act} {w : World} (h : ∀ a w, K a w → K' a w) (ht : Turn F n P ops Q o K a w) : Turn F n P ops Q o K' a w := by
  unfold Turn at *
  split
  · rename_i hw; rw [if_pos hw] at ht; exact Oper.wpIn_mono h ht
  · rename_i hw; rw [if_neg hw] at ht; exact ⟨ht.1, h _ _ ht.2⟩
theorem lexIn_one {i : Nat} {o : Oper} {fuel : Nat} {listed : Array Bool} {a : Act} {w : World} (hi : ops[i]? = some o) (hr : Region.ready md ops listed = [i])
    (h : ∀ K : Act → World → Prop, (∀ a w, wpAnyIn F n P md ops Q fuel (listed.setIfInBounds i true) a w → K a w) → Turn F n P ops Q o K a w) : wpAnyIn F n P md ops Q (fuel + 1) listed a w :=
  wpAnyIn_ready hr (by simp) (AllReadyIn.cons hi h AllReadyIn.nil)
/-- An operation that its guard passes over, and whose slot is empty. -/
theorem lexIn_skip {i : Nat} {oi : Oper} {fuel : Nat} {listed : Array Bool} {a : Act} {w : World} (hro : F.round = none) (hi : ops[i]? = some oi)
    (hs : Region.noSelect ops = true) (hf : Region.free md ops listed i = true) (hr : (Region.ready md ops listed).contains i = true) (hw : Region.wanted oi (yielded ops a.tmps) = false)
    (hab : ∀ w, oi.about P w a.eval = none) (ha : a.put oi.dst undef = a) (hQ : ∀ c a w, Q (.panic c) (a.put oi.dst undef) w → Q (.panic c) a w)
    (h : wpAnyIn F n P md ops Q fuel (listed.setIfInBounds i true) a w) : wpAnyIn F n P md ops Q (fuel + 1) listed a w :=
  wpAnyIn_take hro hi hs hf hr hQ ⟨Or.inr ⟨hw, rfl⟩, hab⟩ (by rw [ha]; exact h)
/-- Two operations of which each yields a value and leaves the other alone. -/
theorem lexIn_both {i j : Nat} {oi oj : Oper} {vi vj : Value} {fuel : Nat} {listed : Array Bool} {a : Act} {w : World} (hi : ops[i]? = some oi) (hj : ops[j]? = some oj)
    (hr : Region.ready md ops listed = [i, j]) (hri : Region.ready md ops (listed.setIfInBounds i true) = [j]) (hrj : Region.ready md ops (listed.setIfInBounds j true) = [i])
    (hij : j ≠ i) (hd : ∀ d, oj.dst = some d → oi.dst ≠ some d)
    (s1 : ∀ K : Act → World → Prop, K (a.put oi.dst vi) w → Turn F n P ops Q oi K a w) (s2 : ∀ K : Act → World → Prop, K ((a.put oi.dst vi).put oj.dst vj) w → Turn F n P ops Q oj K (a.put oi.dst vi) w)
    (s3 : ∀ K : Act → World → Prop, K (a.put oj.dst vj) w → Turn F n P ops Q oj K a w) (s4 : ∀ K : Act → World → Prop, K ((a.put oj.dst vj).put oi.dst vi) w → Turn F n P ops Q oi K (a.put oj.dst vj) w)
    (h : wpAnyIn F n P md ops Q fuel ((listed.setIfInBounds i true).setIfInBounds j true) ((a.put oi.dst vi).put oj.dst vj) w) : wpAnyIn F n P md ops Q (fuel + 1 + 1) listed a w := by
  refine wpAnyIn_ready hr (by simp) (AllReadyIn.cons hi (fun K hK => ?_) (AllReadyIn.cons hj (fun K hK => ?_) AllReadyIn.nil))
  · exact s1 K (hK _ _ (lexIn_one hj hri fun K' hK' => s2 K' (hK' _ _ h)))
  · exact s3 K (hK _ _ (lexIn_one hi hrj fun K' hK' => s4 K' (hK' _ _ (by rw [Array.setIfInBounds_comm _ _ hij, Act.put_comm _ _ _ hd]; exact h))))
/-- Three operations: two, one behind the other, and one beside them. -/
theorem lexIn_three {i j k : Nat} {oi oj ok : Oper} {vi vj vk : Value} {fuel : Nat} {listed : Array Bool} {a : Act} {w : World} (hi : ops[i]? = some oi) (hj : ops[j]? = some oj) (hk : ops[k]? = some ok)
    (hr : Region.ready md ops listed = [i, j]) (h1 : Region.ready md ops (listed.setIfInBounds i true) = [j]) (h2 : Region.ready md ops ((listed.setIfInBounds i true).setIfInBounds j true) = [k])
    (h3 : Region.ready md ops (listed.setIfInBounds j true) = [i, k]) (h4 : Region.ready md ops ((listed.setIfInBounds j true).setIfInBounds k true) = [i])
    (hij : j ≠ i) (hik : k ≠ i) (hd : ∀ d, oj.dst = some d → oi.dst ≠ some d) (hd' : ∀ d, ok.dst = some d → oi.dst ≠ some d)
    (s1 : ∀ K : Act → World → Prop, K (a.put oi.dst vi) w → Turn F n P ops Q oi K a w)
    (s2 : ∀ K : Act → World → Prop, K ((a.put oi.dst vi).put oj.dst vj) w → Turn F n P ops Q oj K (a.put oi.dst vi) w)
    (s3 : ∀ K : Act → World → Prop, K (((a.put oi.dst vi).put oj.dst vj).put ok.dst vk) w → Turn F n P ops Q ok K ((a.put oi.dst vi).put oj.dst vj) w)
    (s4 : ∀ K : Act → World → Prop, K (a.put oj.dst vj) w → Turn F n P ops Q oj K a w)
    (s5 : ∀ K : Act → World → Prop, K ((a.put oj.dst vj).put oi.dst vi) w → Turn F n P ops Q oi K (a.put oj.dst vj) w)
    (s6 : ∀ K : Act → World → Prop, K ((a.put oj.dst vj).put ok.dst vk) w → Turn F n P ops Q ok K (a.put oj.dst vj) w)
    (s7 : ∀ K : Act → World → Prop, K (((a.put oj.dst vj).put ok.dst vk).put oi.dst vi) w → Turn F n P ops Q oi K ((a.put oj.dst vj).put ok.dst vk) w)
    (h : wpAnyIn F n P md ops Q fuel (((listed.setIfInBounds i true).setIfInBounds j true).setIfInBounds k true) (((a.put oi.dst vi).put oj.dst vj).put ok.dst vk) w) : wpAnyIn F n P md ops Q (fuel + 1 + 1 + 1) listed a w := by
  have el : (listed.setIfInBounds j true).setIfInBounds i true = (listed.setIfInBounds i true).setIfInBounds j true := Array.setIfInBounds_comm _ _ hij
  have ea : (a.put oj.dst vj).put oi.dst vi = (a.put oi.dst vi).put oj.dst vj := Act.put_comm _ _ _ hd
  refine wpAnyIn_ready hr (by simp) (AllReadyIn.cons hi (fun K hK => ?_) (AllReadyIn.cons hj (fun K hK => ?_) AllReadyIn.nil))
  · exact s1 K (hK _ _ (lexIn_one hj h1 fun K' hK' => s2 K' (hK' _ _ (lexIn_one hk h2 fun K2 hK2 => s3 K2 (hK2 _ _ h)))))
  · refine s4 K (hK _ _ (lexIn_both (vi := vi) (vj := vk) hi hk h3 (by rw [el]; exact h2) h4 hik hd' s5 (by rw [ea]; exact s3) s6 s7 ?_))
    rw [el, ea]
    exact h
end
theorem grownBy_drew (W : World) : W.grownBy W.drew none := ⟨rfl, rfl, rfl, Nat.le_refl _, fun _ _ _ => rfl⟩
/-- A row of the call's own lies where a block that holds no cells has turned. -/
theorem own_kept {w w' : World} {base n size : Nat} {e : TypeId} {v : Value} {xs : List Value} {row : Option Nat} (h : w.ownsRow base e size v n xs) (hg : w.grownBy w' row)
    (hr : ∀ r, row = some r → ∃ o : Obj, w.heap[r]? = some o ∧ o.isCells = false) : w'.ownsRow base e size v n xs := by
  obtain ⟨h1, h2⟩ := h
  refine ⟨h1, ?_⟩
  rcases h2 with h2 | ⟨g, cap, cur, rfl, hb, hg', rest⟩
  · exact .inl h2
  · refine .inr ⟨g, cap, cur, rfl, hb, ?_, rest⟩
    rw [hg.block g (Array.getElem?_eq_some_iff.1 hg').1 (fun e => ?_)]
    · exact hg'
    · obtain ⟨o, ho, hn⟩ := hr g e.symm
      rw [hg'] at ho
      cases ho
      simp [Obj.isCells] at hn
end Go.Proofs.Ytgnmieobgdbafaa
