/-
  Slices of things: append, what stands ahead of a place, what behind it.
-/
import Derived.Test.YtmbaedldikobcaaKHeapsP
import Derived.Laws.AppendOwnNone
import Derived.DeepKeys4
import Derived.Test.YtmbaedldikobcaaKIntern
namespace Go.Proofs.Ytmbaedldikobcaa
open Go.RowKit
set_option linter.unusedVariables false

theorem rowTh : (Try.prog.info? ThT).map (fun i => (i.zero, i.size, i.bytes)) = some (some (.agg #[.int .i64 0, .int .i64 0]), 2, 16) := by kernel_rfl
abbrev SlT : TypeId := 90
theorem ths_oneCell (l : List (Int × Int)) : ∀ u ∈ ths l, u.oneCell' = true := by
  intro u hu
  unfold ths at hu
  obtain ⟨x, _, hx⟩ := List.mem_flatMap.1 hu
  simp only [List.mem_cons, List.mem_nil_iff, or_false] at hx
  rcases hx with rfl | rfl <;> rfl
theorem wp_append_th {w : World} {o : Oper} {a : Act} {K : Act → World → Prop} {Q : Exit → Act → World → Prop} (s x : Operand)
    (ho : o.op = .call { callee := .builtin .append, args := #[s, x], argTypes := #[SlT, SlT] })
    (base : Nat) (v : Value) (xs : List (Int × Int)) (hs : a.eval s = v) (hown : w.ownsRow base ThT 2 v xs.length (ths xs)) (vx : Value) (l : List (Int × Int)) (hx : a.eval x = vx) (hrd : Row w 2 vx l.length (ths l))
    (hlen : xs.length + l.length ≤ 1000000) (hbase : base ≤ w.heap.size)
    (h : ∀ v' w', w'.ownsRow base ThT 2 v' (xs ++ l).length (ths (xs ++ l)) → w.grownBy w' v.ownBlock → K (a.put o.dst v') w') : Oper.wp Try.prog o a w K Q := by
  obtain ⟨i0, hi, hz0, hz1, hz2⟩ := info_parts rowTh
  rcases hrd with ⟨hl, ⟨rfl, h0⟩ | ⟨b, off, cap, rfl, h1, h2, h3, h4⟩⟩
  · obtain rfl : l = [] := List.eq_nil_of_length_eq_zero h0
    have hrun := run_append_owned_none (P := Try.prog) (w := w) base SlT o.type ThT i0 2 Try.underlying90 hi v _ _ hown
    unfold Oper.wp
    simp [execOp, ho, resolve, invoke, builtin, hs, hx, hrun, Result.andThen]
    exact h v w (by rw [List.append_nil]; exact hown) ⟨rfl, rfl, rfl, Nat.le_refl _, fun _ _ _ => rfl⟩
  · refine wp_append_own w s x SlT ho base ThT i0 (.agg #[.int .i64 0, .int .i64 0]) 2 16 Try.underlying90 hi hz0 hz1 hz2 rfl (by decide) v _ _ hs hown ⟨b, off, none⟩ l.length cap (ths l) hx (by rw [ths_length]) (fun j u hj => by
      have := h4 j u hj
      by_cases h0 : j = 0 <;> simp_all [Addr.add]) (ths_oneCell l) (by unfold maxLen; omega) (by omega) hbase ?_
    intro v' w' h6 h7 _
    exact h v' w' (by rw [List.length_append, ths_append]; exact h6) h7
theorem wpList_append_th {w : World} {ops : Array Oper} {rest : List Oper} {o : Oper} {a : Act} {Q : Exit → Act → World → Prop} (hw : Region.wanted o (yielded ops a.tmps) = true) (s x : Operand)
    (ho : o.op = .call { callee := .builtin .append, args := #[s, x], argTypes := #[SlT, SlT] })
    (base : Nat) (v : Value) (xs : List (Int × Int)) (hs : a.eval s = v) (hown : w.ownsRow base ThT 2 v xs.length (ths xs)) (vx : Value) (l : List (Int × Int)) (hx : a.eval x = vx) (hrd : Row w 2 vx l.length (ths l))
    (hlen : xs.length + l.length ≤ 1000000) (hbase : base ≤ w.heap.size)
    (h : ∀ v' w', w'.ownsRow base ThT 2 v' (xs ++ l).length (ths (xs ++ l)) → w.grownBy w' v.ownBlock → wpList Try.prog ops Q rest (a.put o.dst v') w') : wpList Try.prog ops Q (o :: rest) a w :=
  wpList_step fun K hK => by
    rw [if_pos hw]
    exact wp_append_th s x ho base v xs hs hown vx l hx hrd hlen hbase fun v' w' h1 h2 => hK _ _ (h v' w' h1 h2)
theorem sizeTh (w : World) : (Go.sizeOf ThT).run Try.prog w = .ok 2 w := by kernel_rfl
theorem elemTh : Try.prog.elem SlT = ThT := by simp [Program.elem, Try.underlying90]
theorem undTh : Try.prog.underlying SlT = some (.slice (Try.prog.elem SlT)) := by rw [elemTh]; exact Try.underlying90
/-- What stands ahead of a place. -/
theorem row_take {w : World} {b cap : Nat} {l : List (Int × Int)} (h : Row w 2 (.slice (some ⟨b, 0, none⟩) l.length cap) l.length (ths l)) {k : Nat} (hk : k ≤ l.length) :
    Row w 2 (.slice (some ⟨b, 0, none⟩) (l.take k).length cap) (l.take k).length (ths (l.take k)) ∧ ∀ W : World, (Instr.slice SlT (.slice (some ⟨b, 0, none⟩) l.length cap) none (some (.int .i64 (k : Int))) none).run Try.prog W = .ok (.slice (some ⟨b, 0, none⟩) (l.take k).length cap) W := by
  have hkl : (l.take k).length = k := by simp; omega
  obtain ⟨h1, h2⟩ := h
  rcases h2 with ⟨e, _⟩ | ⟨b', off, cap', e, h3, h4, h5, h6⟩
  · simp at e
  · simp only [Value.slice.injEq, Option.some.injEq, Addr.mk.injEq] at e
    obtain ⟨⟨rfl, rfl, _⟩, _, rfl⟩ := e
    refine ⟨⟨ths_length _, .inr ⟨b, 0, cap, rfl, h3, by omega, h5, fun j u hj => h6 j u ?_⟩⟩, fun W => ?_⟩
    · have : ths l = ths (l.take k) ++ ths (l.drop k) := by rw [← ths_append, List.take_append_drop]
      rw [this, List.getElem?_append_left (List.getElem?_eq_some_iff.1 hj).1]; exact hj
    · rw [run_slice_h W _ _ _ _ undTh _ _ (by omega) (by omega), elemTh, sizeTh, hkl]
      simp only [Result.andThen_ok, sliced]
      by_cases hc : cap = 0
      · simp [hc]
      · simp [hc, Addr.add]
/-- What stands behind a place. -/
theorem row_drop {w : World} {b cap : Nat} {l : List (Int × Int)} (h : Row w 2 (.slice (some ⟨b, 0, none⟩) l.length cap) l.length (ths l)) {k : Nat} (hk : k ≤ l.length) :
    ∃ v', Row w 2 v' (l.drop k).length (ths (l.drop k)) ∧ ∀ W : World, (Instr.slice SlT (.slice (some ⟨b, 0, none⟩) l.length cap) (some (.int .i64 (k : Int))) none none).run Try.prog W = .ok v' W := by
  have hkl : (l.drop k).length = l.length - k := by simp
  obtain ⟨h1, h2⟩ := h
  rcases h2 with ⟨e, _⟩ | ⟨b', off, cap', e, h3, h4, h5, h6⟩
  · simp at e
  · simp only [Value.slice.injEq, Option.some.injEq, Addr.mk.injEq] at e
    obtain ⟨⟨rfl, rfl, _⟩, _, rfl⟩ := e
    refine ⟨.slice (some (if cap = k then ⟨b, 0, none⟩ else ⟨b, k * 2, none⟩)) (l.drop k).length (cap - k), ?_, fun W => ?_⟩
    · by_cases hc : cap = k
      · rw [if_pos hc]
        refine ⟨ths_length _, .inr ⟨b, 0, cap - k, rfl, h3, by omega, by omega, fun j u hj => ?_⟩⟩
        have : l.drop k = [] := List.drop_eq_nil_of_le (by omega)
        rw [this] at hj; simp [ths] at hj
      · rw [if_neg hc]
        refine ⟨ths_length _, .inr ⟨b, k * 2, cap - k, rfl, h3, by omega, by omega, fun j u hj => ?_⟩⟩
        have e : ths l = ths (l.take k) ++ ths (l.drop k) := by rw [← ths_append, List.take_append_drop]
        have := h6 (k * 2 + j) u (by
          rw [e, List.getElem?_append_right (by rw [ths_length]; simp; omega), ths_length]
          rw [show k * 2 + j - (l.take k).length * 2 = j by simp; omega]; exact hj)
        rw [← this]; congr 2; omega
    · rw [run_slice_l W _ _ _ _ undTh _ _ (by omega) (by omega), elemTh, sizeTh, hkl]
      simp only [Result.andThen_ok, sliced]
      by_cases hc : cap = k
      · simp [hc]
      · simp [hc, Addr.add]
        omega
theorem row_thing {w : World} {b : Nat} {x y : Int} (h : w.heap[b]? = some (Obj.cells #[.int .i64 x, .int .i64 y] ThT)) : Row w 2 (.slice (some ⟨b, 0, none⟩) 1 1) [(x, y)].length (ths [(x, y)]) :=
  ⟨rfl, .inr ⟨b, 0, 1, rfl, (Array.getElem?_eq_some_iff.1 h).1, Nat.le_refl _, by unfold maxLen; omega, fun j u hj => by
    match j, hj with
    | 0, hj => simp [ths] at hj; subst hj; exact cellB h rfl
    | 1, hj => simp [ths] at hj; subst hj; exact cellB h rfl
    | j + 2, hj => simp [ths] at hj⟩⟩
theorem own_cells {w : World} {B : Nat} {v : Value} {l : List (Int × Int)} (h : w.ownsRow B ThT 2 v l.length (ths l)) (h0 : 0 < l.length) :
    ∃ g cap, v = .slice (some ⟨g, 0, none⟩) l.length cap ∧ B ≤ g ∧ l.length ≤ cap ∧ ∀ k (hk : k < l.length), w.cell? ⟨g, k * 2, none⟩ = some (.int .i64 (l[k]).1) ∧ w.cell? ⟨g, k * 2 + 1, none⟩ = some (.int .i64 (l[k]).2) := by
  have h' := h
  obtain ⟨h1, h2⟩ := h
  rcases h2 with ⟨rfl, h2⟩ | ⟨g, cap, cur, rfl, hb, hg, hle, hm, hc, ht⟩
  · omega
  · refine ⟨g, cap, rfl, hb, hle, fun k hk => ?_⟩
    have e := ths_at (List.getElem?_eq_getElem hk)
    rw [World.ownsRow.cellAt h' (k * 2) (by omega), World.ownsRow.cellAt h' (k * 2 + 1) (by omega)]
    exact e
theorem own_new0 {w : World} {B : Nat} (hB : B ≤ w.heap.size) : (w.alloc (.cells #[] ThT)).ownsRow B ThT 2 (.slice (some ⟨w.heap.size, 0, none⟩) 0 0) ([] : List (Int × Int)).length (ths []) :=
  ⟨rfl, .inr ⟨w.heap.size, 0, #[], rfl, hB, heap_alloc_new _ _, Nat.le_refl _, by unfold maxLen; omega, rfl, rfl⟩⟩
theorem own_down {w : World} {base base' n size : Nat} {e : TypeId} {v : Value} {xs : List Value} (h : w.ownsRow base e size v n xs) (hb : base' ≤ base) : w.ownsRow base' e size v n xs := by
  obtain ⟨h1, h2⟩ := h
  refine ⟨h1, ?_⟩
  rcases h2 with h2 | ⟨g, cap, cur, rfl, h3, h4⟩
  · exact .inl h2
  · exact .inr ⟨g, cap, cur, rfl, by omega, h4⟩
def litsT (x y : Int) : List Lit := [.int .i64 x, .int .i64 y]
theorem wf_ini {x : Int} (h : InI x) : (Lit.int .i64 x).wf = true := by
  simp only [Lit.wf, Bool.and_eq_true, decide_eq_true_eq]
  exact ⟨Int.le_trans (by decide) h.1, Int.le_trans h.2 (by decide)⟩
set_option maxRecDepth 100000 in
theorem keyL_th {x y : Int} (hx : InI x) (hy : InI y) : Try.prog.keyLits 3 ThT (thV x y).cells.toList = some (litsT x y) := by
  have hu := Try.underlying88
  have u3 := Try.underlying3
  have c33 : Try.prog.cellsOf ThT = 2 := by kernel_rfl
  have c3 : Try.prog.cellsOf 3 = 1 := by kernel_rfl
  simp [Program.keyLits, hu, u3, c33, c3, Value.cells, litsT, wf_ini hx, wf_ini hy]
theorem formedT (x y : Int) : (thV x y).formed Try.prog ThT = true := by
  have hu := Try.underlying88
  have c33 : Try.prog.cellsOf ThT = 2 := by kernel_rfl
  simp [Value.formed, hu, c33]
theorem equal_th {x y : Int} (hx : InI x) (hy : InI y) (W : World) : (Op.equalIn 10000 ThT (thV x y) (thV x y)).run Try.prog W = .ok true W := by
  obtain ⟨r, hr, hi⟩ := run_equalIn_deep (P := Try.prog) 9997 3 ThT (by kernel_rfl) W 3 3 (thV x y) (thV x y) (litsT x y) (litsT x y) (formedT x y) (formedT x y) (keyL_th hx hy) (keyL_th hx hy)
  have e : r = true := hi.2 rfl
  rw [← e]
  exact hr
theorem neq_th {x y : Int} (hx : InI x) (hy : InI y) (W : World) : (binOp .neq ThT (thV x y) (thV x y)).run Try.prog W = .ok (.bool false) W := by
  rw [run_neq_struct, equal_th hx hy]; rfl
theorem grown_hold {w w' : World} {B n size : Nat} {e T : TypeId} {v : Value} {xs : List Value} (hr : w.ownsRow B e size v n xs) (hg : w.grownBy w' v.ownBlock) (hT : e ≠ T) : Hold T w w' := fun b cs hb => by
  rw [hg.block b (Array.getElem?_eq_some_iff.1 hb).1 (fun e' => by
    obtain ⟨_, cur, q⟩ := own_type hr e'.symm
    rw [hb] at q
    simp only [Option.some.injEq, Obj.cells.injEq] at q
    exact hT q.2.1.symm)]
  exact hb
theorem IsHp.hold {w w' : World} {B hb fl : Nat} {v : Value} {L : List Hp} {t : Int} (h : IsHp w B hb fl v L t) (h1 : Hold HeT w w') (h2 : Hold PuT w w') : IsHp w' B hb fl v L t := ⟨h1 _ _ h.lay, own_hold h.row h2, h.gb⟩
theorem IsHp.below {w w' : World} {B hb fl : Nat} {v : Value} {L : List Hp} {t : Int} (h : IsHp w B hb fl v L t) (h1 : Below w.heap.size w w') : IsHp w' B hb fl v L t := h.hold (Hold.below h1) (Hold.below h1)
end Go.Proofs.Ytmbaedldikobcaa
