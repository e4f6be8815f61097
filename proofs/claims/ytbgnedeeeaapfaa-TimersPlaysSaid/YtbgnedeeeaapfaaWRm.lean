/-
  The document's wheel in memory: a block of three fields, of which the last is a row of timers.
-/
import Derived.Test.YtbgnedeeeaapfaaWApp
import Derived.Test.YtbgnedeeeaapfaaWOps
import Derived.Test.YtbgnedeeeaapfaaKLexT
namespace Go.Proofs.Ytbgnedeeeaapfaa
open Go.RowKit
set_option linter.unusedVariables false
abbrev RwT : TypeId := 30
abbrev RtT : TypeId := 49
abbrev SlR : TypeId := 28
theorem addr_add3 {b off : Nat} (i : Nat) : (⟨b, off, none⟩ : Addr).add i = ⟨b, off + i, none⟩ := by unfold Addr.add; split <;> simp_all
def tmsC (l : List Tm) : List Value := l.flatMap fun t => [.int .i64 t.id, .int .i64 t.tk, t.v]
theorem tmsC_len (l : List Tm) : (tmsC l).length = l.length * 3 := by
  induction l with
  | nil => rfl
  | cons a l ih => simp [tmsC, List.flatMap_cons] at ih ⊢; omega
theorem tmsC_append (a b : List Tm) : tmsC (a ++ b) = tmsC a ++ tmsC b := by simp [tmsC]
theorem tmsC_at (l : List Tm) : ∀ (i : Nat) (t : Tm), l[i]? = some t → (tmsC l)[i * 3]? = some (.int .i64 t.id) ∧ (tmsC l)[i * 3 + 1]? = some (.int .i64 t.tk) ∧ (tmsC l)[i * 3 + 2]? = some t.v := by
  induction l with
  | nil => intro i t h; simp at h
  | cons a l ih =>
    intro i t h
    have e : tmsC (a :: l) = .int .i64 a.id :: .int .i64 a.tk :: a.v :: tmsC l := by simp [tmsC]
    cases i with
    | zero => simp at h; subst h; simp [e]
    | succ i =>
      have := ih i t (by simpa using h)
      rw [e, show (i + 1) * 3 = i * 3 + 1 + 1 + 1 by omega, show i * 3 + 1 + 1 + 1 + 1 = (i * 3 + 1) + 1 + 1 + 1 by omega, show i * 3 + 1 + 1 + 1 + 2 = (i * 3 + 2) + 1 + 1 + 1 by omega]
      simpa using this
/-- In block g lies the list L. -/
def LaidR (w : World) (g cap : Nat) (L : List Tm) : Prop := ∃ cur, w.heap[g]? = some (Obj.cells cur RtT) ∧ cur.size = cap * 3 ∧ L.length ≤ cap ∧ ∀ (k : Nat) (t : Tm), L[k]? = some t → cur[k * 3]? = some (.int .i64 t.id) ∧ cur[k * 3 + 1]? = some (.int .i64 t.tk) ∧ cur[k * 3 + 2]? = some t.v
theorem LaidR.at3 {w : World} {g cap k : Nat} {L : List Tm} {t : Tm} (h : LaidR w g cap L) (hx : L[k]? = some t) : w.cell? ⟨g, k * 3, none⟩ = some (.int .i64 t.id) ∧ w.cell? ⟨g, k * 3 + 1, none⟩ = some (.int .i64 t.tk) ∧ w.cell? ⟨g, k * 3 + 2, none⟩ = some t.v := by
  obtain ⟨cur, h1, _, _, h4⟩ := h
  obtain ⟨p1, p2, p3⟩ := h4 k t hx
  exact ⟨cellB h1 p1, cellB h1 p2, cellB h1 p3⟩
theorem LaidR.frz {w : World} {g cap : Nat} {L : List Tm} (h : LaidR w g cap L) (o : Nat) : w.frozen? ⟨g, o, none⟩ = false := by
  obtain ⟨cur, h1, _⟩ := h
  simp [World.frozen?, h1]
theorem LaidR.hold {w w' : World} {g cap : Nat} {L : List Tm} (h : LaidR w g cap L) (hh : Hold RtT w w') : LaidR w' g cap L := by
  obtain ⟨cur, h1, h2⟩ := h
  exact ⟨cur, hh _ _ h1, h2⟩
theorem LaidR.lt {w : World} {g cap : Nat} {L : List Tm} (h : LaidR w g cap L) : g < w.heap.size := by
  obtain ⟨cur, h1, _⟩ := h
  exact (Array.getElem?_eq_some_iff.1 h1).1
theorem LaidR.set {w : World} {g cap k : Nat} {L : List Tm} (h : LaidR w g cap L) (x : Tm) (hk : k < L.length) :
    LaidR (((w.setCell ⟨g, k * 3, none⟩ (.int .i64 x.id)).setCell ⟨g, k * 3 + 1, none⟩ (.int .i64 x.tk)).setCell ⟨g, k * 3 + 2, none⟩ x.v) g cap (L.set k x) := by
  obtain ⟨cur, h1, h2, h3, h4⟩ := h
  refine ⟨_, setCellB (setCellB (setCellB h1)), by simp [h2], by simpa using h3, fun j y hj => ?_⟩
  by_cases e : j = k
  · subst e
    rw [List.getElem?_set_self (by omega)] at hj
    obtain rfl : x = y := by simpa using hj
    refine ⟨?_, ?_, ?_⟩
    · rw [Array.getElem?_setIfInBounds_ne (by omega), Array.getElem?_setIfInBounds_ne (by omega), Array.getElem?_setIfInBounds_self_of_lt (by omega)]
    · rw [Array.getElem?_setIfInBounds_ne (by omega), Array.getElem?_setIfInBounds_self_of_lt (by simp; omega)]
    · rw [Array.getElem?_setIfInBounds_self_of_lt (by simp; omega)]
  · rw [List.getElem?_set_ne (by omega)] at hj
    obtain ⟨p1, p2, p3⟩ := h4 j y hj
    refine ⟨?_, ?_, ?_⟩ <;> (rw [Array.getElem?_setIfInBounds_ne (by omega), Array.getElem?_setIfInBounds_ne (by omega), Array.getElem?_setIfInBounds_ne (by omega)]; assumption)
theorem laid_of_own {w : World} {B g n cap : Nat} {L : List Tm} (h : w.ownsRow B RtT 3 (.slice (some ⟨g, 0, none⟩) n cap) L.length (tmsC L)) : LaidR w g cap L ∧ B ≤ g ∧ cap ≤ maxLen ∧ n = L.length := by
  obtain ⟨h1, h2⟩ := h
  rcases h2 with ⟨e, _⟩ | ⟨g', cap', cur, e, hb, hg, hle, hm, hc, ht⟩
  · cases e
  · simp only [Value.slice.injEq, Option.some.injEq, Addr.mk.injEq] at e
    obtain ⟨⟨rfl, _⟩, rfl, rfl⟩ := e
    refine ⟨⟨cur, hg, hc, hle, fun k t hk => ?_⟩, hb, hm, rfl⟩
    have hk' := (List.getElem?_eq_some_iff.1 hk).1
    obtain ⟨p1, p2, p3⟩ := tmsC_at L k t hk
    rw [← ht] at p1 p2 p3
    rw [List.getElem?_take_of_lt (by omega), Array.getElem?_toList] at p1 p2 p3
    exact ⟨p1, p2, p3⟩
theorem own_of_laid {w : World} {B g cap : Nat} {L : List Tm} (h : LaidR w g cap L) (hB : B ≤ g) (hm : cap ≤ maxLen) : w.ownsRow B RtT 3 (.slice (some ⟨g, 0, none⟩) L.length cap) L.length (tmsC L) := by
  obtain ⟨cur, h1, h2, h3, h4⟩ := h
  refine ⟨tmsC_len L, .inr ⟨g, cap, cur, rfl, hB, h1, h3, hm, h2, ?_⟩⟩
  apply List.ext_getElem?
  intro j
  by_cases hj : j < L.length * 3
  · rw [List.getElem?_take_of_lt hj]
    have hd : j / 3 < L.length := by omega
    obtain ⟨q0, q1, q2⟩ := h4 (j / 3) _ (List.getElem?_eq_getElem hd)
    obtain ⟨p0, p1, p2⟩ := tmsC_at L (j / 3) _ (List.getElem?_eq_getElem hd)
    rw [Array.getElem?_toList]
    rcases (by omega : j = j / 3 * 3 ∨ j = j / 3 * 3 + 1 ∨ j = j / 3 * 3 + 2) with e | e | e
    · rw [← e] at p0 q0; rw [p0, q0]
    · rw [← e] at p1 q1; rw [p1, q1]
    · rw [← e] at p2 q2; rw [p2, q2]
  · rw [List.getElem?_eq_none (by simp; omega), List.getElem?_eq_none (by rw [tmsC_len]; omega)]
/-- At r stands the document's wheel x: its row at sl, from B on. -/
structure IsR (w : World) (B r : Nat) (sl : Value) (x : Wh) : Prop where
  lay : w.heap[r]? = some (Obj.cells #[.int .i64 x.now, .int .i64 x.ids, sl] RwT)
  row : w.ownsRow B RtT 3 sl x.ts.length (tmsC x.ts)
  vals : ∀ t ∈ x.ts, ∃ s : ByteArray, t.v = .string s
theorem IsR.lt {w : World} {B r : Nat} {sl : Value} {x : Wh} (h : IsR w B r sl x) : r < w.heap.size := (Array.getElem?_eq_some_iff.1 h.lay).1
theorem IsR.below {w w' : World} {B r : Nat} {sl : Value} {x : Wh} (h : IsR w B r sl x) (hb : Below w.heap.size w w') : IsR w' B r sl x :=
  ⟨Hold.below hb _ _ h.lay, own_hold h.row (Hold.below hb), h.vals⟩
theorem IsR.keep {w w' : World} {B r : Nat} {sl : Value} {x : Wh} (h : IsR w B r sl x) {S : Nat → Prop} (ht : Touch S w w') (h1 : ¬ S r) (h2 : ∀ k, sl.ownBlock = some k → ¬ S k) : IsR w' B r sl x :=
  ⟨(ht.block r h.lt h1).trans h.lay, own_keep h.row ht h2, h.vals⟩
/-- What the document's calls may turn: the wheel's block, its row's, and what is new. -/
abbrev OwnR (r : Nat) (sl : Value) : Nat → Prop := fun k => k = r ∨ sl.ownBlock = some k
theorem rowR : (Try.prog.info? RtT).map (fun i => (i.zero, i.size, i.bytes)) = some (some (.agg #[.int .i64 0, .int .i64 0, .string ⟨#[]⟩]), 3, 32) := by kernel_rfl
/-- append of one timer to a row of the call's own. -/
theorem wp_appR {w : World} {o : Oper} {a : Act} {K : Act → World → Prop} {Q : Exit → Act → World → Prop} (s x : Operand)
    (ho : o.op = .call { callee := .builtin .append, args := #[s, x], argTypes := #[SlR, SlR] })
    (base : Nat) (v : Value) (xs : List Tm) (hs : a.eval s = v) (hown : w.ownsRow base RtT 3 v xs.length (tmsC xs)) (b : Nat) (t : Tm) (u : ByteArray) (hu : t.v = .string u) (hx : a.eval x = .slice (some ⟨b, 0, none⟩) 1 1) (hb : w.heap[b]? = some (Obj.cells #[.int .i64 t.id, .int .i64 t.tk, .string u] RtT))
    (hlen : xs.length ≤ 1000000) (hbase : base ≤ w.heap.size)
    (h : ∀ v' w', w'.ownsRow base RtT 3 v' (xs ++ [t]).length (tmsC (xs ++ [t])) → w.grownBy w' v.ownBlock → (v'.ownBlock = v.ownBlock ∨ v'.ownBlock = some w.heap.size) → K (a.put o.dst v') w') : Oper.wp Try.prog o a w K Q := by
  obtain ⟨i0, hi, hz0, hz1, hz2⟩ := info_parts rowR
  refine wp_append_at w s x SlR ho base RtT i0 (.agg #[.int .i64 0, .int .i64 0, .string ⟨#[]⟩]) 3 32 Try.underlying28 hi hz0 hz1 hz2 rfl (by decide) v _ _ hs hown ⟨b, 0, none⟩ 1 1 [.int .i64 t.id, .int .i64 t.tk, .string u] hx (by decide) rfl (fun j u' hj => by
    rw [addr_add3]
    match j, hj with
    | 0, hj => simp at hj; subst hj; exact cellB hb rfl
    | 1, hj => simp at hj; subst hj; exact cellB hb rfl
    | 2, hj => simp at hj; subst hj; exact cellB hb rfl) (by simp; exact ⟨rfl, rfl, rfl⟩) (by unfold maxLen; omega) (by omega) hbase ?_
  intro v' w' h6 h7 h8
  refine h v' w' ?_ h7 h8
  rw [tmsC_append]
  simpa [tmsC, hu] using h6
theorem wpList_appR {w : World} {ops : Array Oper} {rest : List Oper} {o : Oper} {a : Act} {Q : Exit → Act → World → Prop} (hg : o.guard = none) (s x : Operand)
    (ho : o.op = .call { callee := .builtin .append, args := #[s, x], argTypes := #[SlR, SlR] })
    (base : Nat) (v : Value) (xs : List Tm) (hs : a.eval s = v) (hown : w.ownsRow base RtT 3 v xs.length (tmsC xs)) (b : Nat) (t : Tm) (u : ByteArray) (hu : t.v = .string u) (hx : a.eval x = .slice (some ⟨b, 0, none⟩) 1 1) (hb : w.heap[b]? = some (Obj.cells #[.int .i64 t.id, .int .i64 t.tk, .string u] RtT))
    (hlen : xs.length ≤ 1000000) (hbase : base ≤ w.heap.size)
    (h : ∀ v' w', w'.ownsRow base RtT 3 v' (xs ++ [t]).length (tmsC (xs ++ [t])) → w.grownBy w' v.ownBlock → (v'.ownBlock = v.ownBlock ∨ v'.ownBlock = some w.heap.size) → wpList Try.prog ops Q rest (a.put o.dst v') w') : wpList Try.prog ops Q (o :: rest) a w :=
  wpList_plain hg fun _ hK => wp_appR s x ho base v xs hs hown b t u hu hx hb hlen hbase fun v' w' h2 h3 h4 => hK _ _ (h v' w' h2 h3 h4)
theorem balR (w : World) (o : Obj) : Below w.heap.size w (w.alloc o).drew := ((Below.refl _ _).alloc (Nat.le_refl _) _).drew
theorem own_slice {w : World} {B n : Nat} {v : Value} {L : List Tm} (h : w.ownsRow B RtT 3 v n (tmsC L)) (hn : 0 < n) : ∃ g cap, v = .slice (some ⟨g, 0, none⟩) n cap := by
  rcases h.2 with ⟨_, e⟩ | ⟨g, cap, cur, e, _⟩
  · omega
  · exact ⟨g, cap, e⟩
end Go.Proofs.Ytbgnedeeeaapfaa
