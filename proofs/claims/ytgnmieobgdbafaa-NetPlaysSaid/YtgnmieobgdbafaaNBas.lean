/-
  The net, plain: packets, what flies, what was heard, the links; rows of packets in memory.
-/
import Derived.Test.YtgnmieobgdbafaaWApp
import Derived.Test.YtgnmieobgdbafaaKLexT
import Derived.Test.YtgnmieobgdbafaaTChI
import Derived.Laws.CopyRow
import Derived.Laws.IdiomCopy
import Derived.Laws.AppendOwnNone
import Derived.DeepKeys4
import Derived.Deep.LoopGhost
import Derived.Deep.QuietTactic
import Derived.BigQuiet
namespace Go.Proofs.Ytgnmieobgdbafaa
open Go.RowKit
set_option linter.unusedVariables false
abbrev PkT : TypeId := 39
abbrev SlP : TypeId := 42
abbrev NetT : TypeId := 65
abbrev RNT : TypeId := 55
/-- A packet. -/
structure Pk where
  id : Int
  fr : Nat
  tt : Nat
  bd : ByteArray
  hl : Int
abbrev Pk.vals (p : Pk) : List Value := [.int .i64 p.id, .int .i64 (p.fr : Int), .int .i64 (p.tt : Int), .string p.bd, .int .i64 p.hl]
abbrev Pk.val (p : Pk) : Value := .agg #[.int .i64 p.id, .int .i64 (p.fr : Int), .int .i64 (p.tt : Int), .string p.bd, .int .i64 p.hl]
/-- The packet that is none. -/
def zeroP : Pk := ⟨0, 0, 0, ⟨#[]⟩, 0⟩
def pks (l : List Pk) : List Value := l.flatMap Pk.vals
theorem pks_len (l : List Pk) : (pks l).length = l.length * 5 := by
  induction l with
  | nil => rfl
  | cons a l ih => simp [pks, List.flatMap_cons] at ih ⊢; omega
theorem pks_append (a b : List Pk) : pks (a ++ b) = pks a ++ pks b := by simp [pks]
theorem pks_at (l : List Pk) : ∀ (i : Nat) (t : Pk), l[i]? = some t → (pks l)[i * 5]? = some (.int .i64 t.id) ∧ (pks l)[i * 5 + 1]? = some (.int .i64 (t.fr : Int)) ∧ (pks l)[i * 5 + 2]? = some (.int .i64 (t.tt : Int)) ∧ (pks l)[i * 5 + 3]? = some (.string t.bd) ∧ (pks l)[i * 5 + 4]? = some (.int .i64 t.hl) := by
  induction l with
  | nil => intro i t h; simp at h
  | cons a l ih =>
    intro i t h
    have e : pks (a :: l) = .int .i64 a.id :: .int .i64 (a.fr : Int) :: .int .i64 (a.tt : Int) :: .string a.bd :: .int .i64 a.hl :: pks l := by simp [pks]
    cases i with
    | zero => simp at h; subst h; simp [e]
    | succ i =>
      have := ih i t (by simpa using h)
      rw [e, show (i + 1) * 5 = i * 5 + 1 + 1 + 1 + 1 + 1 by omega, show i * 5 + 1 + 1 + 1 + 1 + 1 + 1 = (i * 5 + 1) + 1 + 1 + 1 + 1 + 1 by omega, show i * 5 + 1 + 1 + 1 + 1 + 1 + 2 = (i * 5 + 2) + 1 + 1 + 1 + 1 + 1 by omega, show i * 5 + 1 + 1 + 1 + 1 + 1 + 3 = (i * 5 + 3) + 1 + 1 + 1 + 1 + 1 by omega, show i * 5 + 1 + 1 + 1 + 1 + 1 + 4 = (i * 5 + 4) + 1 + 1 + 1 + 1 + 1 by omega]
      simpa using this
theorem pks_oneCell (l : List Pk) : ∀ u ∈ pks l, u.oneCell' = true := by
  intro u hu
  unfold pks at hu
  obtain ⟨t, ht, hx⟩ := List.mem_flatMap.1 hu
  simp only [List.mem_cons, List.mem_nil_iff, or_false] at hx
  rcases hx with rfl | rfl | rfl | rfl | rfl <;> rfl
theorem addr_addN {b off : Nat} (i : Nat) : (⟨b, off, none⟩ : Addr).add i = ⟨b, off + i, none⟩ := by unfold Addr.add; split <;> simp_all
/-- In block g lies the list L. -/
def LaidP (w : World) (g cap : Nat) (L : List Pk) : Prop := ∃ cur, w.heap[g]? = some (Obj.cells cur PkT) ∧ cur.size = cap * 5 ∧ L.length ≤ cap ∧ cur.toList.take (L.length * 5) = pks L
theorem LaidP.at5 {w : World} {g cap k : Nat} {L : List Pk} {t : Pk} (h : LaidP w g cap L) (hx : L[k]? = some t) : w.cell? ⟨g, k * 5, none⟩ = some (.int .i64 t.id) ∧ w.cell? ⟨g, k * 5 + 1, none⟩ = some (.int .i64 (t.fr : Int)) ∧ w.cell? ⟨g, k * 5 + 2, none⟩ = some (.int .i64 (t.tt : Int)) ∧ w.cell? ⟨g, k * 5 + 3, none⟩ = some (.string t.bd) ∧ w.cell? ⟨g, k * 5 + 4, none⟩ = some (.int .i64 t.hl) := by
  obtain ⟨cur, h1, h2, h3, h4⟩ := h
  have hk := (List.getElem?_eq_some_iff.1 hx).1
  obtain ⟨p0, p1, p2, p3, p4⟩ := pks_at L k t hx
  rw [← h4, List.getElem?_take_of_lt (by omega), Array.getElem?_toList] at p0 p1 p2 p3 p4
  exact ⟨cellB h1 p0, cellB h1 p1, cellB h1 p2, cellB h1 p3, cellB h1 p4⟩
theorem LaidP.cells {w : World} {g cap : Nat} {L : List Pk} (h : LaidP w g cap L) {j : Nat} {u : Value} (hx : (pks L)[j]? = some u) : w.cell? ⟨g, j, none⟩ = some u := by
  obtain ⟨cur, h1, h2, h3, h4⟩ := h
  have hk := (List.getElem?_eq_some_iff.1 hx).1
  rw [pks_len] at hk
  rw [← h4, List.getElem?_take_of_lt (by omega), Array.getElem?_toList] at hx
  exact cellB h1 hx
theorem LaidP.frz {w : World} {g cap : Nat} {L : List Pk} (h : LaidP w g cap L) (o : Nat) : w.frozen? ⟨g, o, none⟩ = false := by
  obtain ⟨cur, h1, _⟩ := h
  simp [World.frozen?, h1]
theorem LaidP.same {w w' : World} {g cap : Nat} {L : List Pk} (h : LaidP w g cap L) (hh : w'.heap[g]? = w.heap[g]?) : LaidP w' g cap L := by
  obtain ⟨cur, h1, h2⟩ := h
  exact ⟨cur, hh.trans h1, h2⟩
theorem LaidP.lt {w : World} {g cap : Nat} {L : List Pk} (h : LaidP w g cap L) : g < w.heap.size := by
  obtain ⟨cur, h1, _⟩ := h
  exact (Array.getElem?_eq_some_iff.1 h1).1
theorem LaidP.keep {w w' : World} {g cap : Nat} {L : List Pk} (h : LaidP w g cap L) {S : Nat → Prop} (ht : Touch S w w') (hS : ¬ S g) : LaidP w' g cap L := h.same (ht.block g h.lt hS)
theorem LaidP.below {w w' : World} {g cap : Nat} {L : List Pk} (h : LaidP w g cap L) (hb : Below w.heap.size w w') : LaidP w' g cap L := h.same (hb.block g h.lt)
theorem LaidP.short {w : World} {g cap : Nat} {L M : List Pk} (h : LaidP w g cap (L ++ M)) : LaidP w g cap L := by
  obtain ⟨cur, h1, h2, h3, h4⟩ := h
  rw [List.length_append] at h3
  refine ⟨cur, h1, h2, by omega, ?_⟩
  have := congrArg (List.take (L.length * 5)) h4
  rw [List.take_take, Nat.min_eq_left (by rw [List.length_append]; omega)] at this
  rw [this, pks_append, List.take_append_of_le_length (by rw [pks_len]; omega), List.take_of_length_le (by rw [pks_len]; omega)]
/-- A block reads as a list if each of its places does. -/
theorem laid_of_at {w : World} {g cap : Nat} {L : List Pk} {cur : Array Value} (h1 : w.heap[g]? = some (Obj.cells cur PkT)) (h2 : cur.size = cap * 5) (h3 : L.length ≤ cap)
    (h4 : ∀ (k : Nat) (t : Pk), L[k]? = some t → cur[k * 5]? = some (.int .i64 t.id) ∧ cur[k * 5 + 1]? = some (.int .i64 (t.fr : Int)) ∧ cur[k * 5 + 2]? = some (.int .i64 (t.tt : Int)) ∧ cur[k * 5 + 3]? = some (.string t.bd) ∧ cur[k * 5 + 4]? = some (.int .i64 t.hl)) : LaidP w g cap L := by
  refine ⟨cur, h1, h2, h3, ?_⟩
  apply List.ext_getElem?
  intro j
  by_cases hj : j < L.length * 5
  · rw [List.getElem?_take_of_lt hj]
    have hd : j / 5 < L.length := by omega
    obtain ⟨q0, q1, q2, q3, q4⟩ := h4 (j / 5) _ (List.getElem?_eq_getElem hd)
    obtain ⟨p0, p1, p2, p3, p4⟩ := pks_at L (j / 5) _ (List.getElem?_eq_getElem hd)
    rw [Array.getElem?_toList]
    rcases (by omega : j = j / 5 * 5 ∨ j = j / 5 * 5 + 1 ∨ j = j / 5 * 5 + 2 ∨ j = j / 5 * 5 + 3 ∨ j = j / 5 * 5 + 4) with e | e | e | e | e
    · rw [← e] at p0 q0; rw [p0, q0]
    · rw [← e] at p1 q1; rw [p1, q1]
    · rw [← e] at p2 q2; rw [p2, q2]
    · rw [← e] at p3 q3; rw [p3, q3]
    · rw [← e] at p4 q4; rw [p4, q4]
  · rw [List.getElem?_eq_none (by simp; omega), List.getElem?_eq_none (by rw [pks_len]; omega)]
theorem LaidP.at_cur {g cap : Nat} {L : List Pk} {cur : Array Value} (h4 : cur.toList.take (L.length * 5) = pks L) (k : Nat) (t : Pk) (hx : L[k]? = some t) : cur[k * 5]? = some (.int .i64 t.id) ∧ cur[k * 5 + 1]? = some (.int .i64 (t.fr : Int)) ∧ cur[k * 5 + 2]? = some (.int .i64 (t.tt : Int)) ∧ cur[k * 5 + 3]? = some (.string t.bd) ∧ cur[k * 5 + 4]? = some (.int .i64 t.hl) := by
  have hk := (List.getElem?_eq_some_iff.1 hx).1
  obtain ⟨p0, p1, p2, p3, p4⟩ := pks_at L k t hx
  rw [← h4, List.getElem?_take_of_lt (by omega), Array.getElem?_toList] at p0 p1 p2 p3 p4
  exact ⟨p0, p1, p2, p3, p4⟩
theorem LaidP.set {w : World} {g cap k : Nat} {L : List Pk} (h : LaidP w g cap L) (x : Pk) (hk : k < L.length) :
    LaidP (((((w.setCell ⟨g, k * 5, none⟩ (.int .i64 x.id)).setCell ⟨g, k * 5 + 1, none⟩ (.int .i64 (x.fr : Int))).setCell ⟨g, k * 5 + 2, none⟩ (.int .i64 (x.tt : Int))).setCell ⟨g, k * 5 + 3, none⟩ (.string x.bd)).setCell ⟨g, k * 5 + 4, none⟩ (.int .i64 x.hl)) g cap (L.set k x) := by
  obtain ⟨cur, h1, h2, h3, h4⟩ := h
  refine laid_of_at (setCellB (setCellB (setCellB (setCellB (setCellB h1))))) (by simp [h2]) (by simpa using h3) (fun j y hj => ?_)
  by_cases e : j = k
  · subst e
    rw [List.getElem?_set_self (by omega)] at hj
    obtain rfl : x = y := by simpa using hj
    refine ⟨?_, ?_, ?_, ?_, ?_⟩
    · rw [Array.getElem?_setIfInBounds_ne (by omega), Array.getElem?_setIfInBounds_ne (by omega), Array.getElem?_setIfInBounds_ne (by omega), Array.getElem?_setIfInBounds_ne (by omega), Array.getElem?_setIfInBounds_self_of_lt (by omega)]
    · rw [Array.getElem?_setIfInBounds_ne (by omega), Array.getElem?_setIfInBounds_ne (by omega), Array.getElem?_setIfInBounds_ne (by omega), Array.getElem?_setIfInBounds_self_of_lt (by simp; omega)]
    · rw [Array.getElem?_setIfInBounds_ne (by omega), Array.getElem?_setIfInBounds_ne (by omega), Array.getElem?_setIfInBounds_self_of_lt (by simp; omega)]
    · rw [Array.getElem?_setIfInBounds_ne (by omega), Array.getElem?_setIfInBounds_self_of_lt (by simp; omega)]
    · rw [Array.getElem?_setIfInBounds_self_of_lt (by simp; omega)]
  · rw [List.getElem?_set_ne (by omega)] at hj
    obtain ⟨p1, p2, p3, p4, p5⟩ := LaidP.at_cur (g := g) (cap := cap) h4 j y hj
    refine ⟨?_, ?_, ?_, ?_, ?_⟩ <;> (rw [Array.getElem?_setIfInBounds_ne (by omega), Array.getElem?_setIfInBounds_ne (by omega), Array.getElem?_setIfInBounds_ne (by omega), Array.getElem?_setIfInBounds_ne (by omega), Array.getElem?_setIfInBounds_ne (by omega)]; assumption)
theorem LaidP.setH {w : World} {g cap k : Nat} {L : List Pk} (h : LaidP w g cap L) {x : Pk} (hx : L[k]? = some x) (v : Int) : LaidP (w.setCell ⟨g, k * 5 + 4, none⟩ (.int .i64 v)) g cap (L.set k { x with hl := v }) := by
  have hk := (List.getElem?_eq_some_iff.1 hx).1
  obtain ⟨cur, h1, h2, h3, h4⟩ := h
  refine laid_of_at (setCellB h1) (by simp [h2]) (by simpa using h3) (fun j y hj => ?_)
  by_cases e : j = k
  · subst e
    rw [List.getElem?_set_self (by omega)] at hj
    obtain rfl : { x with hl := v } = y := by simpa using hj
    obtain ⟨p1, p2, p3, p4, p5⟩ := LaidP.at_cur (g := g) (cap := cap) h4 j x hx
    refine ⟨?_, ?_, ?_, ?_, ?_⟩
    · rw [Array.getElem?_setIfInBounds_ne (by omega)]; exact p1
    · rw [Array.getElem?_setIfInBounds_ne (by omega)]; exact p2
    · rw [Array.getElem?_setIfInBounds_ne (by omega)]; exact p3
    · rw [Array.getElem?_setIfInBounds_ne (by omega)]; exact p4
    · rw [Array.getElem?_setIfInBounds_self_of_lt (by omega)]
  · rw [List.getElem?_set_ne (by omega)] at hj
    obtain ⟨p1, p2, p3, p4, p5⟩ := LaidP.at_cur (g := g) (cap := cap) h4 j y hj
    refine ⟨?_, ?_, ?_, ?_, ?_⟩ <;> (rw [Array.getElem?_setIfInBounds_ne (by omega)]; assumption)
theorem laid_of_own {w : World} {B g n cap : Nat} {L : List Pk} (h : w.ownsRow B PkT 5 (.slice (some ⟨g, 0, none⟩) n cap) L.length (pks L)) : LaidP w g cap L ∧ B ≤ g ∧ cap ≤ maxLen ∧ n = L.length := by
  obtain ⟨h1, h2⟩ := h
  rcases h2 with ⟨e, _⟩ | ⟨g', cap', cur, e, hb, hg, hle, hm, hc, ht⟩
  · cases e
  · simp only [Value.slice.injEq, Option.some.injEq, Addr.mk.injEq] at e
    obtain ⟨⟨rfl, _⟩, rfl, rfl⟩ := e
    exact ⟨⟨cur, hg, hc, hle, ht⟩, hb, hm, rfl⟩
theorem own_of_laid {w : World} {B g cap : Nat} {L : List Pk} (h : LaidP w g cap L) (hB : B ≤ g) (hm : cap ≤ maxLen) : w.ownsRow B PkT 5 (.slice (some ⟨g, 0, none⟩) L.length cap) L.length (pks L) := by
  obtain ⟨cur, h1, h2, h3, h4⟩ := h
  exact ⟨pks_len L, .inr ⟨g, cap, cur, rfl, hB, h1, h3, hm, h2, h4⟩⟩
theorem own_slice {w : World} {B n : Nat} {v : Value} {L : List Pk} (h : w.ownsRow B PkT 5 v n (pks L)) (hn : 0 < n) : ∃ g cap, v = .slice (some ⟨g, 0, none⟩) n cap := by
  rcases h.2 with ⟨_, e⟩ | ⟨g, cap, cur, e, _⟩
  · omega
  · exact ⟨g, cap, e⟩
theorem rowP : (Try.prog.info? PkT).map (fun i => (i.zero, i.size, i.bytes)) = some (some (.agg #[.int .i64 0, .int .i64 0, .int .i64 0, .string ⟨#[]⟩, .int .i64 0]), 5, 48) := by kernel_rfl
theorem sizeP : (Try.prog.info? PkT).map (·.size) = some 5 := by kernel_rfl
theorem runSizeP (w : World) : (Go.sizeOf PkT).run Try.prog w = .ok 5 w := by kernel_rfl
theorem elemP : Try.prog.elem SlP = PkT := by simp [Program.elem, Try.underlying42]
theorem undP : Try.prog.underlying SlP = some (.slice (Try.prog.elem SlP)) := by rw [elemP]; exact Try.underlying42
theorem balN (w : World) (o : Obj) : Below w.heap.size w (w.alloc o).drew := ((Below.refl _ _).alloc (Nat.le_refl _) _).drew
/-- append of one packet to a row of the call's own. -/
theorem wp_app1 {w : World} {o : Oper} {a : Act} {K : Act → World → Prop} {Q : Exit → Act → World → Prop} (s x : Operand)
    (ho : o.op = .call { callee := .builtin .append, args := #[s, x], argTypes := #[SlP, SlP] })
    (base : Nat) (v : Value) (xs : List Pk) (hs : a.eval s = v) (hown : w.ownsRow base PkT 5 v xs.length (pks xs)) (b : Nat) (t : Pk) (hx : a.eval x = .slice (some ⟨b, 0, none⟩) 1 1) (hb : w.heap[b]? = some (Obj.cells #[.int .i64 t.id, .int .i64 (t.fr : Int), .int .i64 (t.tt : Int), .string t.bd, .int .i64 t.hl] PkT))
    (hlen : xs.length ≤ 1000000) (hbase : base ≤ w.heap.size)
    (h : ∀ v' w', w'.ownsRow base PkT 5 v' (xs ++ [t]).length (pks (xs ++ [t])) → w.grownBy w' v.ownBlock → (v'.ownBlock = v.ownBlock ∨ v'.ownBlock = some w.heap.size) → K (a.put o.dst v') w') : Oper.wp Try.prog o a w K Q := by
  obtain ⟨i0, hi, hz0, hz1, hz2⟩ := info_parts rowP
  refine wp_append_at w s x SlP ho base PkT i0 (.agg #[.int .i64 0, .int .i64 0, .int .i64 0, .string ⟨#[]⟩, .int .i64 0]) 5 48 Try.underlying42 hi hz0 hz1 hz2 rfl (by decide) v _ _ hs hown ⟨b, 0, none⟩ 1 1 t.vals hx (by decide) rfl (fun j u' hj => by
    rw [addr_addN]
    match j, hj with
    | 0, hj => simp at hj; subst hj; exact cellB hb rfl
    | 1, hj => simp at hj; subst hj; exact cellB hb rfl
    | 2, hj => simp at hj; subst hj; exact cellB hb rfl
    | 3, hj => simp at hj; subst hj; exact cellB hb rfl
    | 4, hj => simp at hj; subst hj; exact cellB hb rfl) (by simp; exact ⟨rfl, rfl, rfl, rfl, rfl⟩) (by unfold maxLen; omega) (by omega) hbase ?_
  intro v' w' h6 h7 h8
  refine h v' w' ?_ h7 h8
  rw [pks_append]
  simpa [pks] using h6
theorem wpList_app1 {w : World} {ops : Array Oper} {rest : List Oper} {o : Oper} {a : Act} {Q : Exit → Act → World → Prop} (hg : o.guard = none) (s x : Operand)
    (ho : o.op = .call { callee := .builtin .append, args := #[s, x], argTypes := #[SlP, SlP] })
    (base : Nat) (v : Value) (xs : List Pk) (hs : a.eval s = v) (hown : w.ownsRow base PkT 5 v xs.length (pks xs)) (b : Nat) (t : Pk) (hx : a.eval x = .slice (some ⟨b, 0, none⟩) 1 1) (hb : w.heap[b]? = some (Obj.cells #[.int .i64 t.id, .int .i64 (t.fr : Int), .int .i64 (t.tt : Int), .string t.bd, .int .i64 t.hl] PkT))
    (hlen : xs.length ≤ 1000000) (hbase : base ≤ w.heap.size)
    (h : ∀ v' w', w'.ownsRow base PkT 5 v' (xs ++ [t]).length (pks (xs ++ [t])) → w.grownBy w' v.ownBlock → (v'.ownBlock = v.ownBlock ∨ v'.ownBlock = some w.heap.size) → wpList Try.prog ops Q rest (a.put o.dst v') w') : wpList Try.prog ops Q (o :: rest) a w :=
  wpList_plain hg fun _ hK => wp_app1 s x ho base v xs hs hown b t hx hb hlen hbase fun v' w' h2 h3 h4 => hK _ _ (h v' w' h2 h3 h4)
/-- The slice that an append answers lies where the old one lay, or in the newest block; nothing may be appended. -/
theorem append_where0 {P : Program} (w : World) (t ty e : TypeId) (i : TypeInfo) (z : Value) (size bytes : Nat) (base : Nat) (ht : P.underlying t = some (.slice e)) (hi : P.info? e = some i) (hz : i.zero = some z)
    (hsize : i.size = size) (hby : i.bytes = bytes) {v : Value} {n : Nat} {xs : List Value} (hown : w.ownsRow base e size v n xs)
    {a : Addr} {m c : Nat} {news : List Value} (hl : news.length = m * size) (hnews : ∀ j u, news[j]? = some u → w.cell? (a.add j) = some u) (h1 : ∀ u ∈ news, u.oneCell' = true)
    (h63 : n + m ≤ maxLen) (hbytes : (n + m) * bytes ≤ 140737488355328) {v' : Value} {w' : World} (hr : (Builtin.append_ #[t, t] ty #[v, .slice (some a) m c]).run P w = .ok v' w')
    (hnil : v' = .slice none 0 0 ↔ v = .slice none 0 0 ∧ m = 0) :
    v'.ownBlock = v.ownBlock ∨ v'.ownBlock = some w.heap.size := by
  by_cases hm : 0 < m
  · exact append_where w t ty e i z size bytes base ht hi hz hsize hby hown hl hnews h1 hm h63 hbytes hr
  obtain rfl : m = 0 := by omega
  subst hsize
  rcases hown.2 with ⟨rfl, rfl⟩ | ⟨g, cap, cur, rfl, hbg, hg, hnc, hcm, hcs, htake⟩
  · rw [hnil.2 ⟨rfl, rfl⟩]; exact .inl rfl
  · have hfit : n * i.size + news.length ≤ cur.size := by rw [hl, hcs, ← Nat.add_mul]; exact Nat.mul_le_mul_right _ (by omega)
    have hr' := run_append_room (P := P) w t ty e i ht hi g n cap cur hg a 0 c news hl hnews h1 (by omega) hfit
    rw [hr'] at hr
    simp only [Result.ok.injEq] at hr
    exact .inl (by rw [← hr.1]; rfl)
/-- append of a row. -/
theorem wp_apps {w : World} {o : Oper} {a : Act} {K : Act → World → Prop} {Q : Exit → Act → World → Prop} (s x : Operand)
    (ho : o.op = .call { callee := .builtin .append, args := #[s, x], argTypes := #[SlP, SlP] })
    (base : Nat) (v : Value) (xs : List Pk) (hs : a.eval s = v) (hown : w.ownsRow base PkT 5 v xs.length (pks xs)) (vx : Value) (l : List Pk) (hx : a.eval x = vx) (hrd : Row w 5 vx l.length (pks l))
    (hlen : xs.length + l.length ≤ 1000000) (hbase : base ≤ w.heap.size)
    (h : ∀ v' w', w'.ownsRow base PkT 5 v' (xs ++ l).length (pks (xs ++ l)) → w.grownBy w' v.ownBlock → (v'.ownBlock = v.ownBlock ∨ v'.ownBlock = some w.heap.size) → K (a.put o.dst v') w') : Oper.wp Try.prog o a w K Q := by
  obtain ⟨i0, hi, hz0, hz1, hz2⟩ := info_parts rowP
  rcases hrd with ⟨hl, ⟨rfl, h0⟩ | ⟨b, off, cap, rfl, h1, h2, h3, h4⟩⟩
  · obtain rfl : l = [] := List.eq_nil_of_length_eq_zero h0
    have hrun := run_append_owned_none (P := Try.prog) (w := w) base SlP o.type PkT i0 5 Try.underlying42 hi v _ _ hown
    unfold Oper.wp
    simp [execOp, ho, resolve, invoke, builtin, hs, hx, hrun, Result.andThen]
    exact h v w (by rw [List.append_nil]; exact hown) ⟨rfl, rfl, rfl, Nat.le_refl _, fun _ _ _ => rfl⟩ (.inl rfl)
  · obtain ⟨v', w', hr, h2', h3', h5⟩ := run_append_own (P := Try.prog) w base SlP o.type PkT i0 (.agg #[.int .i64 0, .int .i64 0, .int .i64 0, .string ⟨#[]⟩, .int .i64 0]) 5 48 Try.underlying42 hi hz0 hz1 hz2 rfl (by decide) v _ _ hown ⟨b, off, none⟩ l.length cap (pks l) (by rw [pks_len]) (fun j u hj => by
        rw [addr_addN]; exact h4 j u hj) (pks_oneCell l) (by unfold maxLen; omega) (by omega) hbase
    have h6 := append_where0 w SlP o.type PkT i0 (.agg #[.int .i64 0, .int .i64 0, .int .i64 0, .string ⟨#[]⟩, .int .i64 0]) 5 48 base Try.underlying42 hi hz0 hz1 hz2 hown (by rw [pks_len]) (fun j u hj => by
        rw [addr_addN]; exact h4 j u hj) (pks_oneCell l) (by unfold maxLen; omega) (by omega) hr h5
    unfold Oper.wp execOp
    simp only [ho, resolve, invoke, builtin, Sem.run_bind, Sem.run_pure, Result.andThen_ok, List.map_toArray, List.map_cons, List.map_nil, hs, hx, hr]
    exact h v' w' (by rw [List.length_append, pks_append]; exact h2') h3' h6
/-- copy within a row of packets. -/
theorem run_copy_k {P : Program} (w : World) (dT sT ty elem : TypeId) (g o dLen dCap : Nat) (a : Addr) (sLen sCap : Nat) (cur : Array Value) (t : TypeId) (cs : List Value) (size m : Nat)
    (hu : P.underlying dT = some (.slice elem)) (hs : (P.info? elem).map (·.size) = some size)
    (hg : w.heap[g]? = some (.cells cur t (0, 0))) (hm : m = Nat.min sLen dLen) (hn : cs.length = m * size)
    (hsrc : ∀ j v, cs[j]? = some v → w.cell? (a.add j) = some v) (hfit : o + cs.length ≤ cur.size) (h1 : ∀ v ∈ cs, v.oneCell' = true) :
    (Builtin.copy_ #[dT, sT] ty #[.slice (some ⟨g, o, none⟩) dLen dCap, .slice (some a) sLen sCap]).run P w =
      .ok (goInt m) (w.setRow g (cur.toList.take o ++ cs ++ cur.toList.drop (o + cs.length)).toArray) := by
  have hl := run_loadCells_list (P := P) w a cs hsrc
  have hst := run_storeCells_at P g o t cs 0 cur w hg (by simpa using hfit) h1
  cases hq : P.info? elem with
  | none => simp [hq] at hs
  | some i =>
    have hi : i.size = size := by simpa [hq] using hs
    simp [Builtin.copy_, run_underlying hu, Builtin.lenOf, Builtin.firstCells, sizeOf, typeInfo, hq, hi, ← hm, ← hn, hl, hst]
/-- Cells laid into a list's block at a place. -/
theorem LaidP.splice {w : World} {g cap k : Nat} {L M : List Pk} (h : LaidP w g cap L) (hk : k + M.length ≤ L.length) {cur : Array Value} (hc : w.heap[g]? = some (Obj.cells cur PkT)) :
    LaidP (w.setRow g (cur.toList.take (k * 5) ++ pks M ++ cur.toList.drop (k * 5 + (pks M).length)).toArray) g cap (L.take k ++ M ++ L.drop (k + M.length)) := by
  obtain ⟨cur', h1, h2, h3, h4⟩ := h
  rw [hc] at h1
  obtain rfl : cur = cur' := by simpa using h1
  refine ⟨_, setRow_heap w g _ _ _ _ hc, ?_, ?_, ?_⟩
  · simp [pks_len]; omega
  · simp; omega
  · have e : cur.toList = pks L ++ cur.toList.drop (L.length * 5) := by rw [← h4, List.take_append_drop]
    have e1 : cur.toList.take (k * 5) = pks (L.take k) := by
      rw [e, List.take_append_of_le_length (by rw [pks_len]; omega)]
      have : pks L = pks (L.take k) ++ pks (L.drop k) := by rw [← pks_append, List.take_append_drop]
      rw [this, List.take_append_of_le_length (by rw [pks_len]; simp; omega), List.take_of_length_le (by rw [pks_len]; simp; omega)]
    have e2 : cur.toList.drop (k * 5 + (pks M).length) = pks (L.drop (k + M.length)) ++ cur.toList.drop (L.length * 5) := by
      have : pks L = pks (L.take (k + M.length)) ++ pks (L.drop (k + M.length)) := by rw [← pks_append, List.take_append_drop]
      conv => lhs; rw [e, this, List.append_assoc]
      rw [List.drop_append_of_le_length (by rw [pks_len, pks_len]; simp; omega), List.drop_of_length_le (by rw [pks_len, pks_len]; simp; omega), List.nil_append]
    show List.take _ (_ ++ _ ++ _) = _
    rw [e1, e2, pks_append, pks_append, ← List.append_assoc, List.take_append_of_le_length (by simp [pks_len]; omega), List.take_of_length_le (by simp [pks_len]; omega)]
theorem touch_setRow (w : World) (g : Nat) (cs : Array Value) (S : Nat → Prop) (hS : S g) : Touch S w (w.setRow g cs) :=
  ⟨rfl, rfl, rfl, by simp [World.setRow], fun k _ hn => setRow_other w g k cs (fun e => hn (e ▸ hS))⟩
theorem touch5 (w : World) (g o : Nat) (x : Pk) (S : Nat → Prop) (hS : S g) : Touch S w (((((w.setCell ⟨g, o, none⟩ (.int .i64 x.id)).setCell ⟨g, o + 1, none⟩ (.int .i64 (x.fr : Int))).setCell ⟨g, o + 2, none⟩ (.int .i64 (x.tt : Int))).setCell ⟨g, o + 3, none⟩ (.string x.bd)).setCell ⟨g, o + 4, none⟩ (.int .i64 x.hl)) :=
  ((((touch_set w g _ _ S hS).trans (touch_set _ g _ _ S hS)).trans (touch_set _ g _ _ S hS)).trans (touch_set _ g _ _ S hS)).trans (touch_set _ g _ _ S hS)
/-- copy of M, which lies at src, to the place k of the list L. -/
theorem wp_copyP {w : World} {o : Oper} {a : Act} {K : Act → World → Prop} {Q : Exit → Act → World → Prop} (d s : Operand)
    (ho : o.op = .call { callee := .builtin .copy, args := #[d, s], argTypes := #[SlP, SlP] }) (dp sp : Option Addr) (dLen dCap sLen sCap : Nat) (hd : a.eval d = .slice dp dLen dCap) (hs : a.eval s = .slice sp sLen sCap)
    {g cap k : Nat} {L M : List Pk} (h : LaidP w g cap L) (hk : k + M.length ≤ L.length) (hm : M.length = Nat.min sLen dLen)
    (hpos : 0 < M.length → dp = some ⟨g, k * 5, none⟩ ∧ ∃ b off, sp = some ⟨b, off, none⟩ ∧ ∀ j u, (pks M)[j]? = some u → w.cell? ⟨b, off + j, none⟩ = some u)
    (hK : ∀ w', LaidP w' g cap (L.take k ++ M ++ L.drop (k + M.length)) → Touch (fun k => k = g) w w' → K (a.put o.dst (goInt M.length)) w') : Oper.wp Try.prog o a w K Q := by
  by_cases h0 : M.length = 0
  · obtain rfl : M = [] := List.eq_nil_of_length_eq_zero h0
    have hrun : (Builtin.copy_ #[SlP, SlP] o.type #[.slice dp dLen dCap, .slice sp sLen sCap]).run Try.prog w = .ok (goInt 0) w := by
      have hl : ∀ (x : Addr), (loadCells x 0).run Try.prog w = .ok #[] w := fun x => by simpa using run_loadCells_list (P := Try.prog) w x [] (by simp)
      obtain ⟨i0, hi, hz0, hz1, hz2⟩ := info_parts rowP
      have hmm : Nat.min sLen dLen = 0 := by rw [← hm]; rfl
      cases dp <;> cases sp <;> simp [Builtin.copy_, run_underlying Try.underlying42, Builtin.lenOf, Builtin.firstCells, sizeOf, typeInfo, hi, hmm, storeCells, hl]
    unfold Oper.wp
    simp [execOp, ho, resolve, invoke, builtin, hd, hs, hrun, Result.andThen]
    exact hK w (by simpa using h) (Touch.refl _ _)
  · obtain ⟨rfl, b, off, rfl, hsrc⟩ := hpos (by omega)
    have h' := h
    obtain ⟨cur, h1, h2, h3, h4⟩ := h
    have hrun := run_copy_k (P := Try.prog) w SlP SlP o.type PkT g (k * 5) dLen dCap ⟨b, off, none⟩ sLen sCap cur PkT (pks M) 5 M.length Try.underlying42 sizeP h1 hm (pks_len M) (fun j u hj => by rw [addr_addN]; exact hsrc j u hj) (by rw [pks_len, h2]; omega) (pks_oneCell M)
    unfold Oper.wp
    simp [execOp, ho, resolve, invoke, builtin, hd, hs, hrun, Result.andThen]
    have hf := h'.splice (M := M) hk h1
    simp only [List.append_assoc] at hf
    exact hK _ (by simpa using hf) (touch_setRow _ _ _ _ rfl)
/-- What stands behind a place. -/
theorem run_dropP {g cap n k : Nat} (hk : k ≤ n) (hn : n ≤ cap) (W : World) : (Instr.slice SlP (.slice (some ⟨g, 0, none⟩) n cap) (some (.int .i64 (k : Int))) none none).run Try.prog W = .ok (.slice (some (if cap = k then ⟨g, 0, none⟩ else ⟨g, k * 5, none⟩)) (n - k) (cap - k)) W := by
  rw [run_slice_l W _ _ _ _ undP _ _ (by omega) (by omega), elemP, runSizeP]
  simp only [Result.andThen_ok, sliced]
  by_cases hc : cap = k
  · simp [hc]
  · simp [hc, Addr.add]
    omega
theorem run_takeP {g cap n k : Nat} (hk : k ≤ n) (hn : n ≤ cap) (W : World) : (Instr.slice SlP (.slice (some ⟨g, 0, none⟩) n cap) none (some (.int .i64 (k : Int))) none).run Try.prog W = .ok (.slice (some ⟨g, 0, none⟩) k cap) W := by
  rw [run_slice_h W _ _ _ _ undP _ _ (by omega) (by omega), elemP, runSizeP]
  simp only [Result.andThen_ok, sliced]
  by_cases hc : cap = 0
  · simp [hc]
  · simp [hc, Addr.add]
end Go.Proofs.Ytgnmieobgdbafaa
