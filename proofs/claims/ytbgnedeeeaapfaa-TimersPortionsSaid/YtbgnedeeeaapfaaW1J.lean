/-
  A wheel of int64s in memory: what it is, and what New, Now, Len, tooFar, Next, find and Due do.
-/
import Derived.Test.YtbgnedeeeaapfaaW0
namespace Go.Proofs.Ytbgnedeeeaapfaa
open Go.RowKit Go.Maps
set_option linter.unusedVariables false
abbrev WhTJ : TypeId := 97
abbrev TmTJ : TypeId := 133
abbrev MpTJ : TypeId := 94
abbrev ZJ : Value := .agg #[.int .i64 0, .int .i64 0, .int .i64 0]
theorem underJ : Try.prog.underlying MpTJ = some (.map IntT TmTJ) := Try.underlying94
theorem zeroJ (w : World) : (zeroValue TmTJ).run Try.prog w = .ok ZJ w := by kernel_rfl
/-- At a stands the wheel x: its map at mb, what it calls at cv; whether it turns. -/
structure IsWJ (w : World) (a mb : Nat) (cv : Value) (tn : Bool) (x : Wh) : Prop where
  lay : ∃ p, w.heap[a]? = some (Obj.cells #[.int .i64 x.now, .int .i64 x.ids, .int .i64 x.pls, .map (some mb), .pointer p, cv, .bool tn] WhTJ) ∧ ∃ G, IsTicks w p G ∧ Lines G x.ts
  map : IsMapT w mb ZJ x.pls x.ts
  good : Good x
  vals : ∀ t ∈ x.ts, ∃ s : Int, t.v = .int .i64 s
theorem IsWJ.keep {w w' : World} {a mb : Nat} {cv : Value} {tn : Bool} {x : Wh} (h : IsWJ w a mb cv tn x) (ha : w'.heap[a]? = w.heap[a]?) (hm : w'.heap[mb]? = w.heap[mb]?) (hk : Keep2 w w') : IsWJ w' a mb cv tn x := by
  obtain ⟨⟨p, h1, G, h2, h3⟩, h4, h5, h6⟩ := h
  exact ⟨⟨p, by rw [ha]; exact h1, G, h2.hold hk, h3⟩, h4.same hm, h5, h6⟩
theorem IsWJ.lt {w : World} {a mb : Nat} {cv : Value} {tn : Bool} {x : Wh} (h : IsWJ w a mb cv tn x) : a < w.heap.size := by
  obtain ⟨p, h1, _⟩ := h.lay
  exact (Array.getElem?_eq_some_iff.1 h1).1
theorem IsWJ.ne {w : World} {a mb : Nat} {cv : Value} {tn : Bool} {x : Wh} (h : IsWJ w a mb cv tn x) : a ≠ mb := by
  obtain ⟨p, h1, _⟩ := h.lay
  obtain ⟨es, c, h2⟩ := h.map.is
  rintro rfl
  rw [h1] at h2
  cases h2
theorem IsWJ.below {w w' : World} {a mb : Nat} {cv : Value} {tn : Bool} {x : Wh} (h : IsWJ w a mb cv tn x) (hb : Below w.heap.size w w') : IsWJ w' a mb cv tn x :=
  h.keep (hb.block a h.lt) (hb.block mb h.map.lt) (.below hb)
theorem IsWJ.notNode {w : World} {a mb : Nat} {cv : Value} {tn : Bool} {x : Wh} (h : IsWJ w a mb cv tn x) (k : Nat) (hk : k = a ∨ k = mb) (cs : Array Value) : w.heap[k]? ≠ some (Obj.cells cs NodeL) ∧ w.heap[k]? ≠ some (Obj.cells cs NodeN) := by
  obtain ⟨p, h1, _⟩ := h.lay
  obtain ⟨es, c, h2⟩ := h.map.is
  rcases hk with rfl | rfl
  · rw [h1]
    exact ⟨fun e => (by have := (Obj.cells.inj (Option.some.inj e)).2.1; revert this; decide), fun e => (by have := (Obj.cells.inj (Option.some.inj e)).2.1; revert this; decide)⟩
  · rw [h2]
    exact ⟨fun e => (by cases e), fun e => (by cases e)⟩
theorem IsWJ.cells {w : World} {a mb : Nat} {cv : Value} {tn : Bool} {x : Wh} (h : IsWJ w a mb cv tn x) : ∃ p, w.cell? ⟨a, 0, none⟩ = some (.int .i64 x.now) ∧ w.cell? ⟨a, 1, none⟩ = some (.int .i64 x.ids) ∧ w.cell? ⟨a, 2, none⟩ = some (.int .i64 x.pls) ∧ w.cell? ⟨a, 3, none⟩ = some (.map (some mb)) ∧ w.cell? ⟨a, 4, none⟩ = some (.pointer p) ∧ w.cell? ⟨a, 5, none⟩ = some cv ∧ w.cell? ⟨a, 6, none⟩ = some (.bool tn) ∧ w.frozen? ⟨a, 0, none⟩ = false ∧ ∃ G, IsTicks w p G ∧ Lines G x.ts := by
  obtain ⟨p, h1, h2⟩ := h.lay
  exact ⟨p, cellB h1 rfl, cellB h1 rfl, cellB h1 rfl, cellB h1 rfl, cellB h1 rfl, cellB h1 rfl, cellB h1 rfl, frozenB h1, h2⟩
/-- What stands at an id, by its cells. -/
theorem IsWJ.at_shape {w : World} {a mb : Nat} {cv : Value} {tn : Bool} {x : Wh} (h : IsWJ w a mb cv tn x) (i : Int) : ∃ (s : Int) (k p : Int), tmAt ZJ x.ts i = .agg #[.int .i64 s, .int .i64 k, .int .i64 p] := by
  unfold tmAt
  cases e : fnd x.ts i with
  | none => exact ⟨_, _, _, rfl⟩
  | some t =>
    obtain ⟨s, hs⟩ := h.vals t (fnd_some e).1
    refine ⟨s, t.tk, t.pl, ?_⟩
    simp only [Option.map_some, Option.getD_some, tmV, hs]
set_option maxHeartbeats 800000 in
theorem newJ (w : World) : Calls Try.prog 21 #[] w fun e w' => e = .returned (.pointer (some ⟨w.heap.size + 1, 0, none⟩)) ∧ IsWJ w' (w.heap.size + 1) w.heap.size (.slice none 0 0) false ⟨0, 0, 0, []⟩ ∧ Below w.heap.size w w' := by
  have hmm := @run_makeMap Try.prog
  go_enter Try.func21, Try.ntmps21
  go_wp2_with fail
  go_returns
  refine ⟨rfl, ⟨⟨none, ?_, [], IsTicks.none _, ⟨Srt.nil, fun g hg => (by cases hg), rfl⟩⟩, ?_, Good.new, fun t ht => (by cases ht)⟩, ((Below.refl _ _).alloc (Nat.le_refl _) _).alloc (by simp) _⟩
  · have e : w.heap.size + 1 = (w.alloc (.map #[] 0)).heap.size := by simp
    rw [e]
    exact heap_alloc_new _ _
  · exact (IsMapT.new w _).below ((Below.refl _ _).alloc (Nat.le_refl _) _)
set_option maxHeartbeats 800000 in
theorem nowJ {w : World} {a mb : Nat} {cv : Value} {tn : Bool} {x : Wh} (h : IsWJ w a mb cv tn x) : Calls Try.prog 26 #[.pointer (some ⟨a, 0, none⟩)] w fun e w' => e = .returned (.int .i64 x.now) ∧ w = w' := by
  obtain ⟨p, c0, _⟩ := h.cells
  clear h
  go_enter Try.func26, Try.ntmps26
  go_wp2
  go_ret
  exact ⟨rfl, rfl⟩
set_option maxHeartbeats 800000 in
theorem lenJ {w : World} {a mb : Nat} {cv : Value} {tn : Bool} {x : Wh} (h : IsWJ w a mb cv tn x) : Calls Try.prog 25 #[.pointer (some ⟨a, 0, none⟩)] w fun e w' => e = .returned (.int .i64 (x.ts.length : Int)) ∧ w = w' := by
  obtain ⟨p, _, _, _, c3, _⟩ := h.cells
  have hl := h.map.len underJ 3
  clear h
  go_enter Try.func25, Try.ntmps25
  go_wp2
  go_ret
  exact ⟨rfl, rfl⟩
set_option maxHeartbeats 800000 in
theorem farJ {w : World} {a mb : Nat} {cv : Value} {tn : Bool} {x : Wh} (h : IsWJ w a mb cv tn x) (n : Int) : Calls Try.prog 58 #[.pointer (some ⟨a, 0, none⟩), .int .i64 n] w fun e w' => e = .returned (.bool (decide (maxI - x.now < n))) ∧ w = w' := by
  obtain ⟨p, c0, _⟩ := h.cells
  have h1 := h.good.now0
  have h2 := h.good.nowM
  unfold maxI at h2
  have hw : IntKind.i64.wrap (9223372036854775807 - x.now) = 9223372036854775807 - x.now := IntWalk.i64_in _ (by omega)
  have HN : Hid (decide (maxI - x.now < n) = decide (9223372036854775807 - x.now < n)) := Lib.hid rfl
  clear h h1 h2
  go_enter Try.func58, Try.ntmps58
  go_wp2
  go_ret
  exact ⟨(by rw [HN.out]; rfl), rfl⟩
set_option maxHeartbeats 800000 in
theorem nextJ {w : World} {a mb : Nat} {cv : Value} {tn : Bool} {x : Wh} (h : IsWJ w a mb cv tn x) : Calls Try.prog 60 #[.pointer (some ⟨a, 0, none⟩)] w fun e w' => e = .returned (.tuple #[.int .i64 (nextP x), .bool (!x.ts.isEmpty)]) ∧ Below w.heap.size w w' := by
  obtain ⟨p, _, _, _, _, c4, _, _, _, G, hG, hL⟩ := h.cells
  have hlen := h.good.len
  have hgl := hL.glen
  unfold nextP
  cases hts : x.ts with
  | nil =>
    rw [hts] at hL
    obtain rfl := hL.nil_of
    have HG := Lib.hid hG
    clear h hG hL hlen hgl hts
    go_enter Try.func60, Try.ntmps60
    go_wp2_with fail
    refine (tat_no HG.out).mono ?_
    rintro e w1 ⟨rfl, u1⟩
    have HU := Lib.hid (u1.alloc u1.size (.cells #[.pointer none] MapN))
    clear u1
    go_wp2_with fail
    go_returns
    exact ⟨rfl, HU.out⟩
  | cons t ts =>
    rw [hts] at hL hlen
    obtain ⟨l, G', rfl⟩ := hL.head_of
    have HG := Lib.hid hG
    have HS : Hid (G'.length < 5000) := Lib.hid (by rw [hts] at hgl; simp only [List.length_cons] at hgl hlen; omega)
    clear h hG hL hlen hgl hts
    go_enter Try.func60, Try.ntmps60
    go_wp2_with fail
    refine (tat_yes HG.out HS.out).mono ?_
    rintro e w1 ⟨q, rfl, _, u1⟩
    have HU := Lib.hid (u1.alloc u1.size (.cells #[.pointer q] MapN))
    clear u1
    go_wp2_with fail
    go_returns
    exact ⟨rfl, HU.out⟩
end Go.Proofs.Ytbgnedeeeaapfaa
