/-
  A wheel of strings in memory: what it is, and what New, Now, Len, tooFar, Next, find and Due do.
-/
import Derived.Test.YtbgnedeeeaapfaaW0
namespace Go.Proofs.Ytbgnedeeeaapfaa
open Go.RowKit Go.Maps
set_option linter.unusedVariables false
abbrev WhTS : TypeId := 85
abbrev TmTS : TypeId := 124
abbrev MpTS : TypeId := 79
abbrev ZS : Value := .agg #[.string ⟨#[]⟩, .int .i64 0, .int .i64 0]
theorem underS : Try.prog.underlying MpTS = some (.map IntT TmTS) := Try.underlying79
theorem zeroS (w : World) : (zeroValue TmTS).run Try.prog w = .ok ZS w := by kernel_rfl
/-- At a stands the wheel x: its map at mb, what it calls at cv; whether it turns. -/
structure IsWS (w : World) (a mb : Nat) (cv : Value) (tn : Bool) (x : Wh) : Prop where
  lay : ∃ p, w.heap[a]? = some (Obj.cells #[.int .i64 x.now, .int .i64 x.ids, .int .i64 x.pls, .map (some mb), .pointer p, cv, .bool tn] WhTS) ∧ ∃ G, IsTicks w p G ∧ Lines G x.ts
  map : IsMapT w mb ZS x.pls x.ts
  good : Good x
  vals : ∀ t ∈ x.ts, ∃ s : ByteArray, t.v = .string s
theorem IsWS.keep {w w' : World} {a mb : Nat} {cv : Value} {tn : Bool} {x : Wh} (h : IsWS w a mb cv tn x) (ha : w'.heap[a]? = w.heap[a]?) (hm : w'.heap[mb]? = w.heap[mb]?) (hk : Keep2 w w') : IsWS w' a mb cv tn x := by
  obtain ⟨⟨p, h1, G, h2, h3⟩, h4, h5, h6⟩ := h
  exact ⟨⟨p, by rw [ha]; exact h1, G, h2.hold hk, h3⟩, h4.same hm, h5, h6⟩
theorem IsWS.lt {w : World} {a mb : Nat} {cv : Value} {tn : Bool} {x : Wh} (h : IsWS w a mb cv tn x) : a < w.heap.size := by
  obtain ⟨p, h1, _⟩ := h.lay
  exact (Array.getElem?_eq_some_iff.1 h1).1
theorem IsWS.ne {w : World} {a mb : Nat} {cv : Value} {tn : Bool} {x : Wh} (h : IsWS w a mb cv tn x) : a ≠ mb := by
  obtain ⟨p, h1, _⟩ := h.lay
  obtain ⟨es, c, h2⟩ := h.map.is
  rintro rfl
  rw [h1] at h2
  cases h2
theorem IsWS.below {w w' : World} {a mb : Nat} {cv : Value} {tn : Bool} {x : Wh} (h : IsWS w a mb cv tn x) (hb : Below w.heap.size w w') : IsWS w' a mb cv tn x :=
  h.keep (hb.block a h.lt) (hb.block mb h.map.lt) (.below hb)
theorem IsWS.notNode {w : World} {a mb : Nat} {cv : Value} {tn : Bool} {x : Wh} (h : IsWS w a mb cv tn x) (k : Nat) (hk : k = a ∨ k = mb) (cs : Array Value) : w.heap[k]? ≠ some (Obj.cells cs NodeL) ∧ w.heap[k]? ≠ some (Obj.cells cs NodeN) := by
  obtain ⟨p, h1, _⟩ := h.lay
  obtain ⟨es, c, h2⟩ := h.map.is
  rcases hk with rfl | rfl
  · rw [h1]
    exact ⟨fun e => (by have := (Obj.cells.inj (Option.some.inj e)).2.1; revert this; decide), fun e => (by have := (Obj.cells.inj (Option.some.inj e)).2.1; revert this; decide)⟩
  · rw [h2]
    exact ⟨fun e => (by cases e), fun e => (by cases e)⟩
theorem IsWS.cells {w : World} {a mb : Nat} {cv : Value} {tn : Bool} {x : Wh} (h : IsWS w a mb cv tn x) : ∃ p, w.cell? ⟨a, 0, none⟩ = some (.int .i64 x.now) ∧ w.cell? ⟨a, 1, none⟩ = some (.int .i64 x.ids) ∧ w.cell? ⟨a, 2, none⟩ = some (.int .i64 x.pls) ∧ w.cell? ⟨a, 3, none⟩ = some (.map (some mb)) ∧ w.cell? ⟨a, 4, none⟩ = some (.pointer p) ∧ w.cell? ⟨a, 5, none⟩ = some cv ∧ w.cell? ⟨a, 6, none⟩ = some (.bool tn) ∧ w.frozen? ⟨a, 0, none⟩ = false ∧ ∃ G, IsTicks w p G ∧ Lines G x.ts := by
  obtain ⟨p, h1, h2⟩ := h.lay
  exact ⟨p, cellB h1 rfl, cellB h1 rfl, cellB h1 rfl, cellB h1 rfl, cellB h1 rfl, cellB h1 rfl, cellB h1 rfl, frozenB h1, h2⟩
/-- What stands at an id, by its cells. -/
theorem IsWS.at_shape {w : World} {a mb : Nat} {cv : Value} {tn : Bool} {x : Wh} (h : IsWS w a mb cv tn x) (i : Int) : ∃ (s : ByteArray) (k p : Int), tmAt ZS x.ts i = .agg #[.string s, .int .i64 k, .int .i64 p] := by
  unfold tmAt
  cases e : fnd x.ts i with
  | none => exact ⟨_, _, _, rfl⟩
  | some t =>
    obtain ⟨s, hs⟩ := h.vals t (fnd_some e).1
    refine ⟨s, t.tk, t.pl, ?_⟩
    simp only [Option.map_some, Option.getD_some, tmV, hs]
set_option maxHeartbeats 800000 in
theorem newS (w : World) : Calls Try.prog 11 #[] w fun e w' => e = .returned (.pointer (some ⟨w.heap.size + 1, 0, none⟩)) ∧ IsWS w' (w.heap.size + 1) w.heap.size (.slice none 0 0) false ⟨0, 0, 0, []⟩ ∧ Below w.heap.size w w' := by
  have hmm := @run_makeMap Try.prog
  go_enter Try.func11, Try.ntmps11
  go_wp2_with fail
  go_returns
  refine ⟨rfl, ⟨⟨none, ?_, [], IsTicks.none _, ⟨Srt.nil, fun g hg => (by cases hg), rfl⟩⟩, ?_, Good.new, fun t ht => (by cases ht)⟩, ((Below.refl _ _).alloc (Nat.le_refl _) _).alloc (by simp) _⟩
  · have e : w.heap.size + 1 = (w.alloc (.map #[] 0)).heap.size := by simp
    rw [e]
    exact heap_alloc_new _ _
  · exact (IsMapT.new w _).below ((Below.refl _ _).alloc (Nat.le_refl _) _)
set_option maxHeartbeats 800000 in
theorem nowS {w : World} {a mb : Nat} {cv : Value} {tn : Bool} {x : Wh} (h : IsWS w a mb cv tn x) : Calls Try.prog 16 #[.pointer (some ⟨a, 0, none⟩)] w fun e w' => e = .returned (.int .i64 x.now) ∧ w = w' := by
  obtain ⟨p, c0, _⟩ := h.cells
  clear h
  go_enter Try.func16, Try.ntmps16
  go_wp2
  go_ret
  exact ⟨rfl, rfl⟩
set_option maxHeartbeats 800000 in
theorem lenS {w : World} {a mb : Nat} {cv : Value} {tn : Bool} {x : Wh} (h : IsWS w a mb cv tn x) : Calls Try.prog 43 #[.pointer (some ⟨a, 0, none⟩)] w fun e w' => e = .returned (.int .i64 (x.ts.length : Int)) ∧ w = w' := by
  obtain ⟨p, _, _, _, c3, _⟩ := h.cells
  have hl := h.map.len underS 3
  clear h
  go_enter Try.func43, Try.ntmps43
  go_wp2
  go_ret
  exact ⟨rfl, rfl⟩
set_option maxHeartbeats 800000 in
theorem farS {w : World} {a mb : Nat} {cv : Value} {tn : Bool} {x : Wh} (h : IsWS w a mb cv tn x) (n : Int) : Calls Try.prog 54 #[.pointer (some ⟨a, 0, none⟩), .int .i64 n] w fun e w' => e = .returned (.bool (decide (maxI - x.now < n))) ∧ w = w' := by
  obtain ⟨p, c0, _⟩ := h.cells
  have h1 := h.good.now0
  have h2 := h.good.nowM
  unfold maxI at h2
  have hw : IntKind.i64.wrap (9223372036854775807 - x.now) = 9223372036854775807 - x.now := IntWalk.i64_in _ (by omega)
  have HN : Hid (decide (maxI - x.now < n) = decide (9223372036854775807 - x.now < n)) := Lib.hid rfl
  clear h h1 h2
  go_enter Try.func54, Try.ntmps54
  go_wp2
  go_ret
  exact ⟨(by rw [HN.out]; rfl), rfl⟩
set_option maxHeartbeats 800000 in
theorem nextS {w : World} {a mb : Nat} {cv : Value} {tn : Bool} {x : Wh} (h : IsWS w a mb cv tn x) : Calls Try.prog 41 #[.pointer (some ⟨a, 0, none⟩)] w fun e w' => e = .returned (.tuple #[.int .i64 (nextP x), .bool (!x.ts.isEmpty)]) ∧ Below w.heap.size w w' := by
  obtain ⟨p, _, _, _, _, c4, _, _, _, G, hG, hL⟩ := h.cells
  have hlen := h.good.len
  have hgl := hL.glen
  unfold nextP
  cases hts : x.ts with
  | nil =>
    rw [hts] at hL
    obtain rfl := hL.nil_of
    have HG := Lib.hid hG
    clear h hG hL hlen hgl hts
    go_enter Try.func41, Try.ntmps41
    go_wp2_with fail
    refine (tat_no HG.out).mono ?_
    rintro e w1 ⟨rfl, u1⟩
    have HU := Lib.hid (u1.alloc u1.size (.cells #[.pointer none] MapN))
    clear u1
    go_wp2_with fail
    go_returns
    exact ⟨rfl, HU.out⟩
  | cons t ts =>
    rw [hts] at hL hlen
    obtain ⟨l, G', rfl⟩ := hL.head_of
    have HG := Lib.hid hG
    have HS : Hid (G'.length < 5000) := Lib.hid (by rw [hts] at hgl; simp only [List.length_cons] at hgl hlen; omega)
    clear h hG hL hlen hgl hts
    go_enter Try.func41, Try.ntmps41
    go_wp2_with fail
    refine (tat_yes HG.out HS.out).mono ?_
    rintro e w1 ⟨q, rfl, _, u1⟩
    have HU := Lib.hid (u1.alloc u1.size (.cells #[.pointer q] MapN))
    clear u1
    go_wp2_with fail
    go_returns
    exact ⟨rfl, HU.out⟩
set_option maxHeartbeats 1600000 in
theorem findS {w : World} {a mb : Nat} {cv : Value} {tn : Bool} {x : Wh} (h : IsWS w a mb cv tn x) {i : Int} (hi : i64R i) : Calls Try.prog 73 #[.pointer (some ⟨a, 0, none⟩), .int .i64 i] w fun e w' => e = .returned (.tuple #[tmAt ZS x.ts i, .bool (fnd x.ts i).isSome]) ∧ Below w.heap.size w w' := by
  have hb1 : Below w.heap.size w (w.alloc (.cells #[.string ⟨#[]⟩, .int .i64 0, .int .i64 0] TmTS)) := (Below.refl _ _).alloc (Nat.le_refl _) _
  obtain ⟨p, _, _, _, c3, _⟩ := (h.below hb1).cells
  have hr := ((h.below hb1).map.look underS (zeroS _) hi).1
  obtain ⟨s, k, q, e⟩ := h.at_shape i
  rw [e] at hr ⊢
  have y0 : (w.alloc (.cells #[.string ⟨#[]⟩, .int .i64 0, .int .i64 0] TmTS)).heap[w.heap.size]? = some (Obj.cells #[.string ⟨#[]⟩, .int .i64 0, .int .i64 0] TmTS) := heap_alloc_new _ _
  clear e h
  have HB := Lib.hid hb1
  have HY := Lib.hid y0
  clear hb1 y0
  generalize (fnd x.ts i).isSome = bb at *
  go_enter Try.func73, Try.ntmps73
  go_wp2_with fail
  have b3 : Below w.heap.size w ((w.alloc (.cells #[.string s, .int .i64 k, .int .i64 q] TmTS)).alloc (.cells #[.string s, .int .i64 k, .int .i64 q] TmTS)) := ((Below.refl _ _).alloc (Nat.le_refl _) _).alloc (by simp) _
  have z : ((w.alloc (.cells #[.string s, .int .i64 k, .int .i64 q] TmTS)).alloc (.cells #[.string s, .int .i64 k, .int .i64 q] TmTS)).heap[w.heap.size]? = some (Obj.cells #[.string s, .int .i64 k, .int .i64 q] TmTS) := by
    rw [(((Below.refl _ _).alloc (Nat.le_refl _) _ : Below (w.alloc (.cells #[.string s, .int .i64 k, .int .i64 q] TmTS)).heap.size (w.alloc (.cells #[.string s, .int .i64 k, .int .i64 q] TmTS)) _)).block _ (by simp)]; exact heap_alloc_new _ _
  have z0 := cellB (j := 0) z rfl
  have z1 := cellB (j := 1) z rfl
  have z2 := cellB (j := 2) z rfl
  generalize ((w.alloc (.cells #[.string s, .int .i64 k, .int .i64 q] TmTS)).alloc (.cells #[.string s, .int .i64 k, .int .i64 q] TmTS)) = W at *
  refine bodyPost_ret (v := .tuple #[.agg #[.string s, .int .i64 k, .int .i64 q], .bool bb]) (by simp [results, Try.results73, go_sem, z0, z1, z2]) rfl ?_
  exact ⟨rfl, b3⟩
def duePS (x : Wh) (i : Int) : Int := match fnd x.ts i with
  | none => 0
  | some t => t.tk
set_option maxHeartbeats 1600000 in
theorem dueS {w : World} {a mb : Nat} {cv : Value} {tn : Bool} {x : Wh} (h : IsWS w a mb cv tn x) {i : Int} (hi : i64R i) : Calls Try.prog 51 #[.pointer (some ⟨a, 0, none⟩), .int .i64 i] w fun e w' => e = .returned (.tuple #[.int .i64 (duePS x i), .bool (fnd x.ts i).isSome]) ∧ Below w.heap.size w w' := by
  have e : ∃ (s : ByteArray) (p : Int), tmAt ZS x.ts i = .agg #[.string s, .int .i64 (duePS x i), .int .i64 p] := by
    unfold tmAt duePS
    cases e : fnd x.ts i with
    | none => exact ⟨_, _, rfl⟩
    | some t =>
      obtain ⟨s, hs⟩ := h.vals t (fnd_some e).1
      refine ⟨s, t.pl, ?_⟩
      simp only [Option.map_some, Option.getD_some, tmV, hs]
  obtain ⟨s, p, e⟩ := e
  generalize duePS x i = k at *
  have hf := findS h hi
  rw [e] at hf
  generalize (fnd x.ts i).isSome = bb at *
  have HF := Lib.hid hf
  clear h hf e
  go_enter Try.func51, Try.ntmps51
  go_wp2_with fail
  refine HF.out.mono ?_
  rintro e w1 ⟨rfl, u1⟩
  have b3 : Below w.heap.size w (w1.alloc (.cells #[.string s, .int .i64 k, .int .i64 p] TmTS)) := u1.alloc u1.size _
  have z : (w1.alloc (.cells #[.string s, .int .i64 k, .int .i64 p] TmTS)).heap[w1.heap.size]? = some (Obj.cells #[.string s, .int .i64 k, .int .i64 p] TmTS) := heap_alloc_new _ _
  have z1 := cellB (j := 1) z rfl
  have HB := Lib.hid b3
  clear b3 z u1
  go_wp2_with fail
  go_returns
  exact ⟨rfl, HB.out⟩
end Go.Proofs.Ytbgnedeeeaapfaa
