/-
  The ticks in memory: for each tick the line of its timers; what Get, Put, Drop, At and Len answer.
-/
import Derived.Test.YtbgnedeeeaapfaaWGet
import Derived.Test.YtbgnedeeeaapfaaKMI
namespace Go.Proofs.Ytbgnedeeeaapfaa
open Go.RowKit
set_option linter.unusedVariables false
abbrev NodeL : TypeId := 147
abbrev NodeN : TypeId := 158
/-- The nodes of both kinds stay. -/
def Keep2 (w w' : World) : Prop := Hold NodeL w w' ∧ Hold NodeN w w'
theorem Keep2.refl (w : World) : Keep2 w w := ⟨Hold.refl _ _, Hold.refl _ _⟩
theorem Keep2.trans {a b c : World} (h : Keep2 a b) (k : Keep2 b c) : Keep2 a c := ⟨h.1.trans k.1, h.2.trans k.2⟩
theorem Keep2.below {w w' : World} (h : Below w.heap.size w w') : Keep2 w w' := ⟨Hold.below h, Hold.below h⟩
theorem Keep2.setCell {T' : TypeId} {w : World} {c o : Nat} {cs : Array Value} {fr : Nat × Nat} {v : Value} (hc : w.heap[c]? = some (Obj.cells cs T' fr)) (h1 : T' ≠ NodeL) (h2 : T' ≠ NodeN) : Keep2 w (w.setCell ⟨c, o, none⟩ v) :=
  ⟨Hold.setCell hc h1, Hold.setCell hc h2⟩
/-- At p stands the line l. -/
def IsLine (w : World) (p : Option Addr) (l : List (Int × Int)) : Prop := ∃ s : Tr Int Int, IsTI w (.pointer p) s ∧ s.toL = l
theorem IsLine.hold {w w' : World} {p : Option Addr} {l : List (Int × Int)} (h : IsLine w p l) (k : Keep2 w w') : IsLine w' p l := by
  obtain ⟨s, h1, h2⟩ := h
  exact ⟨s, h1.hold k.2, h2⟩
theorem IsLine.below {w w' : World} {p : Option Addr} {l : List (Int × Int)} (h : IsLine w p l) (k : Below w.heap.size w w') : IsLine w' p l := h.hold (.below k)
theorem IsLine.none (w : World) : IsLine w none [] := ⟨.nil, rfl, rfl⟩
inductive Lns (w : World) : List (Int × Option Addr) → Grp → Prop
  | nil : Lns w [] []
  | cons {k : Int} {p : Option Addr} {l : List (Int × Int)} {es : List (Int × Option Addr)} {G : Grp} (h : IsLine w p l) (t : Lns w es G) : Lns w ((k, p) :: es) ((k, l) :: G)
theorem Lns.hold {w w' : World} {es : List (Int × Option Addr)} {G : Grp} (h : Lns w es G) (k : Keep2 w w') : Lns w' es G := by
  induction h with
  | nil => exact .nil
  | cons h _ ih => exact .cons (h.hold k) ih
theorem Lns.filter {w : World} {es : List (Int × Option Addr)} {G : Grp} (h : Lns w es G) (p : Int → Bool) : Lns w (es.filter fun e => p e.1) (G.filter fun e => p e.1) := by
  induction h with
  | nil => exact .nil
  | @cons k q l es G h _ ih =>
    rw [List.filter_cons, List.filter_cons]
    cases hp : p k
    · simpa [hp] using ih
    · simpa [hp] using Lns.cons h ih
theorem Lns.append {w : World} {a b : List (Int × Option Addr)} {A B : Grp} (h : Lns w a A) (k : Lns w b B) : Lns w (a ++ b) (A ++ B) := by
  induction h with
  | nil => exact k
  | cons h _ ih => exact .cons h ih
theorem Lns.keys {w : World} {es : List (Int × Option Addr)} {G : Grp} (h : Lns w es G) : es.map (·.1) = G.map (·.1) := by
  induction h with
  | nil => rfl
  | cons h _ ih => simp [ih]
theorem srt_keys {A B : Type} {a : List (Int × A)} {b : List (Int × B)} (h : a.map (·.1) = b.map (·.1)) (hb : Srt b) : Srt a := by
  have h1 : (a.map (·.1)).Pairwise fun x y => KOrd.lt x y = true := by
    rw [h]; exact List.pairwise_map.2 hb
  exact List.pairwise_map.1 h1
theorem Lns.len {w : World} {es : List (Int × Option Addr)} {G : Grp} (h : Lns w es G) : es.length = G.length := by
  have := congrArg List.length h.keys
  simpa using this
/-- At p stand the ticks G. -/
def IsTicks (w : World) (p : Option Addr) (G : Grp) : Prop := ∃ T : Tr Int (Option Addr), IsTL w (.pointer p) T ∧ Lns w T.toL G
theorem IsTicks.hold {w w' : World} {p : Option Addr} {G : Grp} (h : IsTicks w p G) (k : Keep2 w w') : IsTicks w' p G := by
  obtain ⟨s, h1, h2⟩ := h
  exact ⟨s, h1.hold k.1, h2.hold k⟩
theorem IsTicks.none (w : World) : IsTicks w none [] := ⟨.nil, rfl, .nil⟩
theorem tget {w : World} {p : Option Addr} {G : Grp} (k : Int) (h : IsTicks w p G) (hG : Srt G) :
    Calls Try.prog 78 #[.agg #[.pointer p], .int .i64 k] w fun e w' => ∃ q b, e = .returned (.tuple #[.agg #[.pointer q], .bool b]) ∧ IsLine w' q (lineOf G k) ∧ Below w.heap.size w w' := by
  obtain ⟨T, h1, h2⟩ := h
  refine (mgetL k h1).mono ?_
  rintro e w' ⟨rfl, u⟩
  refine ⟨_, _, rfl, ?_, u⟩
  have hs : Srt T.toL := srt_keys h2.keys hG
  have hf := h2.filter fun x => !KOrd.lt x k && !KOrd.lt k x
  change Lns w (atKey T.toL k) (atKey G k) at hf
  unfold getP lineOf
  have hfa := Tr.find_atKey T k hs
  clear hs
  generalize atKey G k = A at hf ⊢
  generalize atKey T.toL k = B at hf hfa
  rcases hfa with ⟨e1, e2⟩ | ⟨l, v, r, e1, e2⟩
  · rw [e1]
    subst e2
    cases hf
    exact IsLine.none _
  · rw [e1]
    subst e2
    cases hf with
    | cons h _ => exact h.below u
theorem tput {w : World} {p q : Option Addr} {G : Grp} {l : List (Int × Int)} (k : Int) (h : IsTicks w p G) (hl : IsLine w q l) (hG : Srt G) (hs : G.length < 5000) :
    Calls Try.prog 79 #[.agg #[.pointer p], .int .i64 k, .agg #[.pointer q]] w fun e w' => ∃ p', e = .returned (.agg #[.pointer p']) ∧ IsTicks w' p' (lput G k l) ∧ Below w.heap.size w w' := by
  obtain ⟨T, h1, h2⟩ := h
  refine (mputL k q h1 (by rw [← Tr.size_toL, h2.len]; omega)).mono ?_
  rintro e w' ⟨p', rfl, t, u⟩
  refine ⟨p', rfl, ⟨_, t, ?_⟩, u⟩
  rw [Tr.toL_put _ _ _ (srt_keys h2.keys hG)]
  exact ((h2.filter fun x => KOrd.lt x k).append (.cons hl (h2.filter fun x => KOrd.lt k x))).hold (.below u)
theorem tdrop {w : World} {p : Option Addr} {G : Grp} (k : Int) (h : IsTicks w p G) (hG : Srt G) (hs : G.length < 5000) :
    Calls Try.prog 85 #[.agg #[.pointer p], .int .i64 k] w fun e w' => ∃ p', e = .returned (.agg #[.pointer p']) ∧ IsTicks w' p' (ldrop G k) ∧ Below w.heap.size w w' := by
  obtain ⟨T, h1, h2⟩ := h
  refine (mdropL k h1 (by rw [← Tr.size_toL, h2.len]; omega)).mono ?_
  rintro e w' ⟨p', rfl, t, u⟩
  refine ⟨p', rfl, ⟨_, t, ?_⟩, u⟩
  rw [Tr.toL_del _ _ (srt_keys h2.keys hG)]
  exact ((h2.filter fun x => KOrd.lt x k).append (h2.filter fun x => KOrd.lt k x)).hold (.below u)
theorem tat_no {w : World} {p : Option Addr} (h : IsTicks w p []) :
    Calls Try.prog 65 #[.agg #[.pointer p], .int .i64 0] w fun e w' => e = .returned (.tuple #[.int .i64 0, .agg #[.pointer none], .bool false]) ∧ Below w.heap.size w w' := by
  obtain ⟨T, h1, h2⟩ := h
  have hz : T.size = 0 := by rw [← Tr.size_toL, h2.len]; rfl
  refine (matL 0 h1 (by omega) (by omega)).mono ?_
  rintro e w' ⟨rfl, u⟩
  rw [Tr.nth_none T 0 (.inr (by omega))]
  exact ⟨rfl, u⟩
theorem tat_yes {w : World} {p : Option Addr} {k : Int} {l : List (Int × Int)} {G : Grp} (h : IsTicks w p ((k, l) :: G)) (hs : G.length < 5000) :
    Calls Try.prog 65 #[.agg #[.pointer p], .int .i64 0] w fun e w' => ∃ q, e = .returned (.tuple #[.int .i64 k, .agg #[.pointer q], .bool true]) ∧ IsLine w' q l ∧ Below w.heap.size w w' := by
  obtain ⟨T, h1, h2⟩ := h
  have hz : T.size = G.length + 1 := by rw [← Tr.size_toL, h2.len]; rfl
  refine (matL 0 h1 (by omega) (by omega)).mono ?_
  rintro e w' ⟨rfl, u⟩
  obtain ⟨a, b, hn⟩ := Tr.nth_some T 0 (by rw [h2.len]; simp)
  rw [show ((0 : Nat) : Int) = 0 from rfl] at hn
  rw [hn]
  generalize T.toL = es at h2
  cases h2 with
  | cons h _ => exact ⟨_, rfl, h.below u, u⟩
theorem lnput {w : World} {p : Option Addr} {l : List (Int × Int)} (k i : Int) (h : IsLine w p l) (hl : Srt l) (hs : l.length < 5000) :
    Calls Try.prog 80 #[.agg #[.pointer p], .int .i64 k, .int .i64 i] w fun e w' => ∃ q, e = .returned (.agg #[.pointer q]) ∧ IsLine w' q (lput l k i) ∧ Below w.heap.size w w' := by
  obtain ⟨s, h1, rfl⟩ := h
  refine (mputI k i h1 (by rw [← Tr.size_toL]; omega)).mono ?_
  rintro e w' ⟨q, rfl, t, u⟩
  exact ⟨q, rfl, ⟨_, t, Tr.toL_put _ _ _ hl⟩, u⟩
theorem lndrop {w : World} {p : Option Addr} {l : List (Int × Int)} (k : Int) (h : IsLine w p l) (hl : Srt l) (hs : l.length < 5000) :
    Calls Try.prog 83 #[.agg #[.pointer p], .int .i64 k] w fun e w' => ∃ q, e = .returned (.agg #[.pointer q]) ∧ IsLine w' q (ldrop l k) ∧ Below w.heap.size w w' := by
  obtain ⟨s, h1, rfl⟩ := h
  refine (mdropI k h1 (by rw [← Tr.size_toL]; omega)).mono ?_
  rintro e w' ⟨q, rfl, t, u⟩
  exact ⟨q, rfl, ⟨_, t, Tr.toL_del _ _ hl⟩, u⟩
theorem lnlen {w : World} {p : Option Addr} {l : List (Int × Int)} (h : IsLine w p l) :
    Calls Try.prog 84 #[.agg #[.pointer p]] w fun e w' => e = .returned (.int .i64 (l.length : Int)) ∧ Below w.heap.size w w' := by
  obtain ⟨s, h1, rfl⟩ := h
  rw [Tr.size_toL]
  exact mlenI h1
theorem lnat {w : World} {p : Option Addr} {k i : Int} {l : List (Int × Int)} (h : IsLine w p ((k, i) :: l)) (hs : l.length < 5000) :
    Calls Try.prog 76 #[.agg #[.pointer p], .int .i64 0] w fun e w' => e = .returned (.tuple #[.int .i64 k, .int .i64 i, .bool true]) ∧ Below w.heap.size w w' := by
  obtain ⟨s, h1, h2⟩ := h
  have hz : s.size = l.length + 1 := by rw [← Tr.size_toL, h2]; rfl
  refine (matI 0 h1 (by omega) (by omega)).mono ?_
  rintro e w' ⟨rfl, u⟩
  obtain ⟨a, b, hn⟩ := Tr.nth_some s 0 (by rw [h2]; simp)
  rw [show ((0 : Nat) : Int) = 0 from rfl] at hn
  rw [hn]
  simp only [h2, List.getElem_cons_zero]
  exact ⟨rfl, u⟩
end Go.Proofs.Ytbgnedeeeaapfaa
