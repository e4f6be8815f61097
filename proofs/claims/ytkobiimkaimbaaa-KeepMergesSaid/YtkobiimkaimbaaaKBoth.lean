/-
  What the map and the document's own list both tell: of a key, of a number.
-/
import Derived.Test.YtkobiimkaimbaaaKRefH
import Derived.Test.YtkobiimkaimbaaaKSameE
import Derived.Test.YtkobiimkaimbaaaKEnts
namespace Go.Proofs.Ytkobiimkaimbaaa
open Go.RowKit
set_option linter.unusedVariables false

def gv (l : List Ent) (k : ByteArray) : Int × Bool := match atKey l k with
  | [] => (0, false)
  | a :: _ => (a.2, true)
def fv (l : List Ent) (k : ByteArray) : Ent × Bool := match atKey l k with
  | [] => (entV (atI l ((rk l k : Int) - 1)), (atI l ((rk l k : Int) - 1)).isSome)
  | a :: _ => ((k, a.2), true)

theorem rank_rk (t : Tr ByteArray Int) (k : ByteArray) (h : Srt t.toL) : Tr.rank t k = rk t.toL k := by
  rw [Tr.rank_below t k h, rk_below _ k h]

theorem told_atI (t : Tr ByteArray Int) (i : Int) : toldVS (Tr.nth t i) = .tuple #[.string (entV (atI t.toL i)).1, .int .i64 (entV (atI t.toL i)).2, .bool (atI t.toL i).isSome] := by
  by_cases h : 0 ≤ i ∧ i < t.toL.length
  · obtain ⟨n, rfl⟩ := Int.eq_ofNat_of_zero_le h.1
    have hn : n < t.toL.length := by omega
    obtain ⟨l, r, e⟩ := Tr.nth_some t n hn
    rw [e, atI_nat, List.getElem?_eq_getElem hn]
    rfl
  · have e : atI t.toL i = none := by
      unfold atI
      split
      · rw [List.getElem?_eq_none]; omega
      · rfl
    rw [e, Tr.nth_none t i (by rw [Tr.size_toL] at h; omega)]
    rfl

/-- At a key's rank: its own entry, or that of another, or none. -/
theorem at_rk {l : List Ent} (k : ByteArray) (h : Srt l) :
    (∃ ev, atKey l k = [(k, ev)] ∧ atI l (rk l k) = some (k, ev)) ∨ (atKey l k = [] ∧ (atI l (rk l k) = none ∨ ∃ c ev, atI l (rk l k) = some (c, ev) ∧ c ≠ k)) := by
  have hp := h.parts k
  have hs := atKey_short h k
  have hr := rk_below l k h
  have hx : atI l (rk l k) = (atKey l k ++ above l k)[0]? := by
    rw [atI_nat, hr]
    conv => lhs; arg 1; rw [hp]
    rw [List.getElem?_append_right (Nat.le_refl _), Nat.sub_self]
  cases e : atKey l k with
  | nil =>
    refine .inr ⟨rfl, ?_⟩
    rw [hx, e]
    cases ea : above l k with
    | nil => exact .inl rfl
    | cons a r =>
      refine .inr ⟨a.1, a.2, rfl, fun hc => ?_⟩
      have := (mem_above.1 (show a ∈ above l k by rw [ea]; simp)).2
      rw [hc, KOrd.irr] at this
      cases this
  | cons a r =>
    rw [e] at hs
    have hr0 : r = [] := by
      cases r with
      | nil => rfl
      | cons => simp at hs
    subst hr0
    have ha := (mem_atKey.1 (show a ∈ atKey l k by rw [e]; simp)).2
    refine .inl ⟨a.2, by rw [← ha], ?_⟩
    rw [hx, e, ← ha]
    rfl

section
variable {w : World} {p : Option Addr} {t : Tr ByteArray Int} {v : Value} {l : List Ent}

theorem mget_any (k : ByteArray) (h : IsTS w (.pointer p) t) (ho : Srt t.toL) :
    Calls Try.prog 69 #[.agg #[.pointer p], .string k] w fun e w' => e = .returned (.tuple #[.int .i64 (gv t.toL k).1, .bool (gv t.toL k).2]) ∧ Below w.heap.size w w' := by
  rcases Tr.find_atKey t k ho with ⟨e, ha⟩ | ⟨tl, tv, tr, e, ha⟩
  · unfold gv; rw [ha]; exact mget_no k h e
  · unfold gv; rw [ha]; exact mget_yes k h e

theorem rget_any (k : ByteArray) (h : Row w 2 v l.length (ents l)) (hl : l.length < 1000000) (ho : Srt l) :
    Calls Try.prog 29 #[v, .string k] w fun e w' => e = .returned (.tuple #[.int .i64 (gv l k).1, .bool (gv l k).2]) ∧ Below w.heap.size w w' := by
  rcases at_rk k ho with ⟨ev, ha, hb⟩ | ⟨ha, hb | ⟨c, ev, hb, hc⟩⟩
  · unfold gv; rw [ha]; exact rget_yes k h hl hb
  · unfold gv; rw [ha]; exact rget_none k h hl hb
  · unfold gv; rw [ha]; exact rget_other k h hl hb hc

theorem mfloor_any (k : ByteArray) (h : IsTS w (.pointer p) t) (hs : t.size < 1000000) (ho : Srt t.toL) :
    Calls Try.prog 67 #[.agg #[.pointer p], .string k] w fun e w' => e = .returned (.tuple #[.string (fv t.toL k).1.1, .int .i64 (fv t.toL k).1.2, .bool (fv t.toL k).2]) ∧ Below w.heap.size w w' := by
  rcases Tr.find_atKey t k ho with ⟨e, ha⟩ | ⟨tl, tv, tr, e, ha⟩
  · unfold fv; rw [ha]
    have := mfloor_at k h hs e
    rw [told_atI, rank_rk t k ho] at this
    exact this
  · unfold fv; rw [ha]; exact mfloor_there k h e

theorem rfloor_any (k : ByteArray) (h : Row w 2 v l.length (ents l)) (hl : l.length < 1000000) (ho : Srt l) :
    Calls Try.prog 82 #[v, .string k] w fun e w' => e = .returned (.tuple #[.agg #[.string (fv l k).1.1, .int .i64 (fv l k).1.2], .bool (fv l k).2]) ∧ Below w.heap.size w w' := by
  rcases at_rk k ho with ⟨ev, ha, hb⟩ | ⟨ha, hb | ⟨c, ev, hb, hc⟩⟩
  · unfold fv; rw [ha]; exact rfloor_yes k h hl hb
  · unfold fv; rw [ha]; exact rfloor_none k h hl hb
  · unfold fv; rw [ha]; exact rfloor_other k h hl hb hc

theorem mceil_any (k : ByteArray) (h : IsTS w (.pointer p) t) (hs : t.size < 1000000) (ho : Srt t.toL) :
    Calls Try.prog 68 #[.agg #[.pointer p], .string k] w fun e w' => e = .returned (.tuple #[.string (entV (atI t.toL (rk t.toL k))).1, .int .i64 (entV (atI t.toL (rk t.toL k))).2, .bool (atI t.toL (rk t.toL k)).isSome]) ∧ Below w.heap.size w w' := by
  have := mceil_at k h hs
  rw [told_atI, rank_rk t k ho] at this
  exact this

theorem mat_any (i : Int) (h : IsTS w (.pointer p) t) (hs : t.size < 1000000) (hi : -9223372036854775808 ≤ i ∧ i ≤ 9223372036854775807) :
    Calls Try.prog 65 #[.agg #[.pointer p], .int .i64 i] w fun e w' => e = .returned (.tuple #[.string (entV (atI t.toL i)).1, .int .i64 (entV (atI t.toL i)).2, .bool (atI t.toL i).isSome]) ∧ Below w.heap.size w w' := by
  have := matS i h hs hi
  rw [told_atI] at this
  exact this

theorem mrank_any (k : ByteArray) (h : IsTS w (.pointer p) t) (hs : t.size < 1000000) (ho : Srt t.toL) :
    Calls Try.prog 66 #[.agg #[.pointer p], .string k] w fun e w' => e = .returned (.int .i64 (rk t.toL k : Int)) ∧ Below w.heap.size w w' := by
  have := mrank k h hs
  rw [rank_rk t k ho] at this
  exact this
end
end Go.Proofs.Ytkobiimkaimbaaa
