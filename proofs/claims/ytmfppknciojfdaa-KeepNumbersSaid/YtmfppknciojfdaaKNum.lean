/-
  The walk of KeepNumbers.
-/
import Derived.Test.YtmfppknciojfdaaKNumP
namespace Go.Proofs.Ytmfppknciojfdaa
open Go.RowKit Go.Maps
set_option linter.unusedVariables false

theorem own_frame {w w' : World} {base n size : Nat} {e : TypeId} {v : Value} {xs : List Value} (h : w.ownsRow base e size v n xs) (hf : ∀ g, v.ownBlock = some g → w'.heap[g]? = w.heap[g]?) : w'.ownsRow base e size v n xs := by
  obtain ⟨h1, h2⟩ := h
  refine ⟨h1, ?_⟩
  rcases h2 with h2 | ⟨g, cap, cur, rfl, hb, hg', rest⟩
  · exact .inl h2
  · exact .inr ⟨g, cap, cur, rfl, hb, (hf g rfl).trans hg', rest⟩
theorem IsIn.kept {w w' : World} {B a b : Nat} {v : Value} {ws : List ByteArray} {row : Option Nat} (h : IsIn w B a b v ws) (hg : w.grownBy w' row) (hr : ∀ r, row = some r → r ≠ a ∧ r ≠ b ∧ v.ownBlock ≠ some r) : IsIn w' B a b v ws := by
  obtain ⟨D, ho, hd⟩ := h.dict
  refine ⟨?_, h.ga, h.gb, own_frame h.row (fun g hg' => ?_), D, ho.kept hg (fun e => (hr b e.symm).2.1 rfl), hd⟩
  · rw [hg.block a (Array.getElem?_eq_some_iff.1 h.lay).1 (fun e => (hr a e.symm).1 rfl)]; exact h.lay
  · obtain ⟨_, cur, hc⟩ := own_type h.row hg'
    exact hg.block g (Array.getElem?_eq_some_iff.1 hc).1 (fun e => (hr g e.symm).2.2 hg')
theorem IsIn.parts {w : World} {B a b : Nat} {v : Value} {ws : List ByteArray} (h : IsIn w B a b v ws) {u : Value} {n : Nat} {xs : List Value} {base : Nat} (ho : w.ownsRow base 9 1 u n xs) {g : Nat} (hg : u.ownBlock = some g) : g ≠ a ∧ g ≠ b ∧ g < w.heap.size := by
  obtain ⟨_, cur, hc⟩ := own_type ho hg
  refine ⟨?_, ?_, (Array.getElem?_eq_some_iff.1 hc).1⟩
  · rintro rfl
    rw [h.lay] at hc
    simp only [Option.some.injEq, Obj.cells.injEq] at hc
    exact absurd hc.2.1 (by decide)
  · rintro rfl
    obtain ⟨D, ho, _⟩ := h.dict
    obtain ⟨es, clock, hb, _⟩ := ho
    rw [hc] at hb
    cases hb

set_option maxRecDepth 100000 in
set_option maxHeartbeats 6400000 in
/-- Too many: the program lives. -/
theorem num_long {w : World} {v : Value} {l : List ByteArray} {ask : ByteArray} {i : Int} (h : Row w 1 v l.length (strs l)) (hm : l.length ≤ maxLen) (hl : 80 < l.length) :
    Calls Try.prog 11 #[v, .string ask, .int .i64 i] w fun e w' => e = .returned (.bool true) ∧ Below w.heap.size w w' := by
  obtain ⟨aa, ca, rfl, xa⟩ := h.at
  have XA := Lib.hid xa
  unfold maxLen at hm
  clear h xa
  go_enter Try.func11, Try.ntmps11
  go_wp2_with fail
  go_loop [8, 7] (fun u n => ∃ (k : Nat) (acc : Int), u = .int .i64 (k : Int) ∧ n = .int .i64 acc ∧ k ≤ 81) (fun u _ => 82 - (intOf u).toNat)
  case atStart => exact ⟨0, 0, rfl, rfl, by omega⟩
  case round =>
    obtain ⟨k, acc, rfl, rfl, hk⟩ := hrel
    by_cases hlt : k ≤ 80
    · obtain ⟨b1, o1, rfl, q1⟩ := XA.out (by omega)
      have c1 := q1 k _ (strs_at l k (by omega))
      clear q1 XA
      generalize l[k]'(by omega) = x at *
      have hk0 : (0 : Int) ≤ (k : Int) := by omega
      have hk1 : (k : Int) < (l.length : Int) := by omega
      have hk2 : (k : Int) ≤ 80 := by omega
      go_wp2_with fail
      go_round
      case rel => exact ⟨k + 1, _, by go_num, rfl, by omega⟩
      case measure => simp [intOf]; omega
    · obtain rfl : k = 81 := by omega
      clear hlt XA
      by_cases h82 : 81 < l.length
      · have h82' : (81 : Int) < (l.length : Int) := by omega
        go_wp2_with fail
        refine (live_any _).mono ?_
        rintro e w1 ⟨rfl, u1⟩
        have HU := Lib.hid u1
        clear u1
        go_wp2_with fail
        go_returns
        exact ⟨rfl, HU.out⟩
      · have h83 : l.length = 81 := by omega
        go_wp2_with fail
        refine (live_any _).mono ?_
        rintro e w1 ⟨rfl, u1⟩
        have HU := Lib.hid u1
        clear u1
        go_wp2_with fail
        go_returns
        exact ⟨rfl, HU.out⟩

/-- How the table and the law's own list stand to one another. -/
structure Two (w0 w : World) (B a b : Nat) (v u : Value) (ws : List ByteArray) : Prop where
  tab : IsIn w B a b v ws
  own : w.ownsRow w0.heap.size 9 1 u ws.length (strs ws)
  apart : ∀ g, u.ownBlock = some g → v.ownBlock ≠ some g
  below : Below w0.heap.size w0 w
  base : w0.heap.size ≤ B
  dup : ws.Nodup
  len : ∀ s ∈ ws, s.size ≤ maxLen

theorem Two.old {w0 w w' : World} {B a b : Nat} {v u : Value} {ws : List ByteArray} {n : Nat} {e : Ending} (h : Two w0 w B a b v u ws) (hp : OfPost w B a b v ws ws n e w') : ∃ v', Two w0 w' B a b v' u ws := by
  obtain ⟨_, h1, h2, v', h3, h4⟩ := hp
  refine ⟨v', h3, own_frame h.own (fun g hg => ?_), fun g hg => ?_, h.below.trans (Below.mono h1 h.base), h.base, h.dup, h.len⟩
  · obtain ⟨p1, p2, p3⟩ := h.tab.parts h.own hg
    exact h2 g p3 p1 p2 (h.apart g hg)
  · rcases h4 with h4 | ⟨g', h4, h5⟩
    · rw [h4]; exact h.apart g hg
    · rw [h4]
      intro e
      obtain ⟨_, _, p3⟩ := h.tab.parts h.own hg
      have := Option.some.inj e
      omega
theorem Two.new {w0 w w1 w' : World} {B a b : Nat} {v u u' : Value} {ws : List ByteArray} {s : ByteArray} {n : Nat} {e : Ending} (h : Two w0 w B a b v u ws) (hs : s ∉ ws) (hz : s.size ≤ maxLen)
    (hb : Below w.heap.size w w1) (ho : w1.ownsRow w0.heap.size 9 1 u (ws.length) (strs ws))
    {w2 : World} (ho2 : w2.ownsRow w0.heap.size 9 1 u' (ws.length + 1) (strs ws ++ [.string s])) (hg : w1.grownBy w2 u.ownBlock) (hu : u'.ownBlock = u.ownBlock ∨ u'.ownBlock = some w1.heap.size)
    (hp : OfPost w2 B a b v ws (ws ++ [s]) n e w') (hB : B ≤ w.heap.size) : ∃ v', Two w0 w' B a b v' u' (ws ++ [s]) := by
  obtain ⟨_, h1, h2, v', h3, h4⟩ := hp
  have hrow : strs (ws ++ [s]) = strs ws ++ [.string s] := by simp [strs]
  have hva : ∀ g, u'.ownBlock = some g → g ≠ a ∧ g ≠ b ∧ v.ownBlock ≠ some g ∧ g < w2.heap.size := fun g hg' => by
    obtain ⟨_, cur, hc⟩ := own_type ho2 hg'
    have hlt := (Array.getElem?_eq_some_iff.1 hc).1
    rcases hu with hu | hu
    · rw [hu] at hg'
      obtain ⟨p1, p2, p3⟩ := h.tab.parts h.own hg'
      exact ⟨p1, p2, h.apart g hg', hlt⟩
    · rw [hu] at hg'
      have hge : w.heap.size ≤ g := by rw [← Option.some.inj hg']; exact hb.size
      have ha := (Array.getElem?_eq_some_iff.1 h.tab.lay).1
      obtain ⟨D, hD, _⟩ := h.tab.dict
      have hbl := hD.lt
      refine ⟨by omega, by omega, fun e => ?_, hlt⟩
      obtain ⟨_, cur2, hc2⟩ := own_type h.tab.row e
      have := (Array.getElem?_eq_some_iff.1 hc2).1
      omega
  refine ⟨v', h3, ?_, fun g hg' => ?_, ?_, h.base, ?_, ?_⟩
  · have := own_frame ho2 (fun g hg' => h2 g (hva g hg').2.2.2 (hva g hg').1 (hva g hg').2.1 (hva g hg').2.2.1)
    rw [hrow]
    simpa using this
  · rcases h4 with h4 | ⟨g', h4, h5⟩
    · rw [h4]; exact (hva g hg').2.2.1
    · rw [h4]
      intro e
      have := Option.some.inj e
      have := (hva g hg').2.2.2
      omega
  · have b1 : Below w0.heap.size w0 w1 := h.below.trans (hb.mono h.below.size)
    have b2 : Below w0.heap.size w0 w2 := b1.trans (grown_below hg b1.size (fun k e => (own_type ho e).1))
    exact b2.trans (Below.mono h1 h.base)
  · rw [List.nodup_append]
    refine ⟨h.dup, by simp, fun x hx y hy e => ?_⟩
    simp at hy
    subst hy
    subst e
    exact hs hx
  · intro x hx
    rcases List.mem_append.1 hx with hx | hx
    · exact h.len x hx
    · simp at hx; subst hx; exact hz

end Go.Proofs.Ytmfppknciojfdaa
