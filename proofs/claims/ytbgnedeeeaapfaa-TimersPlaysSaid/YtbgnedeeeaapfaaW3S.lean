/-
  What Set, After, Cancel and Move do with a wheel of strings in memory.
-/
import Derived.Test.YtbgnedeeeaapfaaW2S
namespace Go.Proofs.Ytbgnedeeeaapfaa
open Go.RowKit Go.Maps
set_option linter.unusedVariables false
/-- A field of the wheel is stored into. -/
theorem IsWS.ids {w : World} {a mb : Nat} {cv : Value} {tn : Bool} {x : Wh} (h : IsWS w a mb cv tn x) (hi : x.ids < 400000) : IsWS (w.setCell ⟨a, 1, none⟩ (.int .i64 (x.ids + 1))) a mb cv tn { x with ids := x.ids + 1 } := by
  obtain ⟨p, y, G, hG, hL⟩ := h.lay
  refine ⟨⟨p, ?_, G, hG.hold (.setCell y (by decide) (by decide)), hL⟩, h.map.same (Below.heap_setCell _ _ _ _ (fun e => h.ne e.symm)), h.good.more hi, h.vals⟩
  have := setCellB (j := 1) (u := .int .i64 (x.ids + 1)) y
  simpa using this
set_option maxRecDepth 100000 in
set_option maxHeartbeats 1600000 in
theorem setS {w : World} {a mb : Nat} {cv : Value} {tn : Bool} {x : Wh} (h : IsWS w a mb cv tn x) (k : Int) (s : ByteArray) (hi : x.ids < 400000) (hp : x.pls < 400000) (hk : k ≤ maxI) :
    Calls Try.prog 40 #[.pointer (some ⟨a, 0, none⟩), .int .i64 k, .string s] w fun e w' => e = .returned (.tuple #[.int .i64 (setP x k (.string s)).2.1, .int .i64 (setP x k (.string s)).2.2]) ∧ IsWS w' a mb cv tn (setP x k (.string s)).1 ∧ Touch (OwnW a mb) w w' := by
  obtain ⟨p, c0, c1, c2, c3, c4, c5, c6, cf, _⟩ := h.cells
  have HX := Lib.hid h
  by_cases h1 : k ≤ x.now
  · rw [setP_past h1]
    clear h c1 c2 c3 c4 c5 c6 cf
    go_enter Try.func40, Try.ntmps40
    go_wp2_with fail
    go_returns
    exact ⟨rfl, HX.out, Touch.refl _ _⟩
  · by_cases h2 : 4096 ≤ x.ts.length
    · rw [setP_many h1 h2]
      have hd : decide (k ≤ x.now) = false := by simpa using h1
      have hd2 : decide ((4096 : Int) ≤ (x.ts.length : Int)) = true := by simp; omega
      clear h c1 c2 c3 c4 c5 c6 cf
      go_enter Try.func40, Try.ntmps40
      go_wp2_with fail
      refine (lenS HX.out).mono ?_
      rintro e w1 ⟨rfl, rfl⟩
      go_wp2_with fail
      go_returns
      exact ⟨rfl, HX.out, Touch.refl _ _⟩
    · rw [setP_ok h1 h2]
      have hd : decide (k ≤ x.now) = false := by simpa using h1
      have hd2 : decide ((4096 : Int) ≤ (x.ts.length : Int)) = false := by simp; omega
      have f1 : w.frozen? ⟨a, 1, none⟩ = false := by obtain ⟨p', y, _⟩ := h.lay; exact frozenB y
      have hw : IntKind.i64.wrap (x.ids + 1) = x.ids + 1 := IntWalk.i64_in _ (by have := h.good.ids0; omega)
      have HS := Lib.hid (h.ids hi)
      have HP := Lib.hid (show x.now ≤ k ∧ k ≤ maxI ∧ x.ts.length < 4096 ∧ x.pls < 400000 ∧ 0 ≤ x.ids from ⟨by omega, hk, by omega, hp, h.good.ids0⟩)
      have HF := Lib.hid (fun t (ht : t ∈ x.ts) => (show t.id ≠ x.ids by have := (h.good.per t ht).2.2.2.1; omega))
      clear h c2 c3 c4 c5 c6 cf h1 h2 hi hp hk
      go_enter Try.func40, Try.ntmps40
      go_wp2_with fail
      refine (lenS HX.out).mono ?_
      rintro e w1 ⟨rfl, rfl⟩
      go_wp2_with fail
      have T1 := Lib.hid (touch_set w a 1 (.int .i64 (x.ids + 1)) (OwnW a mb) (.inl rfl))
      generalize (w.setCell ⟨a, 1, none⟩ (.int .i64 (x.ids + 1))) = W1 at *
      refine (layS (id := x.ids) (at' := k) HS.out s HF.out HP.out.2.2.2.2 (by simp only; omega) HP.out.1 HP.out.2.1 HP.out.2.2.1 HP.out.2.2.2.1).mono ?_
      rintro e w2 ⟨rfl, h2, t2⟩
      have H2 := Lib.hid h2
      have T2 := Lib.hid t2
      clear h2 t2
      go_wp2_with fail
      go_returns
      exact ⟨rfl, H2.out, T1.out.trans T2.out⟩
set_option maxRecDepth 100000 in
set_option maxHeartbeats 1600000 in
theorem afterS {w : World} {a mb : Nat} {cv : Value} {tn : Bool} {x : Wh} (h : IsWS w a mb cv tn x) (n : Int) (s : ByteArray) (hi : x.ids < 400000) (hp : x.pls < 400000) :
    Calls Try.prog 17 #[.pointer (some ⟨a, 0, none⟩), .int .i64 n, .string s] w fun e w' => e = .returned (.tuple #[.int .i64 (afterP x n (.string s)).2.1, .int .i64 (afterP x n (.string s)).2.2]) ∧ IsWS w' a mb cv tn (afterP x n (.string s)).1 ∧ Touch (OwnW a mb) w w' := by
  obtain ⟨p, c0, c1, c2, c3, c4, c5, c6, cf, _⟩ := h.cells
  have HX := Lib.hid h
  by_cases h1 : n < 1
  · rw [afterP_no (.inl h1)]
    have hd : decide (n < 1) = true := by simpa using h1
    clear h c1 c2 c3 c4 c5 c6 cf
    go_enter Try.func17, Try.ntmps17
    go_wp2_with fail
    go_returns
    exact ⟨rfl, HX.out, Touch.refl _ _⟩
  · have hd : decide (n < 1) = false := by simpa using h1
    by_cases h2 : maxI - x.now < n
    · rw [afterP_no (.inr h2)]
      have HD := Lib.hid (show decide (maxI - x.now < n) = true by simpa using h2)
      clear h c1 c2 c3 c4 c5 c6 cf
      go_enter Try.func17, Try.ntmps17
      go_wp2_with fail
      refine (farS HX.out n).mono ?_
      rintro e w1 ⟨rfl, rfl⟩
      rw [HD.out]
      go_wp2_with fail
      go_returns
      exact ⟨rfl, HX.out, Touch.refl _ _⟩
    · rw [afterP_ok (fun e => e.elim h1 h2)]
      have HD := Lib.hid (show decide (maxI - x.now < n) = false by simpa using h2)
      have HP := Lib.hid (show x.now + n ≤ maxI by omega)
      have hw : IntKind.i64.wrap (x.now + n) = x.now + n := IntWalk.i64_in _ (by have := h.good.now0; unfold maxI at h2; omega)
      have HI := Lib.hid hi
      have HPP := Lib.hid hp
      clear h c1 c2 c3 c4 c5 c6 cf h1 h2
      go_enter Try.func17, Try.ntmps17
      go_wp2_with fail
      refine (farS HX.out n).mono ?_
      rintro e w1 ⟨rfl, rfl⟩
      rw [HD.out]
      go_wp2_with fail
      refine (setS HX.out (x.now + n) s HI.out HPP.out HP.out).mono ?_
      rintro e w2 ⟨rfl, h2, t2⟩
      have H2 := Lib.hid h2
      have T2 := Lib.hid t2
      clear h2 t2
      go_wp2_with fail
      go_returns
      exact ⟨rfl, H2.out, T2.out⟩
def valPS (x : Wh) (i : Int) : Value := match fnd x.ts i with
  | none => .string ⟨#[]⟩
  | some t => t.v
set_option maxRecDepth 100000 in
set_option maxHeartbeats 1600000 in
theorem cancelS {w : World} {a mb : Nat} {cv : Value} {tn : Bool} {x : Wh} (h : IsWS w a mb cv tn x) {i : Int} (hi : i64R i) :
    Calls Try.prog 45 #[.pointer (some ⟨a, 0, none⟩), .int .i64 i] w fun e w' => e = .returned (.tuple #[valPS x i, .bool (fnd x.ts i).isSome]) ∧ IsWS w' a mb cv tn (takeP x i) ∧ Touch (OwnW a mb) w w' := by
  have hf := findS h hi
  have HX := Lib.hid h
  cases e : fnd x.ts i with
  | none =>
    have ex : takeP x i = x := by unfold takeP; rw [out_none e]
    have ev : valPS x i = .string ⟨#[]⟩ := by unfold valPS; rw [e]
    have et : tmAt ZS x.ts i = ZS := by unfold tmAt; rw [e]; rfl
    rw [et, e] at hf
    rw [ex, ev]
    have HF := Lib.hid hf
    clear h hf e ex ev et
    go_enter Try.func45, Try.ntmps45
    go_wp2_with fail
    refine HF.out.mono ?_
    rintro e w1 ⟨rfl, u1⟩
    simp only [Option.isSome_none]
    have b1 : Below w.heap.size w (w1.alloc (.cells #[.string ⟨#[]⟩, .int .i64 0, .int .i64 0] TmTS)) := u1.alloc u1.size _
    have z := cellB (j := 0) (heap_alloc_new w1 (.cells #[.string ⟨#[]⟩, .int .i64 0, .int .i64 0] TmTS)) rfl
    have B1 := Lib.hid b1
    clear u1 b1
    go_wp2_with fail
    go_returns
    exact ⟨rfl, HX.out.below B1.out, touch_of_below B1.out _⟩
  | some t =>
    obtain ⟨ht, rfl⟩ := fnd_some e
    obtain ⟨s, hs⟩ := h.vals t ht
    have ev : valPS x t.id = .string s := by unfold valPS; rw [e, ← hs]
    have et : tmAt ZS x.ts t.id = .agg #[.string s, .int .i64 t.tk, .int .i64 t.pl] := by unfold tmAt; rw [e]; simp only [Option.map_some, Option.getD_some, tmV, hs]
    rw [et, e] at hf
    rw [ev]
    have HF := Lib.hid hf
    have HT := Lib.hid ht
    have HS := Lib.hid hs
    clear h hf e ev et ht hs
    go_enter Try.func45, Try.ntmps45
    go_wp2_with fail
    refine HF.out.mono ?_
    rintro e w1 ⟨rfl, u1⟩
    simp only [Option.isSome_some]
    have b1 : Below w.heap.size w (w1.alloc (.cells #[.string s, .int .i64 t.tk, .int .i64 t.pl] TmTS)) := u1.alloc u1.size _
    have z := heap_alloc_new w1 (.cells #[.string s, .int .i64 t.tk, .int .i64 t.pl] TmTS)
    have z0 := cellB (j := 0) z rfl
    have z1 := cellB (j := 1) z rfl
    have z2 := cellB (j := 2) z rfl
    have HZ : Hid (w1.heap.size < (w1.alloc (.cells #[.string s, .int .i64 t.tk, .int .i64 t.pl] TmTS)).heap.size ∧ w.heap.size ≤ w1.heap.size) := Lib.hid ⟨by simp, u1.size⟩
    have ZB := Lib.hid z
    have B1 := Lib.hid b1
    clear u1 b1 z
    go_wp2_with fail
    generalize (w1.alloc (.cells #[.string s, .int .i64 t.tk, .int .i64 t.pl] TmTS)) = W1 at *
    refine (takeS (HX.out.below B1.out) HT.out s HS.out).mono ?_
    rintro e w2 ⟨rfl, h2, t2⟩
    have y0 := cellB (j := 0) ((t2.block _ HZ.out.1 (by have := HX.out.lt; have := HX.out.map.lt; have := HZ.out.2; rintro (e | e) <;> omega)).trans ZB.out) rfl
    have H2 := Lib.hid h2
    have T2 := Lib.hid t2
    clear h2 t2 z0 z1 z2
    go_wp2_with fail
    go_returns
    exact ⟨rfl, H2.out, (touch_of_below B1.out _).trans T2.out⟩
set_option maxRecDepth 100000 in
set_option maxHeartbeats 1600000 in
theorem moveS {w : World} {a mb : Nat} {cv : Value} {tn : Bool} {x : Wh} (h : IsWS w a mb cv tn x) {i k : Int} (hi : i64R i) (hk : k ≤ maxI) (hp : x.pls < 400000) :
    Calls Try.prog 47 #[.pointer (some ⟨a, 0, none⟩), .int .i64 i, .int .i64 k] w fun e w' => e = .returned (.int .i64 (moveP x i k).2) ∧ IsWS w' a mb cv tn (moveP x i k).1 ∧ Touch (OwnW a mb) w w' := by
  have hf := findS h hi
  have HX := Lib.hid h
  cases e : fnd x.ts i with
  | none =>
    have ex : moveP x i k = (x, 7) := by unfold moveP; rw [e]
    have et : tmAt ZS x.ts i = ZS := by unfold tmAt; rw [e]; rfl
    rw [et, e] at hf
    rw [ex]
    have HF := Lib.hid hf
    clear h hf e ex et
    go_enter Try.func47, Try.ntmps47
    go_wp2_with fail
    refine HF.out.mono ?_
    rintro e w1 ⟨rfl, u1⟩
    simp only [Option.isSome_none]
    have b1 : Below w.heap.size w (w1.alloc (.cells #[.string ⟨#[]⟩, .int .i64 0, .int .i64 0] TmTS)) := u1.alloc u1.size _
    have B1 := Lib.hid b1
    clear u1 b1
    go_wp2_with fail
    go_returns
    exact ⟨rfl, HX.out.below B1.out, touch_of_below B1.out _⟩
  | some t =>
    obtain ⟨ht, rfl⟩ := fnd_some e
    obtain ⟨s, hs⟩ := h.vals t ht
    have et : tmAt ZS x.ts t.id = .agg #[.string s, .int .i64 t.tk, .int .i64 t.pl] := by unfold tmAt; rw [e]; simp only [Option.map_some, Option.getD_some, tmV, hs]
    rw [et, e] at hf
    have HF := Lib.hid hf
    have HT := Lib.hid ht
    have HS := Lib.hid hs
    by_cases h1 : k ≤ x.now
    · have ex : moveP x t.id k = (x, 140) := by unfold moveP; rw [e]; simp only [if_pos h1]
      rw [ex]
      clear h hf e et ht hs ex
      go_enter Try.func47, Try.ntmps47
      go_wp2_with fail
      refine HF.out.mono ?_
      rintro e w1 ⟨rfl, u1⟩
      simp only [Option.isSome_some]
      have b1 : Below w.heap.size w (w1.alloc (.cells #[.string s, .int .i64 t.tk, .int .i64 t.pl] TmTS)) := u1.alloc u1.size _
      obtain ⟨p, c0, _⟩ := (HX.out.below b1).cells
      have B1 := Lib.hid b1
      clear u1 b1
      go_wp2_with fail
      go_returns
      exact ⟨rfl, HX.out.below B1.out, touch_of_below B1.out _⟩
    · have ex : moveP x t.id k = (layP (takeP x t.id) t.id k t.v, 0) := by unfold moveP; rw [e]; simp only [if_neg h1]
      rw [ex, hs]
      have hd : decide (k ≤ x.now) = false := by simpa using h1
      have hper := h.good.per t ht
      have hol := out_len h.good.nd ht
      have hgl := h.good.len
      have HP := Lib.hid (show 0 ≤ t.id ∧ t.id < x.ids ∧ x.now ≤ k ∧ k ≤ maxI ∧ (out x.ts t.id).length < 4096 ∧ x.pls < 400000 from ⟨by omega, by omega, by omega, hk, by omega, hp⟩)
      clear h hf e et ht hs ex h1 hper hol hgl
      go_enter Try.func47, Try.ntmps47
      go_wp2_with fail
      refine HF.out.mono ?_
      rintro e w1 ⟨rfl, u1⟩
      simp only [Option.isSome_some]
      have b1 : Below w.heap.size w (w1.alloc (.cells #[.string s, .int .i64 t.tk, .int .i64 t.pl] TmTS)) := u1.alloc u1.size _
      obtain ⟨p, c0, _⟩ := (HX.out.below b1).cells
      have z := heap_alloc_new w1 (.cells #[.string s, .int .i64 t.tk, .int .i64 t.pl] TmTS)
      have z0 := cellB (j := 0) z rfl
      have z1 := cellB (j := 1) z rfl
      have z2 := cellB (j := 2) z rfl
      have HZ : Hid (w1.heap.size < (w1.alloc (.cells #[.string s, .int .i64 t.tk, .int .i64 t.pl] TmTS)).heap.size ∧ w.heap.size ≤ w1.heap.size) := Lib.hid ⟨by simp, u1.size⟩
      have ZB := Lib.hid z
      have B1 := Lib.hid b1
      clear u1 b1 z
      go_wp2_with fail
      generalize (w1.alloc (.cells #[.string s, .int .i64 t.tk, .int .i64 t.pl] TmTS)) = W1 at *
      refine (takeS (HX.out.below B1.out) HT.out s HS.out).mono ?_
      rintro e w2 ⟨rfl, h2, t2⟩
      have y0 := cellB (j := 0) ((t2.block _ HZ.out.1 (by have := HX.out.lt; have := HX.out.map.lt; have := HZ.out.2; rintro (e | e) <;> omega)).trans ZB.out) rfl
      have H2 := Lib.hid h2
      have T2 := Lib.hid t2
      clear h2 t2 z0 z1 z2 c0
      go_wp2_with fail
      refine (layS (id := t.id) (at' := k) H2.out s (fun u hu => (mem_out.1 hu).2) HP.out.1 HP.out.2.1 HP.out.2.2.1 HP.out.2.2.2.1 HP.out.2.2.2.2.1 HP.out.2.2.2.2.2).mono ?_
      rintro e w3 ⟨rfl, h3, t3⟩
      have H3 := Lib.hid h3
      have T3 := Lib.hid t3
      clear h3 t3
      go_wp2_with fail
      go_returns
      exact ⟨rfl, H3.out, ((touch_of_below B1.out _).trans T2.out).trans T3.out⟩
end Go.Proofs.Ytbgnedeeeaapfaa
