/-
  What Turn and Tick do with a wheel of strings that calls nobody.
-/
import Derived.Test.YtbgnedeeeaapfaaW2S
import Derived.Test.YtbgnedeeeaapfaaWApp
import Derived.Defers
import Derived.Deep.LoopGhost
namespace Go.Proofs.Ytbgnedeeeaapfaa
open Go.RowKit Go.Maps
set_option linter.unusedVariables false
abbrev ElTS : TypeId := 9
abbrev SlTS : TypeId := 44
theorem rowVS : (Try.prog.info? ElTS).map (fun i => (i.zero, i.size, i.bytes)) = some (some (.string ⟨#[]⟩ : Value), 1, 16) := by kernel_rfl
/-- append of one value to a row of the call's own. -/
theorem wpList_appS {w : World} {ops : Array Oper} {rest : List Oper} {o : Oper} {a : Act} {Q : Exit → Act → World → Prop} (hg : o.guard = none) (s x : Operand)
    (ho : o.op = .call { callee := .builtin .append, args := #[s, x], argTypes := #[SlTS, SlTS] })
    (base : Nat) (v : Value) (xs : List Value) (hs : a.eval s = v) (hown : w.ownsRow base ElTS 1 v xs.length xs) (b : Nat) (t : ByteArray) (hx : a.eval x = .slice (some ⟨b, 0, none⟩) 1 1) (hb : w.cell? ⟨b, 0, none⟩ = some (.string t))
    (hlen : xs.length ≤ 1000000) (hbase : base ≤ w.heap.size)
    (h : ∀ v' w', w'.ownsRow base ElTS 1 v' (xs ++ [(.string t : Value)]).length (xs ++ [(.string t : Value)]) → w.grownBy w' v.ownBlock → (v'.ownBlock = v.ownBlock ∨ v'.ownBlock = some w.heap.size) → wpList Try.prog ops Q rest (a.put o.dst v') w') : wpList Try.prog ops Q (o :: rest) a w := by
  obtain ⟨i0, hi, hz0, hz1, hz2⟩ := info_parts rowVS
  refine wpList_append_at w hg s x SlTS ho base ElTS i0 (.string ⟨#[]⟩) 1 16 Try.underlying44 hi hz0 hz1 hz2 rfl (by decide) v _ _ hs hown ⟨b, 0, none⟩ 1 1 [.string t] hx (by decide) rfl (fun j u hj => by
    cases j with
    | zero => simp at hj; subst hj; exact hb
    | succ j => simp at hj) (by simp; rfl) (by unfold maxLen; omega) (by omega) hbase ?_
  intro v' w' h6 h7 h8
  exact h v' w' (by simpa using h6) h7 h8
theorem IsWS.turn {w : World} {a mb : Nat} {cv : Value} {tn : Bool} {x : Wh} (h : IsWS w a mb cv tn x) (b : Bool) : IsWS (w.setCell ⟨a, 6, none⟩ (.bool b)) a mb cv b x := by
  obtain ⟨p, y, G, hG, hL⟩ := h.lay
  refine ⟨⟨p, ?_, G, hG.hold (.setCell y (by decide) (by decide)), hL⟩, h.map.same (Below.heap_setCell _ _ _ _ (fun e => h.ne e.symm)), h.good, h.vals⟩
  have := setCellB (j := 6) (u := .bool b) y
  simpa using this
theorem IsWS.at {w : World} {a mb : Nat} {cv : Value} {tn : Bool} {x : Wh} (h : IsWS w a mb cv tn x) {n : Int} (h1 : x.now ≤ n) (h2 : n ≤ maxI) (h3 : ∀ t ∈ x.ts, n ≤ t.tk) : IsWS (w.setCell ⟨a, 0, none⟩ (.int .i64 n)) a mb cv tn { x with now := n } := by
  obtain ⟨p, y, G, hG, hL⟩ := h.lay
  refine ⟨⟨p, ?_, G, hG.hold (.setCell y (by decide) (by decide)), hL⟩, h.map.same (Below.heap_setCell _ _ _ _ (fun e => h.ne e.symm)), h.good.at h1 h2 h3, h.vals⟩
  have := setCellB (j := 0) (u := .int .i64 n) y
  simpa using this
theorem IsWS.frz {w : World} {a mb : Nat} {cv : Value} {tn : Bool} {x : Wh} (h : IsWS w a mb cv tn x) (j : Nat) : w.frozen? ⟨a, j, none⟩ = false := by
  obtain ⟨p, y, _⟩ := h.lay
  exact frozenB y
set_option maxRecDepth 100000 in
set_option maxHeartbeats 1600000 in
/-- The first timer of all falls due. -/
theorem fallS {w : World} {a mb : Nat} {tn : Bool} {x : Wh} (h : IsWS w a mb (.slice none 0 0) tn x) {t : Tm} {ts : List Tm} (hts : x.ts = t :: ts) (s : ByteArray) (hs : t.v = .string s) :
    Calls Try.prog 56 #[.pointer (some ⟨a, 0, none⟩)] w fun e w' => e = .returned (.string s) ∧ IsWS w' a mb (.slice none 0 0) tn { x with ts := ts } ∧ Touch (fun k => k = a ∨ k = mb) w w' := by
  have ht : t ∈ x.ts := by rw [hts]; simp
  have hper := h.good.per t ht
  have hi : i64R t.id := by have := h.good.idM; unfold i64R; omega
  have hnd := h.good.nd
  have hout : takeP x t.id = { x with ts := ts } := by
    unfold takeP
    rw [hts] at hnd ⊢
    rw [out_head hnd]
  have hlen := h.good.len
  have hmap := h.map
  obtain ⟨p, c0, _, _, c3, c4, c5, _, _, G, hG, hL⟩ := h.cells
  have htm : tmAt ZS x.ts t.id = .agg #[.string s, .int .i64 t.tk, .int .i64 t.pl] := by
    unfold tmAt
    rw [fnd_mem hnd ht]
    simp only [Option.map_some, Option.getD_some, tmV, hs]
  have hgl := hL.glen
  have hll := hL.llen t.tk
  rw [hts] at hL hgl hll hlen
  obtain ⟨l, G', rfl⟩ := hL.head_of
  have hl5 : l.length < 5000 ∧ G'.length < 5000 := by
    have e : lineOf ((t.tk, (t.pl, t.id) :: l) :: G') t.tk = (t.pl, t.id) :: l := by
      rcases lineOf_cases hL.so t.tk with ⟨e1, _⟩ | ⟨_, e2⟩
      · have : ((t.tk, (t.pl, t.id) :: l) : Int × List (Int × Int)) ∈ atKey ((t.tk, (t.pl, t.id) :: l) :: G') t.tk := mem_atKey.2 ⟨by simp, rfl⟩
        rw [e1] at this; cases this
      · rcases List.mem_cons.1 e2 with e3 | e3
        · exact (Prod.mk.inj e3).2
        · have := (List.pairwise_cons.1 hL.so).1 _ e3
          rw [KOrd.irr] at this; cases this
    rw [e] at hll
    simp only [List.length_cons] at hll hgl hlen
    omega
  have HX := Lib.hid h
  have HG := Lib.hid hG
  have HL5 := Lib.hid hl5
  have HO := Lib.hid hout
  have HT := Lib.hid ht
  have HS := Lib.hid hs
  have HTM := Lib.hid htm
  have HI := Lib.hid hi
  clear h hG hL hper hnd hlen hgl hll htm hl5 hmap hout ht hs hts c0 c3 c5 hi
  go_enter Try.func56, Try.ntmps56
  go_wp2_with fail
  refine (tat_yes HG.out HL5.out.2).mono ?_
  rintro e w1 ⟨q, rfl, l1, u1⟩
  have b1 : Below w.heap.size w (w1.alloc (.cells #[.pointer q] MapN)) := u1.alloc u1.size _
  have z1 := cellB (j := 0) (heap_alloc_new w1 (.cells #[.pointer q] MapN)) rfl
  have L1 := Lib.hid (l1.below (w' := w1.alloc (.cells #[.pointer q] MapN)) ((Below.refl _ _).alloc (Nat.le_refl _) _))
  have B1 := Lib.hid b1
  clear l1 u1 b1 c4
  go_wp2_with fail
  generalize (w1.alloc (.cells #[.pointer q] MapN)) = W1 at *
  refine (lnat L1.out HL5.out.1).mono ?_
  rintro e w2 ⟨rfl, u2⟩
  have b2 := bmore B1.out u2
  have X2 := Lib.hid (HX.out.below b2)
  obtain ⟨p2, _, _, _, d3, _⟩ := X2.out.cells
  have hr := (X2.out.map.look underS (zeroS _) HI.out).2
  rw [HTM.out] at hr
  have b3 : Below w2.heap.size w2 (w2.alloc (.cells #[.string s, .int .i64 t.tk, .int .i64 t.pl] TmTS)) := (Below.refl _ _).alloc (Nat.le_refl _) _
  have z3 := heap_alloc_new w2 (.cells #[.string s, .int .i64 t.tk, .int .i64 t.pl] TmTS)
  have y0 := cellB (j := 0) z3 rfl
  have y1 := cellB (j := 1) z3 rfl
  have y2 := cellB (j := 2) z3 rfl
  have X3 := Lib.hid (X2.out.below b3)
  have HZ : Hid (w2.heap.size < (w2.alloc (.cells #[.string s, .int .i64 t.tk, .int .i64 t.pl] TmTS)).heap.size) := Lib.hid (by simp)
  have Z3 := Lib.hid z3
  have B3 := Lib.hid (bmore b2 b3)
  clear u2 b2 b3 z3 z1
  go_wp2_with fail
  clear hr d3
  generalize (w2.alloc (.cells #[.string s, .int .i64 t.tk, .int .i64 t.pl] TmTS)) = W3 at *
  refine (takeS X3.out HT.out s HS.out).mono ?_
  rintro e w4 ⟨rfl, h4, t4⟩
  rw [HO.out] at h4
  have hz0 := cellB (j := 0) ((t4.block _ HZ.out (by have := X2.out.lt; have := X2.out.map.lt; rintro (e | e) <;> omega)).trans Z3.out) rfl
  obtain ⟨p4, _, _, _, _, _, e5, _⟩ := h4.cells
  have H4 := Lib.hid h4
  have T4 := Lib.hid ((touch_of_below B3.out _).trans t4)
  clear h4 t4 y0 y1 y2
  go_wp2_with fail
  go_loopg [42] 0 (fun k i wr => i = .int .i64 0 ∧ wr = w4)
  case atStart => exact ⟨rfl, rfl⟩
  case round =>
    obtain ⟨rfl, rfl⟩ := hrel
    go_wp2_with fail
    go_returns
    exact ⟨rfl, H4.out, T4.out⟩
end Go.Proofs.Ytbgnedeeeaapfaa
