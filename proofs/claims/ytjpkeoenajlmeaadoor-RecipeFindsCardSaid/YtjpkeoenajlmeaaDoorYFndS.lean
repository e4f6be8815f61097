/-
  What the row's condition gives the walks: the table of the kinds' fields.
  For in memory: a recipe for what is derived.
  The operations of a proof are operations that can be handed in: their numbers are small.
  What is derived has a recipe, and that makes it: the walk of RecipeFinds.
  The statement RecipeFinds, as a tied card: what is derived has a recipe, and that makes it. No condition.
-/
import Derived.Test.YtjpkeoenajlmeaaDoorTShape
import Derived.Test.YtjpkeoenajlmeaaDoorRows
import Derived.LaidMore
import Derived.MakeChecks
import Derived.JoinedOf
import Derived.Stop.Joined
import Derived.Test.YtjpkeoenajlmeaaDoorYSayN
import Derived.Test.YtjpkeoenajlmeaaDoorYAsk
import Derived.Test.YtjpkeoenajlmeaaDoorCards
import Derived.Test.YtjpkeoenajlmeaaDoorTie
import Derived.ChangeMaps5
import Derived.SevenTiedAt
namespace Go.Proofs.YtjpkeoenajlmeaaDoor
open Go.ChangeShapes Go.WideShapes Go.ChangeAt Go.WideMaps Go.WideElems Go.RowKit
set_option linter.unusedVariables false

abbrev laidL : List (String × DataW Unit) := [("escrow/term.shapes", Rows.laid_escrow_term_shapes)]
def shD (k : Nat) : DataW Unit := .agg [.lit (.bool (namedB (k : Int))), .lit (.bool (twoB (k : Int))), .lit (.bool ((k : Int) == 2)), .lit (.bool ((k : Int) == 3)), .lit (.int .i64 (kidsN (k : Int) : Int))]
theorem datum_eq : (Rows.laid_escrow_term_shapes (H := Unit)) = .agg ((List.range 10).map shD) := by kernel_rfl
theorem gShapes : Tryd.prog.globalNamed "escrow/term.shapes" = some 0 := by kernel_rfl
theorem tShapes : (Tryd.prog.globals[0]?).map (·.type) = some 164 := by kernel_rfl

set_option maxRecDepth 100000 in
theorem trod_shape {H : Type} {enc : TypeId × Value → H} {W : World} {base fuel : Nat} {sp : Nat → Bool} {held : Bool} {cs : List Value} {x : DataW H × List MemPlace} {b0 b1 b2 b3 : Bool} {m : Int}
    (ht : DataW.trod enc Tryd.prog W base sp held fuel ShT cs = some x) (hx : x.1 = .agg [.lit (.bool b0), .lit (.bool b1), .lit (.bool b2), .lit (.bool b3), .lit (.int .i64 m)]) :
    cs = [.bool b0, .bool b1, .bool b2, .bool b3, .int .i64 m] := by
  obtain ⟨ys, k, _, hxx, hl, hyl, hfld⟩ := DataW.trod_struct Tryd.underlying147 ht
  rw [hxx] at hx
  have c5 : Tryd.prog.cellsOf 147 = 5 := by kernel_rfl
  have cb : Tryd.prog.cellsOf 4 = 1 := by kernel_rfl
  have ci : Tryd.prog.cellsOf 3 = 1 := by kernel_rfl
  rw [c5] at hl
  match cs, hl with
  | [u0, u1, u2, u3, u4], _ =>
    have f0 : DataW.trod enc Tryd.prog W base sp held k 4 (([u0, u1, u2, u3, u4].drop 0).take (Tryd.prog.cellsOf 4)) = ys[0]? := hfld 0 _ rfl
    have f1 : DataW.trod enc Tryd.prog W base sp held k 4 (([u0, u1, u2, u3, u4].drop 1).take (Tryd.prog.cellsOf 4)) = ys[1]? := hfld 1 _ rfl
    have f2 : DataW.trod enc Tryd.prog W base sp held k 4 (([u0, u1, u2, u3, u4].drop 2).take (Tryd.prog.cellsOf 4)) = ys[2]? := hfld 2 _ rfl
    have f3 : DataW.trod enc Tryd.prog W base sp held k 4 (([u0, u1, u2, u3, u4].drop 3).take (Tryd.prog.cellsOf 4)) = ys[3]? := hfld 3 _ rfl
    have f4 : DataW.trod enc Tryd.prog W base sp held k 3 (([u0, u1, u2, u3, u4].drop 4).take (Tryd.prog.cellsOf 3)) = ys[4]? := hfld 4 _ rfl
    rw [cb] at f0 f1 f2 f3
    rw [ci] at f4
    simp only [List.drop_zero, List.drop_succ_cons, List.take_succ_cons, List.take_zero] at f0 f1 f2 f3 f4
    match ys, hyl with
    | [y0, y1, y2, y3, y4], _ =>
      simp only [List.map_cons, List.map_nil, DataW.agg.injEq, List.cons.injEq, and_true] at hx
      obtain ⟨h0, h1, h2, h3, h4⟩ := hx
      obtain ⟨v0, e0, w0⟩ := DataW.trod_bool Tryd.underlying4 (show DataW.trod enc Tryd.prog W base sp held k 4 [u0] = some y0 from f0)
      obtain ⟨v1, e1, w1⟩ := DataW.trod_bool Tryd.underlying4 (show DataW.trod enc Tryd.prog W base sp held k 4 [u1] = some y1 from f1)
      obtain ⟨v2, e2, w2⟩ := DataW.trod_bool Tryd.underlying4 (show DataW.trod enc Tryd.prog W base sp held k 4 [u2] = some y2 from f2)
      obtain ⟨v3, e3, w3⟩ := DataW.trod_bool Tryd.underlying4 (show DataW.trod enc Tryd.prog W base sp held k 4 [u3] = some y3 from f3)
      obtain ⟨v4, e4, w4, _⟩ := DataW.trod_int Tryd.underlying3 (show DataW.trod enc Tryd.prog W base sp held k 3 [u4] = some y4 from f4)
      rw [w0] at h0
      rw [w1] at h1
      rw [w2] at h2
      rw [w3] at h3
      rw [w4] at h4
      simp only [DataW.lit.injEq, Lit.bool.injEq, Lit.int.injEq, true_and] at h0 h1 h2 h3 h4
      simp only [List.cons.injEq, and_true] at e0 e1 e2 e3 e4
      rw [e0, e1, e2, e3, e4, h0, h1, h2, h3, h4]

theorem at_of_take {L : List Value} {n : Nat} {a0 a1 a2 a3 a4 : Value} (h : (L.drop n).take 5 = [a0, a1, a2, a3, a4]) : L[n]? = some a0 ∧ L[n + 1]? = some a1 ∧ L[n + 2]? = some a2 ∧ L[n + 3]? = some a3 ∧ L[n + 4]? = some a4 := by
  have g : ∀ j, j < 5 → L[n + j]? = [a0, a1, a2, a3, a4][j]? := fun j hj => by
    rw [← h, List.getElem?_take, if_pos hj, List.getElem?_drop]
  exact ⟨g 0 (by decide), g 1 (by decide), g 2 (by decide), g 3 (by decide), g 4 (by decide)⟩

set_option maxRecDepth 100000 in
theorem of_laid {W : World} (h : laidMetH Tryd.prog laidL W) : Laid W := by
  rw [MakeChecks.laidMetH_plain _ _ _ (by kernel_rfl)] at h
  obtain ⟨ps, ⟨g0, t0, cs0, f0, p0, q0, hg0, ht0, hv0, hd0, _, _⟩, _, _⟩ := h
  obtain rfl := Option.some.inj (gShapes.symm.trans hg0)
  obtain rfl := Option.some.inj (tShapes.symm.trans ht0)
  rw [datum_eq] at hd0
  obtain ⟨xs, m, _, hx, _, hn, hel⟩ := DataW.trod_array Tryd.underlying164 hd0
  have c5 : Tryd.prog.cellsOf 147 = 5 := by kernel_rfl
  simp only [Prod.mk.injEq, DataW.agg.injEq] at hx
  intro k hk
  have hek := hel k hk
  rw [c5] at hek
  have hxk : xs[k]? = some (xs[k]'(by omega)) := List.getElem?_eq_getElem (by omega)
  rw [hxk] at hek
  have hd : (xs[k]'(by omega)).1 = shD k := by
    have := congrArg (fun l => l[k]?) hx.1
    simp only [List.getElem?_map, hxk, Option.map_some, List.getElem?_range hk] at this
    exact (Option.some.inj this).symm
  have hc := trod_shape hek hd
  obtain ⟨a0, a1, a2, a3, a4⟩ := at_of_take hc
  refine ⟨?_, ?_, ?_, ?_, ?_⟩
  · rw [World.var?_cell hg0 hv0, ← a0]; simp
  · rw [World.var?_cell hg0 hv0, ← a1]; simp
  · rw [World.var?_cell hg0 hv0, ← a2]; simp
  · rw [World.var?_cell hg0 hv0, ← a3]; simp
  · rw [World.var?_cell hg0 hv0, ← a4]; simp

/-- The door's own heap meets the condition: three closed facts. -/
theorem door_met (os : Os) (args : Array Value) : laidMetH Tryd.prog laidL ((World.doorLaid Tryd.prog 400 os).forCall (fun _ _ => 0) ⟨#[], args, []⟩).memory :=
  laidMetH_of_parts3 (fuel := 8) (laidMet_of_run' 8 (by kernel_rfl) (by kernel_rfl)) (by kernel_rfl) (by kernel_rfl)
end Go.Proofs.YtjpkeoenajlmeaaDoor
namespace Go.Proofs.YtjpkeoenajlmeaaDoor
open Go.RowKit Go.Maps
set_option linter.unusedVariables false

/-- What is neither seen nor taken apart stands in the pool and holds no key. -/
theorem fol_kind {p : Pl} {g : List Int} {ahead : List St} {st : St} (h : followsP p g ahead st = true) : st.r = 0 ∨ st.r = 1 ∨ st.r = 2 ∨ st.r = 3 ∨ (st.r ≠ 0 ∧ st.r ≠ 1 ∧ st.r ≠ 2 ∧ st.r ≠ 3 ∧ inP p st.t = true ∧ (atP p st.t).1.kind ≠ 6) := by
  unfold followsP at h
  rw [Bool.and_eq_true] at h
  obtain ⟨hin, h⟩ := h
  by_cases r0 : st.r = 0
  · exact .inl r0
  by_cases r1 : st.r = 1
  · exact .inr (.inl r1)
  by_cases r2 : st.r = 2
  · exact .inr (.inr (.inl r2))
  by_cases r3 : st.r = 3
  · exact .inr (.inr (.inr (.inl r3)))
  refine .inr (.inr (.inr (.inr ⟨r0, r1, r2, r3, hin, fun e => ?_⟩)))
  rw [if_neg r0, if_neg (fun h => by rcases h with h | h | h; exact r1 h; exact r2 h; exact r3 h)] at h
  split at h
  · rw [e] at h; simp [freeB] at h
  · split at h
    · unfold partP at h; rw [e] at h; simp [showB] at h
    · cases h
theorem saying_any {w : World} {B a b : Nat} {v : Value} {p : Pl} (hp : IsPool w B a b v p) {vg : Value} {g : List Int} (hg : Row w 1 vg g.length (ints g)) (hl : g.length ≤ 1000000) {ahead : List St} {st : St} (hf : followsP p g ahead st = true) : Calls Tryd.prog 53 #[.pointer (some ⟨a, 0, none⟩), vg, .agg (stA st)] w fun e w' => e = .returned (.agg (opA (sayP p g st))) ∧ Below w.heap.size w w' := by
  have hk := fol_kind hf
  obtain ⟨r, sa, sb, t⟩ := st
  simp only at hk
  rcases hk with e | e | e | e | ⟨h0, h1, h2, h3, hin, h6⟩
  · subst e; exact saying_0 _ sa sb t p hg hl
  · subst e; exact saying_1 _ vg w sa sb t p g
  · subst e; exact saying_2 _ vg w sa sb t p g
  · subst e; exact saying_3 _ vg w sa sb t p g
  · exact saying_n hp vg sa sb g h0 h1 h2 h3 hin h6
def ForPost (p : Pl) (g : List Int) (s : Int → Option Way) (d : Bool) (t : Int) (w : World) (e : Ending) (w' : World) : Prop :=
  Below w.heap.size w w' ∧ ((d = false ∧ e = .returned (.tuple #[.slice none 0 0, .bool false])) ∨
    (d = true ∧ ∃ L, (∃ i, LayR p s t [] i L) ∧ GoodL p g (fun _ => True) L ∧ (∃ hn : L ≠ [], (L.getLast hn).t = t) ∧
      ((256 < L.length ∧ e = .returned (.tuple #[.slice none 0 0, .bool false])) ∨ (L.length ≤ 256 ∧ ∃ lv, e = .returned (.tuple #[lv, .bool true]) ∧ w'.ownsRow w.heap.size OpT 5 lv (L.map (sayP p g)).length (opsV (L.map (sayP p g)))))))
set_option maxRecDepth 100000 in
set_option maxHeartbeats 6400000 in
theorem for_any {w : World} {B B2 a b k mb : Nat} {v gv : Value} {p : Pl} {g : List Int} {s : Int → Option Way} (hp : IsPool w B a b v p) (hk : IsKnow w B2 k gv mb a p g s) {t : Int} (ht : i64R t) : Calls Tryd.prog 22 #[.pointer (some ⟨a, 0, none⟩), .pointer (some ⟨k, 0, none⟩), .int .i64 t] w (ForPost p g s (derB p s t) t w) := by
  have PR := Lib.hid (proof_any (R := fun _ => True) hp hk (fun _ _ => trivial) (fun _ _ _ => ⟨fun _ => trivial, fun _ => trivial⟩) ht (fun _ => trivial))
  have HP := Lib.hid hp
  have HK := Lib.hid hk
  have hgl := hk.glen
  have hpl := hp.ok.len
  clear hp hk ht
  generalize derB p s t = d at *
  go_enter Tryd.func22, Tryd.ntmps22
  go_wp2_with fail
  refine PR.out.mono ?_
  rintro e w1 ⟨u1, ⟨rfl, rfl⟩ | ⟨rfl, lv, L, rfl, hrow, hgd, hla, hlr⟩⟩
  · have HU1 := Lib.hid u1
    clear u1
    go_wp2_with fail
    go_returns
    exact ⟨HU1.out, .inl ⟨rfl, rfl⟩⟩
  · obtain ⟨la, lc, rfl, hlx⟩ := (row_of_own hrow).at2
    have hll := hgd.len
    have HU1 := Lib.hid u1
    have HLX := Lib.hid hlx
    have HGD := Lib.hid hgd
    have HLA := Lib.hid hla
    have HLR := Lib.hid hlr
    clear u1 hrow hlx hgd hla hlr
    by_cases h256 : 256 < L.length
    · have hc : decide ((256 : Int) < (L.length : Int)) = true := decide_eq_true (by omega)
      have HF := Lib.hid h256
      clear h256
      go_wp2_with fail
      go_returns
      exact ⟨HU1.out, .inr ⟨rfl, L, HLR.out, HGD.out, HLA.out, .inl ⟨HF.out, rfl⟩⟩⟩
    · have hc : decide ((256 : Int) < (L.length : Int)) = false := decide_eq_false (by omega)
      have GA := Lib.hid (given_any (HK.out.below HU1.out) hpl)
      go_wp2_with fail
      refine GA.out.mono ?_
      rintro e w2 ⟨vg, rfl, hgr, u2⟩
      obtain ⟨ga, gc, rfl⟩ := (row_of_own hgr).shape
      have HGR := Lib.hid (row_of_own hgr)
      have HU2 := Lib.hid (bmore HU1.out u2)
      have HBG := Lib.hid u2
      clear hgr u2 GA
      go_wp2_with fail
      go_loopw [35, 11] (fun v35 v11 wr => ∃ i : Nat, v35 = .int .i64 (i : Int) ∧ i ≤ L.length ∧ wr.ownsRow w2.heap.size OpT 5 v11 ((L.take i).map (sayP p g)).length (opsV ((L.take i).map (sayP p g))) ∧ Below w2.heap.size w2 wr ∧ Below w.heap.size w wr) (fun v _ _ => L.length - (intOf v).toNat)
      case atStart => exact ⟨0, rfl, Nat.zero_le _, World.ownsRow_nil _ _ _ 5, Below.refl _ _, HU2.out⟩
      case round =>
        obtain ⟨i, rfl, hi, hr, hb2, hb⟩ := hrel
        have HR := Lib.hid hr
        have HB2 := Lib.hid hb2
        have HB := Lib.hid hb
        have hbs : w.heap.size ≤ wr.heap.size := hb.size
        obtain ⟨ka, kc, rfl⟩ := (row_of_own hr).shape
        by_cases hlt : i < L.length
        · obtain ⟨lb, lo, rfl, qq⟩ := HLX.out (by omega)
          obtain ⟨a0, a1, a2, a3⟩ := sts_at L i hlt
          have c0 := bcellAt (bmore HBG.out hb2) (qq _ _ a0)
          have c1 := bcellAt (bmore HBG.out hb2) (qq _ _ a1)
          have c2 := bcellAt (bmore HBG.out hb2) (qq _ _ a2)
          have c3 := bcellAt (bmore HBG.out hb2) (qq _ _ a3)
          simp only [← Nat.add_assoc] at c1 c2 c3
          have hf := HGD.out.fol i hlt
          have HTK : Hid ((L.take (i + 1)).map (sayP p g) = (L.take i).map (sayP p g) ++ [sayP p g L[i]]) := Lib.hid (by rw [List.take_add_one, List.getElem?_eq_getElem hlt]; simp only [Option.toList_some, List.map_append, List.map_cons, List.map_nil])
          have hi0 : (0 : Int) ≤ (i : Int) := by omega
          have hi1 : (i : Int) < (L.length : Int) := by omega
          have HML : Hid (((L.take i).map (sayP p g)).length = i) := Lib.hid (by simp; omega)
          clear qq a0 a1 a2 a3 hr hb2 hb
          generalize L[i] = st at *
          obtain ⟨sr, sa, sb, sx⟩ := st
          simp only at c0 c1 c2 c3
          have bO := bA0 wr (.cells #[.int .i64 sr, .int .i64 sa, .int .i64 sb, .int .i64 sx] StT)
          have hO := heap_alloc_new wr (.cells #[.int .i64 sr, .int .i64 sa, .int .i64 sb, .int .i64 sx] StT)
          have y0 := cellB (j := 0) hO rfl
          have y1 := cellB (j := 1) hO rfl
          have y2 := cellB (j := 2) hO rfl
          have y3 := cellB (j := 3) hO rfl
          have SA := Lib.hid (saying_any ((HP.out.below HB.out).below bO) ((HGR.out.below HB2.out).below bO) (by omega) hf)
          have HBO := Lib.hid bO
          clear bO hO hf
          generalize hom : sayP p g ⟨sr, sa, sb, sx⟩ = om at *
          simp only [stA, opA] at SA
          go_wp2_with fail
          refine SA.out.mono ?_
          rintro e w4 ⟨rfl, u4⟩
          have HB4 := Lib.hid (HB.out.trans ((bmore HBO.out u4).mono hbs))
          have HC4 := Lib.hid (bmore HB2.out (bmore HBO.out u4))
          have hA := bA0 w4 (.cells #[.int .i64 om.code, .int .i64 om.a, .int .i64 om.b, .int .u64 om.num, .string om.text] OpT)
          have HA := Lib.hid hA
          have HR2 := Lib.hid (own_hold HR.out ((Hold.below (bmore HBO.out u4)).trans (Hold.below hA)))
          have hb4 : w.heap.size ≤ w4.heap.size := HB4.out.size
          have hww : w2.heap.size ≤ w4.heap.size := HC4.out.size
          clear hA u4 y0 y1 y2 y3 c0 c1 c2 c3 SA
          generalize (L.take i).map (sayP p g) = kept at *
          go_wp2_with (at_builtin; (refine wpList_append_opsF rfl _ _ rfl w2.heap.size (.slice ka kept.length kc) kept rfl HR2.out _ [om] rfl (row_oneO (heap_alloc_new _ _)) (by have := HML.out; simp; omega) (Nat.le_trans hww (bA0 _ _).size) ?_); intro v9 w9 hrow9 hg9; obtain ⟨xa, xc, rfl⟩ := (row_of_own hrow9).shape; have HG9 := Lib.hid hg9; have HR9 := Lib.hid hrow9; clear hg9 hrow9)
          have HC9 := Lib.hid ((HC4.out.trans (HA.out.mono hww)).trans (grown_below HG9.out (Nat.le_trans hww (bA0 _ _).size) (fun k e => (own_type HR2.out e).1)))
          have HB9 := Lib.hid (HU2.out.trans (HC9.out.mono HU2.out.size))
          go_roundw
          case rel => exact ⟨i + 1, by go_num, by omega, by have h := HR9.out; rw [HTK.out]; simp only [List.length_append, List.length_cons, List.length_nil, Nat.zero_add] at h ⊢; exact h, HC9.out, HB9.out⟩
          case measure => simp [intOf] <;> omega
        · obtain rfl : i = L.length := by omega
          have HR9 : Hid (wr.ownsRow w.heap.size OpT 5 (.slice ka ((L.take L.length).map (sayP p g)).length kc) (L.map (sayP p g)).length (opsV (L.map (sayP p g)))) := Lib.hid (by have h := own_base HR.out HU2.out.size; rw [List.take_length] at h ⊢; exact h)
          clear hr hb2 hb
          go_wp2_with fail
          go_returns
          exact ⟨HB.out, .inr ⟨rfl, L, HLR.out, HGD.out, HLA.out, .inr ⟨by omega, _, rfl, HR9.out⟩⟩⟩
end Go.Proofs.YtjpkeoenajlmeaaDoor
namespace Go.Proofs.YtjpkeoenajlmeaaDoor
set_option linter.unusedVariables false

theorem said_small {ahead : List St} {i : Int} (h : saidP ahead i ≠ 0) (hl : ahead.length ≤ 65536) : 0 ≤ i ∧ i ≤ 65536 := by
  have := (said_up h).1
  simp only [upB, List.length_map, Bool.and_eq_true, decide_eq_true_eq] at this
  omega
theorem i64_small {i : Int} (h : -1 ≤ i ∧ i ≤ 65536) : i64R i := by unfold i64R; omega
theorem idx_small (g : List Int) (t : Int) (hl : g.length ≤ 65536) : -1 ≤ idxP g t ∧ idxP g t ≤ 65536 := by
  unfold idxP
  split
  · rename_i i hi
    obtain ⟨h, _, _⟩ := List.findIdx?_eq_some_iff_getElem.1 hi
    omega
  · omega
theorem put_ok {n : Nd} {a b : Int} (hn : NdOk n) (hs : shp n = 0) (ha : -1 ≤ a ∧ a ≤ 65536) (hb : -1 ≤ b ∧ b ≤ 65536) : OpOk (putP n a b) := by
  have z : ((0 : Int) ≤ 0 ∧ (0 : Int) ≤ 18446744073709551615) := by omega
  have i0 : i64R 0 := i64_small (by omega)
  obtain ⟨_, _, _, _, _, _, _, q1, q2⟩ := plain_nd hs
  have e0 : emptyS.size ≤ maxLen := emptyS_le
  unfold putP
  split
  · exact ⟨i64_small (by simp), hn.frm, i0, z, e0⟩
  split
  · exact ⟨i64_small (by simp), i0, i0, hn.num, e0⟩
  split
  · exact ⟨i64_small (by simp), i0, i0, z, hn.text⟩
  split
  · exact ⟨i64_small (by simp), i64_small ha, i64_small hb, z, e0⟩
  split
  · exact ⟨i64_small (by simp), i64_small ha, i0, z, e0⟩
  split
  · exact ⟨i64_small (by simp), i64_small ha, i64_small hb, z, e0⟩
  split
  · rename_i h8
    have := q2 (by rw [h8]; rfl)
    exact ⟨i64_small (by simp), i64_small ha, i64_small hb, by simp only; omega, e0⟩
  · rename_i h1 h2 h3 h4 h5 h7 h8
    by_cases h : namedB n.kind = true
    · have := q1 h
      exact ⟨i64_small (by simp), i64_small ha, i64_small hb, by simp only; omega, e0⟩
    · have h0 : namedB n.kind = false := by simpa using h
      obtain ⟨_, q3, _⟩ := plain_nd hs
      have := q3 h0
      exact ⟨i64_small (by simp), i64_small ha, i64_small hb, by simp only; omega, e0⟩
theorem say_ok {p : Pl} (hp : Ok p) (hnk : ∀ m ∈ p, NdOk m.1) {g : List Int} (hg : g.length ≤ 65536) {ahead : List St} (hl : ahead.length ≤ 65536) {st : St} (hf : followsP p g ahead st = true) : OpOk (sayP p g st) := by
  obtain ⟨r, a, b, t⟩ := st
  unfold followsP at hf
  rw [Bool.and_eq_true] at hf
  obtain ⟨hin, hf⟩ := hf
  simp only at hin hf
  have ht0 := in_ne hin
  obtain ⟨hmk, hsh⟩ := mk_there hp hin
  obtain ⟨i, hi, hti, hai⟩ := atP_get hin
  have hno : NdOk (atP p t).1 := by rw [hai]; exact hnk _ (List.getElem_mem hi)
  have z : ((0 : Int) ≤ 0 ∧ (0 : Int) ≤ 18446744073709551615) := by omega
  have i0 : i64R 0 := i64_small (by omega)
  have e0 : emptyS.size ≤ maxLen := emptyS_le
  have one : ∀ {x : Int}, -1 ≤ x ∧ x ≤ 65536 → ∀ c : Int, -1 ≤ c ∧ c ≤ 65536 → OpOk ⟨c, x, 0, 0, emptyS⟩ := fun h c hc => ⟨i64_small hc, i64_small h, i0, z, e0⟩
  by_cases r0 : r = 0
  · subst r0
    exact one (idx_small g t hg) 0 (by omega)
  rw [if_neg r0] at hf
  by_cases r3 : r = 1 ∨ r = 2 ∨ r = 3
  · rw [if_pos r3] at hf
    simp only [Bool.and_eq_true, beq_iff_eq] at hf
    have hs : saidP ahead a ≠ 0 := fun e => by
      have h1 := hf.1
      rw [e, atP_zero] at h1
      have : takeN r zeroM.1 = 0 := by unfold takeN; rfl
      rw [this] at h1; exact ht0 h1.symm
    have := said_small hs hl
    rcases r3 with rfl | rfl | rfl
    · exact one (x := a) (by omega) 6 (by omega)
    · exact one (x := a) (by omega) 7 (by omega)
    · exact one (x := a) (by omega) 8 (by omega)
  rw [if_neg r3] at hf
  have hsay : sayP p g ⟨r, a, b, t⟩ = putP (atP p t).1 a b := by
    unfold sayP
    rw [if_neg r0, if_neg (fun h => r3 (.inl h)), if_neg (fun h => r3 (.inr (.inl h))), if_neg (fun h => r3 (.inr (.inr h)))]
  rw [hsay]
  refine put_ok hno hsh ?_ ?_
  all_goals
    by_cases r4 : r = 4
    · rw [if_pos r4] at hf
      simp only [Bool.and_eq_true, beq_iff_eq] at hf
      omega
    · rw [if_neg r4] at hf
      by_cases r5 : r = 5
      · rw [if_pos r5] at hf
        simp only [Bool.and_eq_true, beq_iff_eq] at hf
        obtain ⟨h1, h2, h3⟩ := hf
        have hk : 1 ≤ kidsN (atP p t).1.kind := by
          unfold partP at h1
          unfold kidsN
          split at h1
          · rename_i e; rw [if_pos e]; decide
          · rename_i e4
            rw [if_neg e4]
            split at h1
            · rename_i e; rw [if_pos (.inl e)]; decide
            · split at h1
              · rename_i e
                simp only [showB, Bool.or_eq_true, beq_iff_eq] at e
                rw [if_pos (by omega)]; decide
              · cases h1
        rw [part_a h1] at h2
        have ha := said_small (ahead := ahead) (i := a) (by rw [h2]; exact in_ne (kidA hp hin hk)) hl
        first
          | omega
          | (split at h3
             · simp only [beq_iff_eq] at h3; omega
             · rename_i hb0
               simp only [beq_iff_eq] at h3
               have hb := said_small (ahead := ahead) (i := b) (by rw [h3]; exact hb0) hl
               omega)
      · rw [if_neg r5] at hf; cases hf
theorem good_ops {p : Pl} (hp : Ok p) (hnk : ∀ m ∈ p, NdOk m.1) {g : List Int} (hg : g.length ≤ 65536) {L : List St} (h : GoodL p g (fun _ => True) L) : ∀ o ∈ L.map (sayP p g), OpOk o := by
  intro o ho
  obtain ⟨s, hs, rfl⟩ := List.mem_map.1 ho
  obtain ⟨i, hi, rfl⟩ := List.getElem_of_mem hs
  have := h.len
  have := hp.len
  exact say_ok hp hnk hg (by simp; omega) (h.fol i hi)
end Go.Proofs.YtjpkeoenajlmeaaDoor
namespace Go.Proofs.YtjpkeoenajlmeaaDoor
open Go.RowKit Go.Maps
set_option linter.unusedVariables false

set_option maxRecDepth 100000 in
set_option maxHeartbeats 25600000 in
theorem rfinds_walk {w : World} (hl : Laid w) {fo : Fo} {vn : Value} (hk : IsK w (fun b => b < w.heap.size) vn fo) (hok : OkF fo) {n : Nd} {kd : Fo} {v : Value} (hkd : IsK w (fun b => b < w.heap.size) v kd) (hn : NdOk n ∧ n.a = 0 ∧ n.b = 0 ∧ OkF kd) : Calls Tryd.prog 4 #[vn, .agg (treeA n v)] w fun e w' => e = .returned (.bool true) ∧ Below w.heap.size w w' := by
  obtain ⟨av, cv, rfl, _⟩ := hk.shape
  obtain ⟨a2, c2, rfl, _⟩ := hkd.shape
  obtain ⟨hn1, hn2, hn3, hn4⟩ := hn
  have HNO := Lib.hid hn1
  have HNA := Lib.hid hn2
  have HNB := Lib.hid hn3
  have HL := Lib.hid hl
  have HK := Lib.hid hk
  have HOK := Lib.hid hok
  have HKD := Lib.hid hkd
  have HOD := Lib.hid hn4
  clear hl hk hok hkd hn1 hn2 hn3 hn4
  have LVW : Hid (∀ W : World, Below w.heap.size w W → Calls Tryd.prog 18 #[] W fun e w' => e = .returned (.bool true) ∧ Below W.heap.size W w') := Lib.hid (fun W h => live9_any (HL.out.below h))
  have LA := Lib.hid (fun (W : World) (h : Below w.heap.size w W) => large9_any (w := W) (fo := fo) ((HK.out.below h).keep (G' := fun b => b < W.heap.size) (fun b hb _ => ⟨Nat.lt_of_lt_of_le hb h.size, rfl⟩)))
  have LB := Lib.hid (fun (W : World) (h : Below w.heap.size w W) => large9_any (w := W.alloc (.cells (treeA n (.slice a2 kd.len c2)) TrT)) (fo := .cons n kd .nil) (vn := .slice (some ⟨W.heap.size, 0, none⟩) 1 1) ⟨_, _, rfl, by simp [Fo.len], by decide, fun _ => ⟨W.heap.size, 0, rfl, by simp, (AtF.mk (v := .slice a2 kd.len c2) (cellB (j := 0) (heap_alloc_new _ _) rfl) (cellB (j := 1) (heap_alloc_new _ _) rfl) (cellB (j := 2) (heap_alloc_new _ _) rfl) (cellB (j := 3) (heap_alloc_new _ _) rfl) (cellB (j := 4) (heap_alloc_new _ _) rfl) (cellB (j := 5) (heap_alloc_new _ _) rfl) ((HKD.out.below (h.trans ((bA0 W (.cells (treeA n (.slice a2 kd.len c2)) TrT)).mono h.size))).keep (fun b hb _ => ⟨Nat.lt_of_lt_of_le hb (Nat.le_trans h.size (bA0 W _).size), rfl⟩)) trivial)⟩⟩)
  have LE := Lib.hid (fun (W : World) (h : Below w.heap.size w W) (hs : kd.size ≤ 6000) => lent_any n kd (HKD.out.below h) hs)
  obtain ⟨k1, f1, t1, n1, s1, y1, z1⟩ := n
  obtain rfl : y1 = 0 := HNA.out
  obtain rfl : z1 = 0 := HNB.out
  simp only [treeA] at *
  have hZ := bA0 w (.cells #[.int .i64 k1, .int .i64 f1, .int .i64 t1, .int .u64 n1, .string s1, .slice a2 kd.len c2] TrT)
  have hN := heap_alloc_new w (.cells #[.int .i64 k1, .int .i64 f1, .int .i64 t1, .int .u64 n1, .string s1, .slice a2 kd.len c2] TrT)
  have HZ := Lib.hid hZ
  have HN := Lib.hid hN
  clear hZ hN
  go_enter Tryd.func4, Tryd.ntmps4
  go_wp2_with fail
  generalize (w.alloc (.cells #[.int .i64 k1, .int .i64 f1, .int .i64 t1, .int .u64 n1, .string s1, .slice a2 kd.len c2] TrT)) = w0 at *
  refine (LA.out _ HZ.out).mono ?_
  rintro e w1 ⟨⟨q1, rfl, hq1⟩, u1⟩
  have HU1 := Lib.hid (bmore HZ.out u1)
  have HN1 := Lib.hid (Hold.below u1 _ _ HN.out)
  clear u1 LA HZ HN
  cases q1 with
  | true =>
    go_wp2_with fail
    refine (LVW.out _ HU1.out).mono ?_
    rintro e w2 ⟨rfl, u2⟩
    have HU2 := Lib.hid (bmore HU1.out u2)
    clear u2
    go_wp2_with fail
    go_returns
    exact ⟨rfl, HU2.out⟩
  | false =>
    have hsz := hq1 rfl
    clear hq1
    have g0 := cellB (j := 0) HN1.out rfl
    have g1 := cellB (j := 1) HN1.out rfl
    have g2 := cellB (j := 2) HN1.out rfl
    have g3 := cellB (j := 3) HN1.out rfl
    have g4 := cellB (j := 4) HN1.out rfl
    have g5 := cellB (j := 5) HN1.out rfl
    go_wp2_with fail
    refine (LB.out _ HU1.out).mono ?_
    rintro e w2 ⟨⟨q2, rfl, hq2⟩, u2⟩
    have HU2 := Lib.hid (bmore HU1.out (bmore (bA0 w1 (.cells #[.int .i64 k1, .int .i64 f1, .int .i64 t1, .int .u64 n1, .string s1, .slice a2 kd.len c2] TrT)) u2))
    have HN2 := Lib.hid (Hold.below (bmore (bA0 w1 (.cells #[.int .i64 k1, .int .i64 f1, .int .i64 t1, .int .u64 n1, .string s1, .slice a2 kd.len c2] TrT)) u2) _ _ HN1.out)
    clear u2 LB g0 g1 g2 g3 g4 g5
    cases q2 with
    | true =>
      go_wp2_with fail
      refine (LVW.out _ HU2.out).mono ?_
      rintro e wla ⟨rfl, ula⟩
      have HLa := Lib.hid (bmore HU2.out ula)
      clear ula
      go_wp2_with fail
      go_returns
      exact ⟨rfl, HLa.out⟩
    | false =>
      have hsz2 := hq2 rfl
      simp only [Fo.len, Fo.size] at hsz2
      clear hq2
      have hkl := (HK.out.below HU2.out).keep (G' := fun b => b < w2.heap.size) (fun b hb _ => ⟨Nat.lt_of_lt_of_le hb HU2.out.size, rfl⟩)
      have GI := Lib.hid (lgiven_any (HL.out.below HU2.out) hkl HOK.out (by omega) (by omega))
      clear hkl
      go_wp2_with fail
      refine GI.out.mono ?_
      rintro e w3 ⟨sb, pa, b, vv, k, mb, gv, s, ra, rl, rs, rd, gvl, q, gl, rfl, sd, hql, hgl, u3, _⟩
      have SD := Lib.hid sd
      have HU3 := Lib.hid (bmore HU2.out u3)
      have HV3 := Lib.hid u3
      have HBS := Lib.hid (HL.out.below HU2.out).lt
      have HN3 := Lib.hid (Hold.below u3 _ _ HN2.out)
      have hroom : (lkT ⟨k1, f1, t1, n1, s1, 0, 0⟩ kd 0 0).2 = 0 → (grT ⟨k1, f1, t1, n1, s1, 0, 0⟩ kd q).2.1 = 0 := fun h => (grT_good _ kd q sd.pool.ok (lkT_good h).1 ⟨rfl, rfl, HOD.out.bare, trivial⟩ (lkT_good h).2.1 (lkT_good h).2.2 (by simp only [Fo.size]; omega)).1
      have hgood := ofP_ok ⟨k1, f1, t1, n1, s1, 0, 0⟩ kd q sd.pool.ok ⟨rfl, rfl, HOD.out.bare, trivial⟩ (by simp only [Fo.size]; omega)
      have HOF := Lib.hid (fun (W : World) (v : Value) (h1 : Laid W) (h2 : IsPool W w2.heap.size pa b vv q) (h3 : IsK W (Safe W w2.heap.size) v kd) => pof HBS.out h1 h2 h3 HNO.out rfl rfl HOD.out hroom)
      have HSZ : Hid (((ofP ⟨k1, f1, t1, n1, s1, 0, 0⟩ kd q).2.1 = 0 → inP (ofP ⟨k1, f1, t1, n1, s1, 0, 0⟩ kd q).2.2 (ofP ⟨k1, f1, t1, n1, s1, 0, 0⟩ kd q).1 = true) ∧ ∃ e, (ofP ⟨k1, f1, t1, n1, s1, 0, 0⟩ kd q).2.2 = q ++ e) := Lib.hid (by
        rcases hgood with ⟨h0, h⟩ | ⟨_, _, h3, h4, _, e, h6, h7⟩
        · rw [h]; exact ⟨fun h => absurd h h0, [], by simp⟩
        · rw [h3]
          exact ⟨fun _ => h4.1, e, h6⟩)
      have HLE := Lib.hid (fun (W : World) (h : Below w.heap.size w W) => LE.out W h (by omega))
      clear sd u3 GI hgood hroom LE
      generalize ofP ⟨k1, f1, t1, n1, s1, 0, 0⟩ kd q = oq at *
      obtain ⟨o1, o2, q6⟩ := oq
      obtain ⟨hino, eq, rfl⟩ : (o2 = 0 → inP q6 o1 = true) ∧ ∃ e, q6 = q ++ e := HSZ.out
      have HINO := Lib.hid hino
      clear hino HSZ
      have x0 := cellB (j := 0) SD.out.lay rfl
      have HKP := Lib.hid (fun (V : World) (hb : Below w3.heap.size w3 V) => (show V.cell? ⟨sb, 0, none⟩ = some (.pointer (some ⟨pa, 0, none⟩)) ∧ V.cell? ⟨w.heap.size, 0, none⟩ = some (.int .i64 k1) ∧ V.cell? ⟨w.heap.size, 1, none⟩ = some (.int .i64 f1) ∧ V.cell? ⟨w.heap.size, 2, none⟩ = some (.int .i64 t1) ∧ V.cell? ⟨w.heap.size, 3, none⟩ = some (.int .u64 n1) ∧ V.cell? ⟨w.heap.size, 4, none⟩ = some (.string s1) ∧ V.cell? ⟨w.heap.size, 5, none⟩ = some (.slice a2 kd.len c2) from ⟨cellB (j := 0) (Hold.below hb _ _ SD.out.lay) rfl, cellB (j := 0) (Hold.below hb _ _ HN3.out) rfl, cellB (j := 1) (Hold.below hb _ _ HN3.out) rfl, cellB (j := 2) (Hold.below hb _ _ HN3.out) rfl, cellB (j := 3) (Hold.below hb _ _ HN3.out) rfl, cellB (j := 4) (Hold.below hb _ _ HN3.out) rfl, cellB (j := 5) (Hold.below hb _ _ HN3.out) rfl⟩))
      have HKQ := Lib.hid (fun (V : World) (hs : V.heap[sb]? = some (Obj.cells #[.pointer (some ⟨pa, 0, none⟩), .pointer (some ⟨k, 0, none⟩), .pointer (some ⟨ra, 0, none⟩), gvl] SidesT)) (hn : V.heap[w.heap.size]? = some (Obj.cells #[.int .i64 k1, .int .i64 f1, .int .i64 t1, .int .u64 n1, .string s1, .slice a2 kd.len c2] TrT)) => (show V.cell? ⟨sb, 0, none⟩ = some (.pointer (some ⟨pa, 0, none⟩)) ∧ V.cell? ⟨w.heap.size, 0, none⟩ = some (.int .i64 k1) ∧ V.cell? ⟨w.heap.size, 1, none⟩ = some (.int .i64 f1) ∧ V.cell? ⟨w.heap.size, 2, none⟩ = some (.int .i64 t1) ∧ V.cell? ⟨w.heap.size, 3, none⟩ = some (.int .u64 n1) ∧ V.cell? ⟨w.heap.size, 4, none⟩ = some (.string s1) ∧ V.cell? ⟨w.heap.size, 5, none⟩ = some (.slice a2 kd.len c2) from ⟨cellB (j := 0) hs rfl, cellB (j := 0) hn rfl, cellB (j := 1) hn rfl, cellB (j := 2) hn rfl, cellB (j := 3) hn rfl, cellB (j := 4) hn rfl, cellB (j := 5) hn rfl⟩))
      have e0 := cellB (j := 0) HN3.out rfl
      have e1 := cellB (j := 1) HN3.out rfl
      have e2 := cellB (j := 2) HN3.out rfl
      have e3 := cellB (j := 3) HN3.out rfl
      have e4 := cellB (j := 4) HN3.out rfl
      have e5 := cellB (j := 5) HN3.out rfl
      go_wp2_with fail
      go_region_held3 (fun V => V.cell? ⟨sb, 0, none⟩ = some (.pointer (some ⟨pa, 0, none⟩)) ∧ V.cell? ⟨w.heap.size, 0, none⟩ = some (.int .i64 k1) ∧ V.cell? ⟨w.heap.size, 1, none⟩ = some (.int .i64 f1) ∧ V.cell? ⟨w.heap.size, 2, none⟩ = some (.int .i64 t1) ∧ V.cell? ⟨w.heap.size, 3, none⟩ = some (.int .u64 n1) ∧ V.cell? ⟨w.heap.size, 4, none⟩ = some (.string s1) ∧ V.cell? ⟨w.heap.size, 5, none⟩ = some (.slice a2 kd.len c2)) ((first | (refine HKP.out _ ?_; first | exact bd _ | exact bdn _ _ | exact bmore (bd _) u4) | exact HKQ.out _ HS6.out HN6.out))
        ((first
          | ((with_reducible refine (HLE.out _ (bmore HU3.out (bd _))).mono ?_); rintro e w4 ⟨v4, rfl, k4, u4⟩)
          | ((with_reducible refine (HOF.out _ _ (HL.out.below (bmore HU3.out (bmore (bd _) u4))) (SD.out.pool.below (bmore (bd _) u4)) (k4.newT (B := w2.heap.size))).mono ?_); rintro e w6 ⟨rfl, g6⟩; have HS6 := Lib.hid (g6.hold (SD.out.pool.below (bmore (bd _) u4)) (T := SidesT) (by decide) (by decide) _ _ (Hold.below (bmore (bd _) u4) _ _ SD.out.lay)); have HN6 := Lib.hid (g6.hold (SD.out.pool.below (bmore (bd _) u4)) (T := TrT) (by decide) (by decide) _ _ (Hold.below (bmore (bd _) u4) _ _ HN3.out)))))
      have hu := bmore (bd w3) u4
      have hsd4 := SD.out.below hu
      have HK6 := Lib.hid (hsd4.know.grow hsd4.pool hsd4.mbb g6)
      have HU6 := Lib.hid (HU2.out.trans (((HV3.out.trans (hu.mono HV3.out.size)).trans g6.1).mono HU2.out.size))
      have HV6 := Lib.hid ((HV3.out.trans (hu.mono HV3.out.size)).trans g6.1)
      have HBB := Lib.hid (show w2.heap.size ≤ w6.heap.size from ((HV3.out.trans (hu.mono HV3.out.size)).trans g6.1).size)
      have HL6 := Lib.hid (Laid.base (HL.out.below HU2.out) HBS.out ((HV3.out.trans (hu.mono HV3.out.size)).trans g6.1))
      obtain ⟨u6, _, v6, p6, _⟩ := g6
      have HP6 := Lib.hid p6
      clear u6 p6 hsd4 hu k4 u4 e0 e1 e2 e3 e4 e5 x0 HKP HKQ HLE HOF HN6 HN3 HN2 HN1
      go_wp2_with fail
      refine (num9_any o2 w6).mono ?_
      rintro e w7 ⟨rfl, rfl⟩
      by_cases h0 : o2 = 0
      case neg =>
        have hne : (o2 != 0) = true := by simpa using h0
        go_wp2_with fail
        refine (LVW.out _ HU6.out).mono ?_
        rintro e wlb ⟨rfl, ulb⟩
        have HLb := Lib.hid (bmore HU6.out ulb)
        clear ulb
        go_wp2_with fail
        go_returns
        exact ⟨rfl, HLb.out⟩
      have hne : (o2 != 0) = false := by simp [h0]
      have hin := HINO.out h0
      have hti : i64R o1 := in_i64 HP6.out.ok.len (.inr hin)
      have PR := Lib.hid (proof_any (R := fun _ => True) HP6.out HK6.out (fun _ _ => trivial) (fun _ _ _ => ⟨fun _ => trivial, fun _ => trivial⟩) hti (fun _ => trivial))
      have FO := Lib.hid (fun (W : World) (h : Below w6.heap.size w6 W) => for_any (HP6.out.below h) (HK6.out.below h) hti)
      have DE := Lib.hid (fun (W : World) (h : Below w6.heap.size w6 W) => derives_any (HP6.out.below h) (HK6.out.below h) hti)
      have x1 := cellB (j := 1) HS6.out rfl
      clear h0 hin hti HINO
      generalize derB (q ++ eq) s o1 = dd at *
      go_wp2_with fail
      refine PR.out.mono ?_
      rintro e w8 ⟨u8, hpr⟩
      have HU8 := Lib.hid u8
      have HS8 := Lib.hid (Hold.below u8 _ _ HS6.out)
      clear u8 PR x1
      have HKP := Lib.hid (fun (V : World) (hb : Below w8.heap.size w8 V) => (show V.cell? ⟨sb, 0, none⟩ = some (.pointer (some ⟨pa, 0, none⟩)) ∧ V.cell? ⟨sb, 1, none⟩ = some (.pointer (some ⟨k, 0, none⟩)) from ⟨cellB (j := 0) (Hold.below hb _ _ HS8.out) rfl, cellB (j := 1) (Hold.below hb _ _ HS8.out) rfl⟩))
      rcases hpr with ⟨rfl, rfl⟩ | ⟨rfl, lv, L, rfl, hrow, hgd, hla, hlr⟩
      · have FN := Lib.hid (fun (W : World) (h : Below w6.heap.size w6 W) => (FO.out W h).mono (R' := fun e w' => e = .returned (.tuple #[.slice none 0 0, .bool false]) ∧ Below W.heap.size W w') (fun e w' hf => by
          rcases hf with ⟨hb, ⟨_, h⟩ | ⟨h, _⟩⟩
          · exact ⟨h, hb⟩
          · cases h))
        clear FO
        go_wp2_with fail
        go_region_held3 (fun V => V.cell? ⟨sb, 0, none⟩ = some (.pointer (some ⟨pa, 0, none⟩)) ∧ V.cell? ⟨sb, 1, none⟩ = some (.pointer (some ⟨k, 0, none⟩))) ((refine HKP.out _ ?_; first | exact bd _ | exact bdn _ _ | exact bmore (bd _) u9))
          (((with_reducible refine (FN.out _ (bmore HU8.out (bd _))).mono ?_); rintro e w9 ⟨rfl, u9⟩))
        have HU9 := Lib.hid (bmore HU8.out (bmore (bd w8) u9))
        have HS9 := Lib.hid (Hold.below (bmore (bd w8) u9) _ _ HS8.out)
        have x1 := cellB (j := 1) HS9.out rfl
        go_wp2_with fail
        refine (DE.out _ HU9.out).mono ?_
        rintro e w10 ⟨rfl, u10⟩
        have HU10 := Lib.hid (bmore HU9.out u10)
        have HT10 := Lib.hid (bmore HU6.out HU10.out)
        go_wp2_with fail
        refine (LVW.out _ HT10.out).mono ?_
        rintro e wlc ⟨rfl, ulc⟩
        have HLc := Lib.hid (bmore HT10.out ulc)
        clear ulc
        go_wp2_with fail
        go_returns
        exact ⟨rfl, HLc.out⟩
      · obtain ⟨la, lc, rfl, hlx⟩ := (row_of_own hrow).at2
        have hll := hgd.len
        have hpl := HP6.out.ok.len
        by_cases h256 : 256 < L.length
        · have FN := Lib.hid (fun (W : World) (h : Below w6.heap.size w6 W) => (FO.out W h).mono (R' := fun e w' => e = .returned (.tuple #[.slice none 0 0, .bool false]) ∧ Below W.heap.size W w') (fun e w' hf => by
            rcases hf with ⟨hb, ⟨h, _⟩ | ⟨_, M, ⟨j, hM⟩, _, _, ⟨_, h⟩ | ⟨h, _⟩⟩⟩
            · cases h
            · exact ⟨h, hb⟩
            · obtain ⟨i, hL⟩ := hlr
              obtain ⟨_, rfl⟩ := hL.det hM
              omega))
          have hc : decide ((L.length : Int) ≤ 256) = false := decide_eq_false (by omega)
          clear FO hrow hlx hgd hla hlr h256
          go_wp2_with fail
          go_region_held3 (fun V => V.cell? ⟨sb, 0, none⟩ = some (.pointer (some ⟨pa, 0, none⟩)) ∧ V.cell? ⟨sb, 1, none⟩ = some (.pointer (some ⟨k, 0, none⟩))) ((refine HKP.out _ ?_; first | exact bd _ | exact bdn _ _ | exact bmore (bd _) u9))
            (((with_reducible refine (FN.out _ (bmore HU8.out (bd _))).mono ?_); rintro e w9 ⟨rfl, u9⟩))
          have HU9 := Lib.hid (bmore HU8.out (bmore (bd w8) u9))
          have HS9 := Lib.hid (Hold.below (bmore (bd w8) u9) _ _ HS8.out)
          have x1 := cellB (j := 1) HS9.out rfl
          go_wp2_with fail
          refine (DE.out _ HU9.out).mono ?_
          rintro e w10 ⟨rfl, u10⟩
          have HU10 := Lib.hid (bmore HU9.out u10)
          have HT10 := Lib.hid (bmore HU6.out HU10.out)
          go_wp2_with fail
          refine (LVW.out _ HT10.out).mono ?_
          rintro e wld ⟨rfl, uld⟩
          have HLd := Lib.hid (bmore HT10.out uld)
          clear uld
          go_wp2_with fail
          go_returns
          exact ⟨rfl, HLd.out⟩
        · have FN := Lib.hid (fun (W : World) (h : Below w6.heap.size w6 W) => (FO.out W h).mono (R' := fun e w' => (∃ ov, e = .returned (.tuple #[ov, .bool true]) ∧ w'.ownsRow W.heap.size OpT 5 ov (L.map (sayP (q ++ eq) gl)).length (opsV (L.map (sayP (q ++ eq) gl)))) ∧ Below W.heap.size W w') (fun e w' hf => by
            rcases hf with ⟨hb, ⟨h, _⟩ | ⟨_, M, ⟨j, hM⟩, _, _, ⟨h, _⟩ | ⟨_, h⟩⟩⟩
            · cases h
            · obtain ⟨i, hL⟩ := hlr
              obtain ⟨_, rfl⟩ := hL.det hM
              omega
            · obtain ⟨i, hL⟩ := hlr
              obtain ⟨_, rfl⟩ := hL.det hM
              exact ⟨h, hb⟩))
          obtain ⟨hne0, hlast⟩ := hla
          have hc : decide ((L.length : Int) ≤ 256) = true := decide_eq_true (by omega)
          have hl0 : 0 < L.length := List.length_pos_iff.2 hne0
          have hc0 : decide ((0 : Int) < (L.length : Int)) = true := decide_eq_true (by omega)
          have HSE := Lib.hid (say_eval HP6.out.ok hgd.fol hne0 (by omega))
          rw [hlast] at HSE
          have HOO := Lib.hid (good_ops HP6.out.ok HP6.out.nok (Nat.le_trans HK6.out.glen hpl) hgd)
          have HML : Hid ((L.map (sayP (q ++ eq) gl)).length = L.length) := Lib.hid (by simp)
          clear FO hrow hlx hgd hlr h256 hlast
          generalize L.map (sayP (q ++ eq) gl) = ol at *
          generalize L.map (·.t) = tl at *
          go_wp2_with fail
          go_region_held3 (fun V => V.cell? ⟨sb, 0, none⟩ = some (.pointer (some ⟨pa, 0, none⟩)) ∧ V.cell? ⟨sb, 1, none⟩ = some (.pointer (some ⟨k, 0, none⟩))) ((refine HKP.out _ ?_; first | exact bd _ | exact bdn _ _ | exact bmore (bd _) u9))
            (((with_reducible refine (FN.out _ (bmore HU8.out (bd _))).mono ?_); rintro e w9 ⟨⟨ov, rfl, hov⟩, u9⟩; obtain ⟨oa, oc, rfl⟩ := (row_of_own hov).shape))
          have HOV := Lib.hid hov
          have hml := HML.out
          clear hov
          rw [hml] at HOV
          have HU9 := Lib.hid (bmore HU8.out (bmore (bd w8) u9))
          have HS9 := Lib.hid (Hold.below (bmore (bd w8) u9) _ _ HS8.out)
          have x1 := cellB (j := 1) HS9.out rfl
          go_wp2_with fail
          refine (DE.out _ HU9.out).mono ?_
          rintro e w10 ⟨rfl, u10⟩
          have HU10 := Lib.hid (bmore HU9.out u10)
          have HT10 := Lib.hid (bmore HU6.out HU10.out)
          have HS10 := Lib.hid (Hold.below u10 _ _ HS9.out)
          have HO10 := Lib.hid (own_hold HOV.out (Hold.below u10))
          clear u10 u9 x1
          have HKR := Lib.hid (fun (V : World) (hb : Below w10.heap.size w10 V) => (show V.cell? ⟨sb, 0, none⟩ = some (.pointer (some ⟨pa, 0, none⟩)) ∧ V.cell? ⟨sb, 1, none⟩ = some (.pointer (some ⟨k, 0, none⟩)) from ⟨cellB (j := 0) (Hold.below hb _ _ HS10.out) rfl, cellB (j := 1) (Hold.below hb _ _ HS10.out) rfl⟩))
          have HKQ := Lib.hid (fun (V : World) (hs : V.heap[sb]? = some (Obj.cells #[.pointer (some ⟨pa, 0, none⟩), .pointer (some ⟨k, 0, none⟩), .pointer (some ⟨ra, 0, none⟩), gvl] SidesT)) => (show V.cell? ⟨sb, 0, none⟩ = some (.pointer (some ⟨pa, 0, none⟩)) ∧ V.cell? ⟨sb, 1, none⟩ = some (.pointer (some ⟨k, 0, none⟩)) from ⟨cellB (j := 0) hs rfl, cellB (j := 1) hs rfl⟩))
          have EV := Lib.hid (fun (W : World) (h : Below w10.heap.size w10 W) => (show Calls Tryd.prog 24 #[.pointer (some ⟨pa, 0, none⟩), .pointer (some ⟨k, 0, none⟩), .slice oa L.length oc] W (fun e w' => e = .returned (.tuple #[.int .i64 o1, .int .i64 0, .int .i64 0]) ∧ Grew W w2.heap.size pa b v6 (q ++ eq) w') from by
            have h1 := eval_any HBS.out (HP6.out.below (bmore HU10.out h)) (HL6.out.below (bmore HU10.out h)) (HK6.out.below (bmore HU10.out h)) SD.out.mbb (by have h2 := own_hold HO10.out (Hold.below h); rw [← HML.out] at h2; exact h2) HOO.out
            rw [HSE.out.1] at h1
            unfold EvPost at h1
            rw [HSE.out.2] at h1
            rw [← HML.out]
            exact h1))
          go_wp2_with fail
          go_region_held3 (fun V => V.cell? ⟨sb, 0, none⟩ = some (.pointer (some ⟨pa, 0, none⟩)) ∧ V.cell? ⟨sb, 1, none⟩ = some (.pointer (some ⟨k, 0, none⟩))) ((first | exact HKQ.out _ HS11.out | (refine HKR.out _ ?_; first | exact bd _ | exact bdn _ _)))
            (((with_reducible refine (EV.out _ (bd _)).mono ?_); rintro e w11 ⟨rfl, g11⟩; have HS11 := Lib.hid (g11.hold (HP6.out.below (bmore HU10.out (bd _))) (T := SidesT) (by decide) (by decide) _ _ (Hold.below (bd _) _ _ HS10.out))))
          have HU11 := Lib.hid (HU2.out.trans (((HV6.out.trans ((bmore HU10.out (bd w10)).mono HV6.out.size)).trans g11.1).mono HU2.out.size))
          clear g11 EV HKR HKQ
          have hoo : (o1 == o1) = true := by simp
          have hll2 : ((L.length : Int) == (L.length : Int)) = true := by simp
          go_wp2_with fail
          refine (num9_any 0 w11).mono ?_
          rintro e w12 ⟨rfl, rfl⟩
          go_wp2_with fail
          refine (LVW.out _ HU11.out).mono ?_
          rintro e wle ⟨rfl, ule⟩
          have HLE := Lib.hid (bmore HU11.out ule)
          clear ule
          go_wp2_with fail
          go_returns
          exact ⟨rfl, HLE.out⟩
end Go.Proofs.YtjpkeoenajlmeaaDoor
namespace Go.Proofs.YtjpkeoenajlmeaaDoor
open Go Go.ChangeShapes Go.WideShapes Go.ChangeAt Go.RowKit
set_option linter.unusedVariables false

theorem rfinds_all {w : World} (hl : Laid w) {fo : Fo} {vn v1 : Value} (hk : IsK w (fun b => b < w.heap.size) vn fo) (hok : OkF fo) {x : Nd × Fo × Value} (e : v1 = .agg (treeA x.1 x.2.2)) (h : IsK w (fun b => b < w.heap.size) x.2.2 x.2.1 ∧ NdOk x.1 ∧ x.1.a = 0 ∧ x.1.b = 0 ∧ OkF x.2.1) : Calls Tryd.prog 4 #[vn, v1] w fun e w' => e = .returned (.bool true) ∧ Below w.heap.size w w' := by
  subst e
  exact rfinds_walk hl hk hok h.1 h.2

set_option maxRecDepth 100000 in
/-- What the walk gives, for every argument. -/
theorem rfinds_contract (H : Type) (enc : TypeId × Value → H) (W : World) (base : Nat) (args : Array Value) (ds gs : List (DataW H)) (before : List MemPlace)
    (hval0 : ∀ (j : Nat) t v, Tryd.f4.params[j]? = some t → args[j]? = some v → Value.okWide Tryd.prog W .any base t v)
    (hW : DataW.Whole enc Tryd.prog Tryd.f4.params.toList Rows.recipeFindsSpec.vars false W args.toList ds gs before) (hL : laidMetH Tryd.prog laidL W) :
    Calls Tryd.prog 4 args W fun e W' => ∃ v, e = .returned v ∧ Rows.recipeFindsSpec.post enc Tryd.prog Tryd.f4 false true false false W args v W' := by
  have hval : ∀ (j : Nat) t v, Tryd.f4.params[j]? = some t → args[j]? = some v → Value.okWide Tryd.prog W .any base t v := hval0
  have hW' := hW
  obtain ⟨p, q, hA0, hV, rfl, hfz, hnd⟩ := hW
  have hA : DataW.TrodAll enc Tryd.prog W 0 (fun _ => true) true Tryd.f4.params.toList args.toList ds p := hA0
  rw [Tryd.params4] at hA hval
  obtain ⟨v0, vs0, d0, ds0, p0, q0, hargs0, rfl, rfl, h0, r0⟩ := trodAll_cons hA
  obtain ⟨v1, vs1, d1, ds1, p1, q1, hargs1, rfl, rfl, h1, r1⟩ := trodAll_cons r0
  obtain ⟨rfl, rfl, rfl⟩ := trodAll_nil r1
  subst hargs1
  obtain rfl : args = #[v0, v1] := by cases args; simp_all
  obtain ⟨rfl, rfl⟩ := trodVars_none hV
  have hv0 := hval 0 22 v0 rfl rfl
  have hc0 : Cell.okWide Tryd.prog W .any base 22 v0 := by simpa only [Value.okWide, Tryd.underlying22] using hv0
  obtain ⟨a0, c0, n0, e0⟩ := okWide_slice Tryd.underlying22 hv0
  obtain ⟨fuel0, hf0⟩ := id h0
  rw [show v0.cells.toList = [v0] by rw [e0]; rfl] at hf0
  obtain ⟨l0, rl0, hs0⟩ := open_trees hc0 hf0
  obtain ⟨l1, e1, hs1⟩ := open_tree (hval 1 27 v1 rfl rfl) h1
  have HL := of_laid hL
  clear hA0 hval0 hL
  simp only [List.append_nil] at hW'
  refine (rfinds_all HL rl0 hs0 e1 hs1).mono fun e W' ⟨he, bel⟩ => ?_
  subst he
  exact ⟨_, rfl, _, _, _, [], _, [], hW', trodAll_mk1 (shut_bool Tryd.underlying4 _), (trodAll_cons_mk (Below.trod laidOut (by kernel_rfl) (of_decide_eq_true (by kernel_rfl)) h0 bel (places_lt h0)) (trodAll_cons_mk (Below.trod laidOut (by kernel_rfl) (of_decide_eq_true (by kernel_rfl)) h1 bel (places_lt h1)) trodAll_mk0)), rfl, bel.frame _, fun h => by cases h⟩

set_option maxRecDepth 100000 in
theorem rfinds_lifted (os : Os) (started : os.Started) (H : Type) (enc : TypeId × Value → H) :
    ReturnsInHanded {} Tryd.checked os 4 .any (fun w args => (Rows.recipeFindsSpec.pre enc Tryd.prog Tryd.f4 [] false w args ∧ laidMetH Tryd.prog laidL w) ∧ sizedMet enc Tryd.prog Tryd.f4 (OpenSpec.ofChange Rows.recipeFindsSpec) false w args)
      (Rows.recipeFindsSpec.post enc Tryd.prog Tryd.f4 false true false false) := by
  refine returnsInHanded_of_change_and (C := Tryd.checked) (X := fun w _ => laidMetH Tryd.prog laidL w) (fun _ _ _ hh h => h.of_heap hh) own started (by kernel_rfl) Tryd.func4
    (ChangeSpec.witness_shaped (enc := enc) (C := Tryd.checked) (os := os) (X := fun w _ => laidMetH Tryd.prog laidL w) false (World.doorLaid Tryd.prog 400 os) #[.slice none 0 0, .agg #[.int .i64 0, .int .i64 0, .int .i64 0, .int .u64 0, .string ⟨#[]⟩, .slice none 0 0]] 8 rfl (World.shaped_of_RefB (by kernel_rfl) (by kernel_rfl)) (by kernel_rfl) (by kernel_rfl) (by kernel_rfl) (door_met os _)) ?_
  intro W base args ds gs before hval hW _ _ hL _
  exact rfinds_contract H enc W base args ds gs before hval hW hL

/-- The row's statement. -/
theorem rfinds_holds : Rows.RecipeFindsSaid :=
  OpenClaim.holds_of_wide 4 Tryd.f4 rfl rfl rfl rfl rfl rfl rfl ⟨rfl, rfl, rfl, rfl, rfl⟩ rfl rfl rfl rfl rfl (by kernel_rfl) Tryd.func4 (by kernel_rfl)
    (of_decide_eq_true (by kernel_rfl)) (by unfold Func.isWrapper; first | (rw [if_pos (by decide +kernel)]; kernel_rfl) | (rw [if_neg (by decide +kernel)]; exact ⟨rfl, rfl⟩))
    (fun os started H enc _ => rfinds_lifted os started H enc)

/-- The card. -/
theorem rfinds_card : Rows.RecipeFindsCardSaid :=
  Claim7.holds_tied_plain_at .later [] [.data] true _ false
    rfinds_holds (fun _ h => by cases h) (by kernel_rfl) (fun _ h => by cases h) recipeFinds_row_tie rfl ⟨rfl, rfl⟩ (by kernel_rfl) rfl
    (fun f fn hf hfn => by
      obtain rfl : f = 4 := Option.some.inj ((show Tryd.prog.funcNamed "escrow/escrowlaw09.RecipeFinds" = some 4 by kernel_rfl).symm.trans hf) |>.symm
      obtain rfl : fn = Tryd.f4 := (Option.some.inj (Tryd.func4.symm.trans hfn)).symm
      exact ⟨by kernel_rfl, fun j t ht => by
        rw [Tryd.params4] at ht
        have hm : t ∈ [22, 27] := by simpa using Array.mem_of_getElem? ht
        have hall : ([22, 27].all fun u => !Tryd.prog.wantsStandIn u) = true := by kernel_rfl
        exact (show Tryd.prog.wantsStandIn t = false by simpa using List.all_eq_true.1 hall t hm)⟩)
    (by kernel_rfl)
#print axioms rfinds_card
end Go.Proofs.YtjpkeoenajlmeaaDoor
