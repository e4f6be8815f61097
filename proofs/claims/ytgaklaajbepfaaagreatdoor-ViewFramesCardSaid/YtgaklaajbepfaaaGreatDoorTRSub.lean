/-
  The document's own Subs: the subterms of a term.
-/
import Derived.Test.YtgaklaajbepfaaaGreatDoorTSubP
import Derived.Test.YtgaklaajbepfaaaGreatDoorTRefP
import Derived.Laws.AppendOwnNone
import Derived.Deep.DeepCutAuto
namespace Go.Proofs.YtgaklaajbepfaaaGreatDoor
open Go.RowKit Go.Maps
set_option linter.unusedVariables false

abbrev WkT : TypeId := 163
abbrev BooT : TypeId := 4
abbrev SlTT : TypeId := 23
theorem rowTT : (Tryz.prog.info? TermT).map (fun i => (i.zero, i.size, i.bytes)) = some (some (.int .i64 0), 1, 8) := by kernel_rfl
theorem ints_oneCellT (l : List Int) : ∀ u ∈ ints l, u.oneCell' = true := by
  intro u hu
  obtain ⟨x, _, rfl⟩ := List.mem_map.1 hu
  rfl
/-- append of one term to a list of the call's own. -/
theorem wpList_append_term {w : World} {ops : Array Oper} {rest : List Oper} {o : Oper} {a : Act} {Q : Exit → Act → World → Prop} (hg : o.guard = none) (s x : Operand)
    (ho : o.op = .call { callee := .builtin .append, args := #[s, x], argTypes := #[SlTT, SlTT] })
    (base : Nat) (v : Value) (xs : List Int) (hs : a.eval s = v) (hown : w.ownsRow base TermT 1 v xs.length (ints xs)) (b : Nat) (t : Int) (hx : a.eval x = .slice (some ⟨b, 0, none⟩) 1 1) (hb : w.cell? ⟨b, 0, none⟩ = some (.int .i64 t))
    (hlen : xs.length ≤ 1000000) (hbase : base ≤ w.heap.size)
    (h : ∀ v' w', w'.ownsRow base TermT 1 v' (xs ++ [t]).length (ints (xs ++ [t])) → w.grownBy w' v.ownBlock → wpList Tryz.prog ops Q rest (a.put o.dst v') w') : wpList Tryz.prog ops Q (o :: rest) a w := by
  obtain ⟨i0, hi, hz0, hz1, hz2⟩ := info_parts rowTT
  refine wpList_plain hg fun K hK => ?_
  refine wp_append_own w s x SlTT ho base TermT i0 (.int .i64 0) 1 8 Tryz.underlying23 hi hz0 hz1 hz2 rfl (by decide) v _ _ hs hown ⟨b, 0, none⟩ 1 1 [.int .i64 t] hx rfl (fun j u hj => by
    cases j with
    | zero => simp at hj; subst hj; exact hb
    | succ j => simp at hj) (by simp; rfl) (by unfold maxLen; omega) (by omega) hbase ?_
  intro v' w' h6 h7 _
  exact hK _ _ (h v' w' (by simpa [ints] using h6) h7)

variable {B a : Nat} {vl vs vd : Value} {p : Pl} {w : World}
theorem ref_kids (h : IsRef w B a vl vs vd p) {n : Nat} (hn : n < p.length) : ∃ gb go cv, vl = .slice (some ⟨gb, go, none⟩) p.length cv ∧ w.cell? ⟨gb, go + n * 7 + 5, none⟩ = some (.int .i64 (p[n]).1.a) ∧ w.cell? ⟨gb, go + n * 7 + 6, none⟩ = some (.int .i64 (p[n]).1.b) := by
  obtain ⟨av, cv, hvv, hx⟩ := (row_of_own h.rl).at2
  obtain ⟨gb, go, rfl, q⟩ := hx (by omega)
  have c5 := q _ _ (nodes_at (nds p) n (by simp [nds]; exact hn)).2.2.2.2.2.1
  have c6 := q _ _ (nodes_at (nds p) n (by simp [nds]; exact hn)).2.2.2.2.2.2
  rw [show (nds p)[n]'(by simp [nds]; exact hn) = (p[n]).1 by simp [nds]] at c5 c6
  exact ⟨gb, go, cv, hvv, by simpa [Nat.add_assoc] using c5, by simpa [Nat.add_assoc] using c6⟩
/-- A walk over a pool of n terms in memory: what was seen, what was told. -/
structure IsWk (w : World) (B2 wb sb a n : Nat) (vo : Value) (sc : Array Value) (acc anc : List Int) : Prop where
  lay : w.heap[wb]? = some (Obj.cells #[.pointer (some ⟨a, 0, none⟩), .slice (some ⟨sb, 0, none⟩) (n + 1) (n + 1), vo] WkT)
  gw : B2 ≤ wb
  sn : w.heap[sb]? = some (Obj.cells sc BooT)
  gs : B2 ≤ sb
  size : sc.size = n + 1
  flag : ∀ x : Nat, 1 ≤ x → x ≤ n → ∃ q, sc[x]? = some (.bool q) ∧ (q = true ↔ (x : Int) ∈ acc ∨ (x : Int) ∈ anc)
  row : w.ownsRow B2 TermT 1 vo acc.length (ints acc)
theorem IsWk.hold {w w' : World} {B2 wb sb a n : Nat} {vo : Value} {sc : Array Value} {acc anc : List Int} (h : IsWk w B2 wb sb a n vo sc acc anc) (h1 : Hold WkT w w') (h2 : Hold BooT w w') (h3 : Hold TermT w w') : IsWk w' B2 wb sb a n vo sc acc anc :=
  ⟨h1 _ _ h.lay, h.gw, h2 _ _ h.sn, h.gs, h.size, h.flag, own_hold h.row h3⟩
def OverPost (w : World) (B2 wb sb a n : Nat) (all anc : List Int) (e : Ending) (w' : World) : Prop :=
  e = .returned (.tuple #[]) ∧ Below B2 w w' ∧ ∃ vo sc, IsWk w' B2 wb sb a n vo sc all anc

set_option maxRecDepth 100000 in
set_option maxHeartbeats 3200000 in
theorem over_out_any {w0 : World} (h0 : IsRef w0 B a vl vs vd p) {wb sb : Nat} {vo : Value} {sc : Array Value} {t : Int} {acc anc : List Int} (hb : Below w0.heap.size w0 w) (hc : ¬ (inP p t = true ∧ t ∉ acc)) (hw : IsWk w w0.heap.size wb sb a p.length vo sc acc anc) :
    Calls Tryz.prog 106 #[.pointer (some ⟨wb, 0, none⟩), .int .i64 t] w (OverPost w w0.heap.size wb sb a p.length acc anc) := by
  have hF : OverPost w w0.heap.size wb sb a p.length acc anc (.returned (.tuple #[])) w := ⟨rfl, Below.refl _ _, vo, sc, hw⟩
  have HF := Lib.hid hF
  have HR := Lib.hid (h0.below hb)
  have z0 := cellB (j := 0) hw.lay rfl
  have z1 := cellB (j := 1) hw.lay rfl
  by_cases hin : inP p t = true
  · have hmem : t ∈ acc := Classical.byContradiction fun h => hc ⟨hin, h⟩
    have HI := Lib.hid hin
    unfold inP at hin
    simp only [Bool.and_eq_true, decide_eq_true_eq] at hin
    obtain ⟨j, rfl⟩ := Int.eq_ofNat_of_zero_le (show 0 ≤ t by omega)
    obtain ⟨q, hq, hqi⟩ := hw.flag j (by omega) (by omega)
    obtain rfl : q = true := hqi.2 (.inl hmem)
    have z2 := cellB (j := j) hw.sn hq
    have j0 : (0 : Int) ≤ (j : Int) := by omega
    have j1 : (j : Int) < ((p.length + 1 : Nat) : Int) := by omega
    clear hF hw hc h0 hb hqi hq hmem hin
    go_enter Tryz.func106, Tryz.ntmps106
    go_wp2_with fail
    refine (rin_yes HR.out HI.out).mono ?_
    rintro e w1 ⟨rfl, rfl⟩
    go_wp2_with fail
    go_returns
    exact HF.out
  · have hin' : inP p t = false := by simpa using hin
    have HI := Lib.hid hin'
    clear hF hw hc h0 hb hin hin'
    go_enter Tryz.func106, Tryz.ntmps106
    go_wp2_with fail
    refine (rin_no HR.out HI.out).mono ?_
    rintro e w1 ⟨rfl, rfl⟩
    go_wp2_with fail
    go_returns
    exact HF.out

theorem IsWk.mark {B2 wb sb n : Nat} {vo : Value} {sc : Array Value} {acc anc : List Int} (h : IsWk w B2 wb sb a n vo sc acc anc) {j : Nat} (h1 : 1 ≤ j) (h2 : j ≤ n) : IsWk (w.setCell ⟨sb, j, none⟩ (.bool true)) B2 wb sb a n vo (sc.setIfInBounds j (.bool true)) acc ((j : Int) :: anc) := by
  have hH : ∀ T, BooT ≠ T → Hold T w (w.setCell ⟨sb, j, none⟩ (.bool true)) := fun T e => Hold.setCell h.sn e
  refine ⟨hH _ (by decide) _ _ h.lay, h.gw, setCellB h.sn, h.gs, by simpa using h.size, fun x x1 x2 => ?_, own_hold h.row (hH _ (by decide))⟩
  by_cases e : j = x
  · subst e
    exact ⟨true, by rw [Array.getElem?_setIfInBounds_self_of_lt (by have := h.size; omega)], by simp⟩
  · obtain ⟨q, hq, hqi⟩ := h.flag x x1 x2
    refine ⟨q, by rw [Array.getElem?_setIfInBounds_ne e]; exact hq, ?_⟩
    rw [hqi]
    simp only [List.mem_cons]
    constructor
    · rintro (h | h)
      · exact .inl h
      · exact .inr (.inr h)
    · rintro (h | h | h)
      · exact .inl h
      · omega
      · exact .inr h

set_option maxRecDepth 100000 in
set_option maxHeartbeats 6400000 in
theorem over_any {w0 : World} (h0 : IsRef w0 B a vl vs vd p) {wb sb : Nat} : ∀ (f : Nat) (t : Int) (acc anc : List Int) (w : World) (vo : Value) (sc : Array Value), (t = 0 ∨ inP p t = true) → t.toNat ≤ f → (∀ x ∈ anc, t < x) → Below w0.heap.size w0 w → IsWk w w0.heap.size wb sb a p.length vo sc acc anc → (over p f t acc).length ≤ 65536 →
    Calls Tryz.prog 106 #[.pointer (some ⟨wb, 0, none⟩), .int .i64 t] w (OverPost w w0.heap.size wb sb a p.length (over p f t acc) anc) := by
  intro f
  induction f with
  | zero =>
    intro t acc anc w vo sc ht htf _ hb hw _
    exact over_out_any h0 hb (fun h => by have := h.1; unfold inP at this; simp at this; omega) hw
  | succ f ih =>
    intro t acc anc w vo sc ht htf hanc hb hw hlen
    by_cases hc : inP p t = true ∧ t ∉ acc
    · obtain ⟨hin, hna⟩ := hc
      rw [over_in p f hin hna] at hlen ⊢
      obtain ⟨ka, kb⟩ := kid_less h0.ok hin
      have HI := Lib.hid hin
      have hi := hin
      unfold inP at hi
      simp only [Bool.and_eq_true, decide_eq_true_eq] at hi
      obtain ⟨n, hn0⟩ := Int.eq_ofNat_of_zero_le (show 0 ≤ t - 1 by omega)
      obtain rfl : t = (n : Int) + 1 := by omega
      have hn : n < p.length := by omega
      rw [getD_at hn] at hlen ka kb ⊢
      have hnanc : (n : Int) + 1 ∉ anc := fun h => absurd (hanc _ h) (Int.lt_irrefl _)
      obtain ⟨q, hq, hqi⟩ := hw.flag (n + 1) (by omega) (by omega)
      obtain rfl : q = false := by
        cases q with
        | false => rfl
        | true => exact absurd (hqi.1 rfl) (by rw [show (((n + 1 : Nat) : Int)) = (n : Int) + 1 by omega]; rintro (h | h); exact hna h; exact hnanc h)
      have KID := Lib.hid (fun (X : World) (hX : Below w0.heap.size w0 X) => ref_kids (h0.below hX) hn)
      have HR := Lib.hid (h0.below hb)
      have z0 := cellB (j := 0) hw.lay rfl
      have z1 := cellB (j := 1) hw.lay rfl
      have z2 := cellB (j := n + 1) hw.sn hq
      have zf := frozenB (j := n + 1) hw.sn
      have hmk := hw.mark (j := n + 1) (by omega) (by omega)
      have hbm : Below w0.heap.size w (w.setCell ⟨sb, n + 1, none⟩ (.bool true)) := (Below.refl _ _).setCell (p := ⟨sb, n + 1, none⟩) hw.gs _
      rw [show (((n + 1 : Nat) : Int)) = (n : Int) + 1 by omega] at hmk
      have HMK := Lib.hid hmk
      have HBM := Lib.hid hbm
      have HB1 := Lib.hid (hb.trans hbm)
      have H0 := Lib.hid h0
      have IH := Lib.hid ih
      have HLEN := Lib.hid hlen
      have HANC := Lib.hid hanc
      have hka : (p[n]).1.a = 0 ∨ inP p (p[n]).1.a = true := ka.imp id (·.1)
      have hkb : (p[n]).1.b = 0 ∨ inP p (p[n]).1.b = true := kb.imp id (·.1)
      have hla : (p[n]).1.a < (n : Int) + 1 := by rcases ka with h | h <;> omega
      have hlb : (p[n]).1.b < (n : Int) + 1 := by rcases kb with h | h <;> omega
      have hsub := (over_more p f (p[n]).1.b (over p f (p[n]).1.a acc)).length_le
      have hn0' : (0 : Int) ≤ (n : Int) := by omega
      have hn1 : (n : Int) + 1 < ((p.length + 1 : Nat) : Int) := by omega
      have hn2 : (n : Int) < (p.length : Int) := by omega
      have hn3 : (n : Int) ≤ 65536 := by have := h0.ok.len; omega
      have htf' : n ≤ f := by omega
      clear hmk hbm h0 ih hlen hanc ka kb hb hw hqi hq hi hn0 hin ht htf hna hnanc
      go_enter Tryz.func106, Tryz.ntmps106
      go_wp2_with fail
      refine (rin_yes HR.out HI.out).mono ?_
      rintro e w1 ⟨rfl, rfl⟩
      go_upto_region 2 with fail
      clear z0 z1 z2 zf HR
      generalize (w.setCell ⟨sb, n + 1, none⟩ (.bool true)) = w1 at *
      have hwr : wrap64 ((n : Int) + 1 - 1) = (n : Int) := by unfold wrap64; omega
      obtain ⟨gb, go, cv, rfl, d5, _⟩ := KID.out w1 HB1.out
      have r0 := cellB (j := 0) (H0.out.below HB1.out).lay rfl
      have z0 := cellB (j := 0) HMK.out.lay rfl
      go_wp2_with fail
      refine (IH.out _ acc _ w1 _ _ hka (by omega) (fun x hx => by
        rcases List.mem_cons.1 hx with rfl | hx
        · exact hla
        · have := HANC.out x hx; omega) HB1.out HMK.out (by have := HLEN.out; simp at this; omega)).mono ?_
      rintro e w2 ⟨rfl, b2, vo2, sc2, k2⟩
      have HK2 := Lib.hid k2
      have HB2 := Lib.hid (HB1.out.trans b2)
      have HBM2 := Lib.hid (HBM.out.trans b2)
      clear k2 b2 d5 r0 z0 HMK HB1 HBM
      obtain ⟨_, _, _, hv2, _, d6⟩ := KID.out w2 HB2.out
      simp only [Value.slice.injEq, Option.some.injEq, Addr.mk.injEq] at hv2
      obtain ⟨⟨rfl, rfl, _⟩, _, rfl⟩ := hv2
      have r0 := cellB (j := 0) (H0.out.below HB2.out).lay rfl
      have z0 := cellB (j := 0) HK2.out.lay rfl
      go_wp2_with fail
      refine (IH.out _ _ _ w2 _ _ hkb (by omega) (fun x hx => by
        rcases List.mem_cons.1 hx with rfl | hx
        · exact hlb
        · have := HANC.out x hx; omega) HB2.out HK2.out (by have := HLEN.out; simp at this; omega)).mono ?_
      rintro e w3 ⟨rfl, b3, vo3, sc3, k3⟩
      have HK3 := Lib.hid k3
      have HB3 := Lib.hid (HB2.out.trans b3)
      have HBM3 := Lib.hid (HBM2.out.trans b3)
      clear k3 b3 d6 r0 z0 HK2 HB2 HBM2
      obtain ⟨oa, oc, rfl⟩ := (row_of_own HK3.out.row).shape
      have z2 := cellB (j := 2) HK3.out.lay rfl
      go_upto_region 4 with fail
      have hbA : Below w3.heap.size w3 (w3.alloc (.cells #[.int .i64 ((n : Int) + 1)] TermT)) := (Below.refl _ _).alloc (Nat.le_refl _) _
      have hx : (w3.alloc (.cells #[.int .i64 ((n : Int) + 1)] TermT)).heap[w3.heap.size]? = some (Obj.cells #[.int .i64 ((n : Int) + 1)] TermT) := heap_alloc_new _ _
      have HK4 := Lib.hid (HK3.out.hold (Hold.below hbA) (Hold.below hbA) (Hold.below hbA))
      have HB4 := Lib.hid (bmore HB3.out hbA)
      have HBM4 := Lib.hid (HBM3.out.trans (hbA.mono HB3.out.size))
      have hxc := cellB (j := 0) hx rfl
      have HLN : Hid ((over p f (p[n]).1.b (over p f (p[n]).1.a acc)).length ≤ 65536) := Lib.hid (by have := HLEN.out; simp at this; omega)
      clear hbA hx HB3 HBM3
      generalize hal : over p f (p[n]).1.b (over p f (p[n]).1.a acc) = al at *
      have HAL := Lib.hid hal
      clear hal
      go_wp2_with (at_builtin; refine wpList_append_term rfl _ _ rfl w0.heap.size _ al rfl HK4.out.row _ _ rfl hxc (by have := HLN.out; omega) HB4.out.size ?_)
      intro v9 w9 o9 g9
      have hown := fun k e => own_type HK4.out.row (g := k) e
      have hH : ∀ T, TermT ≠ T → Hold T (w3.alloc (.cells #[.int .i64 ((n : Int) + 1)] TermT)) w9 := fun T hT b cs hb => by
        rw [g9.block b (Array.getElem?_eq_some_iff.1 hb).1 (fun e' => by
          obtain ⟨_, cur, q⟩ := hown _ e'.symm
          rw [hb] at q
          simp only [Option.some.injEq, Obj.cells.injEq] at q
          exact hT q.2.1.symm)]
        exact hb
      have l9 := hH WkT (by decide) _ _ HK4.out.lay
      have s9 := hH BooT (by decide) _ _ HK4.out.sn
      have HB9 := Lib.hid (HBM4.out.trans (grown_below g9 HB4.out.size (fun k e => (hown k e).1)))
      have z9 := cellB (j := 2) l9 rfl
      have f9 := frozenB (j := 2) l9
      have hS : ∀ T, WkT ≠ T → Hold T w9 (w9.setCell ⟨wb, 2, none⟩ v9) := fun T e => Hold.setCell l9 e
      have HF : Hid (OverPost w w0.heap.size wb sb a p.length (al ++ [(n : Int) + 1]) anc (.returned (.tuple #[])) (w9.setCell ⟨wb, 2, none⟩ v9)) := Lib.hid ⟨rfl, HB9.out.setCell (p := ⟨wb, 2, none⟩) HK4.out.gw _, v9, sc3,
        ⟨setCellB l9, HK4.out.gw, hS _ (by decide) _ _ s9, HK4.out.gs, HK4.out.size, fun x x1 x2 => by
          obtain ⟨q, h1, h2⟩ := HK4.out.flag x x1 x2
          refine ⟨q, h1, ?_⟩
          rw [h2, List.mem_append, List.mem_cons]
          simp [or_assoc], by rw [show (al ++ [(n : Int) + 1]).length = al.length + 1 by simp]; exact own_hold o9 (hS _ (by decide))⟩⟩
      obtain ⟨na, nc, rfl⟩ := (row_of_own o9).shape
      clear hown hH l9 s9 hS o9 g9 HK4 HB4 HBM4 HK3 HB9 z2 hxc
      go_wp2_with fail
      go_returns
      rw [HAL.out]
      exact HF.out
    · rw [over_out p _ hc] at hlen ⊢
      exact over_out_any h0 hb hc hw

def booC (n : Nat) : Array Value := madeCells (Value.bool false).cells (n * 1)
theorem booC_size (n : Nat) : (booC n).size = n := by rw [booC, size_madeCells, Nat.mul_one]
theorem booC_at (n j : Nat) (h : j < n) : (booC n)[j]? = some (.bool false) := by
  unfold booC madeCells
  rw [show (Value.bool false).cells = #[Value.bool false] from rfl]
  simp [h, Nat.mod_one]
theorem rowBo : (Tryz.prog.info? BooT).map (fun i => (i.zero, i.size, i.bytes)) = some (some (.bool false), 1, 1) := by kernel_rfl
set_option maxRecDepth 100000 in
set_option maxHeartbeats 3200000 in
/-- The document's Subs. -/
theorem rsubs (h : IsRef w B a vl vs vd p) (t : Int) : Calls Tryz.prog 73 #[.pointer (some ⟨a, 0, none⟩), .int .i64 t] w fun e w' => ∃ v, e = .returned v ∧ w'.ownsRow w.heap.size TermT 1 v (subs p t).length (ints (subs p t)) ∧ Below w.heap.size w w' := by
  obtain ⟨i1, hi, hz0, hz1, hz2⟩ := info_parts rowBo
  have hlen : p.length ≤ 65536 := h.ok.len
  have hmk : ∀ W : World, (Instr.makeSlice 105 (.int .i64 ((p.length : Int) + 1)) (.int .i64 ((p.length : Int) + 1))).run Tryz.prog W = .ok (.slice (some ⟨W.heap.size, 0, none⟩) (p.length + 1) (p.length + 1)) (W.alloc (.cells (booC (p.length + 1)) BooT)) := fun W => by
    have := run_make (P := Tryz.prog) W 105 BooT i1 (.bool false) Tryz.underlying105 hi hz0 .i64 .i64 (p.length + 1) (p.length + 1) (by omega) (Int.le_refl _) (by rw [hz2]; omega) (by omega)
    rw [hz1] at this
    simpa [booC] using this
  have HMK := Lib.hid hmk
  have hmk2 := hmk w
  obtain ⟨av, cv, rfl⟩ := (row_of_own h.rl).shape
  have r0 := cellB (j := 0) h.lay rfl
  have hn1 : (p.length : Int) ≤ 65536 := by omega
  have H := Lib.hid h
  clear hi hz0 hz1 hz2 hmk h
  have ho : ∀ X t', (t' = 0 ∨ inP p t' = true) → Below w.heap.size w X → IsWk X w.heap.size (w.heap.size + 1) w.heap.size a p.length (.slice none 0 0) (booC (p.length + 1)) [] [] →
      Calls Tryz.prog 106 #[.pointer (some ⟨w.heap.size + 1, 0, none⟩), .int .i64 t'] X (OverPost X w.heap.size (w.heap.size + 1) w.heap.size a p.length (subs p t') []) := fun X t' ht hX hk =>
    over_any H.out p.length t' [] [] X _ _ ht (by
      rcases ht with rfl | ht
      · exact Nat.zero_le _
      · unfold inP at ht; simp at ht; omega) (fun x hx => by cases hx) hX hk (Nat.le_trans (subs_len H.out.ok t') H.out.ok.len)
  have hall : ∀ X, Below w.heap.size w X → IsWk X w.heap.size (w.heap.size + 1) w.heap.size a p.length (.slice none 0 0) (booC (p.length + 1)) [] [] →
      Calls Tryz.prog 106 #[.pointer (some ⟨w.heap.size + 1, 0, none⟩), .int .i64 t] X (OverPost X w.heap.size (w.heap.size + 1) w.heap.size a p.length (subs p t) []) := fun X hX hk => by
    by_cases ht : inP p t = true
    · exact ho X t (.inr ht) hX hk
    · have e : subs p t = [] := over_out p _ (fun x => ht x.1)
      rw [e]
      exact over_out_any H.out hX (fun x => ht x.1) hk
  have HALL := Lib.hid hall
  clear ho hall
  go_enter Tryz.func73, Tryz.ntmps73
  go_wp2_with fail
  have b0 : Below w.heap.size w ((w.alloc (.cells (booC (p.length + 1)) BooT)).alloc (.cells #[.pointer (some ⟨a, 0, none⟩), .slice (some ⟨w.heap.size, 0, none⟩) (p.length + 1) (p.length + 1), .slice none 0 0] WkT)) := ((Below.refl _ _).alloc (Nat.le_refl _) _).alloc (by simp) _
  have h0 : ((w.alloc (.cells (booC (p.length + 1)) BooT)).alloc (.cells #[.pointer (some ⟨a, 0, none⟩), .slice (some ⟨w.heap.size, 0, none⟩) (p.length + 1) (p.length + 1), .slice none 0 0] WkT)).heap[w.heap.size]? = some (Obj.cells (booC (p.length + 1)) BooT) := by
    rw [(((Below.refl _ _).alloc (Nat.le_refl _) _ : Below (w.alloc (.cells (booC (p.length + 1)) BooT)).heap.size (w.alloc (.cells (booC (p.length + 1)) BooT)) _)).block _ (by simp)]
    exact heap_alloc_new _ _
  have h1 : ((w.alloc (.cells (booC (p.length + 1)) BooT)).alloc (.cells #[.pointer (some ⟨a, 0, none⟩), .slice (some ⟨w.heap.size, 0, none⟩) (p.length + 1) (p.length + 1), .slice none 0 0] WkT)).heap[w.heap.size + 1]? = some (Obj.cells #[.pointer (some ⟨a, 0, none⟩), .slice (some ⟨w.heap.size, 0, none⟩) (p.length + 1) (p.length + 1), .slice none 0 0] WkT) := by
    have e : w.heap.size + 1 = (w.alloc (.cells (booC (p.length + 1)) BooT)).heap.size := by simp
    rw [e]; exact heap_alloc_new _ _
  refine (HALL.out _ b0 ⟨h1, Nat.le_succ _, h0, Nat.le_refl _, booC_size _, fun x x1 x2 => ⟨false, booC_at _ _ (by omega), by simp⟩, World.ownsRow_nil _ _ _ 1⟩).mono ?_
  rintro e w2 ⟨rfl, b2, vo, sc, k2⟩
  have HB := Lib.hid (b0.trans b2)
  have HK := Lib.hid k2
  obtain ⟨oa, oc, rfl⟩ := (row_of_own k2.row).shape
  have z2 := cellB (j := 2) k2.lay rfl
  clear b0 h0 h1 b2 k2 HALL HMK hmk2 r0
  go_wp2_with fail
  go_returns
  exact ⟨_, rfl, HK.out.row, HB.out⟩
end Go.Proofs.YtgaklaajbepfaaaGreatDoor
