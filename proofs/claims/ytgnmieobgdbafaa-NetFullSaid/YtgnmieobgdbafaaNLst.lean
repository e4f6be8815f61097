/-
  Flying, Heard, Ready of the program's net; lists that are the same.
-/
import Derived.Test.YtgnmieobgdbafaaNDel
import Derived.LoopN
namespace Go.Proofs.Ytgnmieobgdbafaa
open Go.RowKit
set_option linter.unusedVariables false
theorem eq_pk (p : Pk) (W : World) : (binOp .eql PkT (.agg #[.int .i64 p.id, .int .i64 (p.fr : Int), .int .i64 (p.tt : Int), .string p.bd, .int .i64 p.hl]) (.agg #[.int .i64 p.id, .int .i64 (p.fr : Int), .int .i64 (p.tt : Int), .string p.bd, .int .i64 p.hl])).run Try.prog W = .ok (.bool true) W := by
  have hp : Try.prog.stoodInHeld PkT = false := by kernel_rfl
  have hu := Try.underlying39
  rw [run_eql_struct]
  rw [run_equalIn_agg (P := Try.prog) W 9999 PkT _ _ (by simp [Program.fieldsOf, hu]) hp]
  simp only [Program.fieldsOf, hu]
  simp [Op.eqFields, go_sem]
theorem neq_pk (p : Pk) (W : World) : (binOp .neq PkT (.agg #[.int .i64 p.id, .int .i64 (p.fr : Int), .int .i64 (p.tt : Int), .string p.bd, .int .i64 p.hl]) (.agg #[.int .i64 p.id, .int .i64 (p.fr : Int), .int .i64 (p.tt : Int), .string p.bd, .int .i64 p.hl])).run Try.prog W = .ok (.bool false) W := by
  have hp : Try.prog.stoodInHeld PkT = false := by kernel_rfl
  have hu := Try.underlying39
  rw [run_neq_struct]
  rw [run_equalIn_agg (P := Try.prog) W 9999 PkT _ _ (by simp [Program.fieldsOf, hu]) hp]
  simp only [Program.fieldsOf, hu]
  simp [Op.eqFields, go_sem]
theorem nil_no (a : Addr) (n c : Nat) (W : World) : (binOp .eql SlP (.slice (some a) n c) (.slice none 0 0)).run Try.prog W = .ok (.bool false) W := by kernel_rfl
theorem nil_yes (W : World) : (binOp .eql SlP (.slice none 0 0) (.slice none 0 0)).run Try.prog W = .ok (.bool true) W := by kernel_rfl
theorem own_newP {w : World} {B : Nat} (hB : B ≤ w.heap.size) : (w.alloc (.cells #[] PkT)).ownsRow B PkT 5 (.slice (some ⟨w.heap.size, 0, none⟩) 0 0) ([] : List Pk).length (pks []) :=
  ⟨rfl, .inr ⟨w.heap.size, 0, #[], rfl, hB, heap_alloc_new _ _, Nat.le_refl _, by unfold maxLen; omega, rfl, rfl⟩⟩
theorem wpList_apps {w : World} {ops : Array Oper} {rest : List Oper} {o : Oper} {a : Act} {Q : Exit → Act → World → Prop} (hg : o.guard = none) (s x : Operand)
    (ho : o.op = .call { callee := .builtin .append, args := #[s, x], argTypes := #[SlP, SlP] })
    (base : Nat) (v : Value) (xs : List Pk) (hs : a.eval s = v) (hown : w.ownsRow base PkT 5 v xs.length (pks xs)) (vx : Value) (l : List Pk) (hx : a.eval x = vx) (hrd : Row w 5 vx l.length (pks l))
    (hlen : xs.length + l.length ≤ 1000000) (hbase : base ≤ w.heap.size)
    (h : ∀ v' w', w'.ownsRow base PkT 5 v' (xs ++ l).length (pks (xs ++ l)) → w.grownBy w' v.ownBlock → (v'.ownBlock = v.ownBlock ∨ v'.ownBlock = some w.heap.size) → wpList Try.prog ops Q rest (a.put o.dst v') w') : wpList Try.prog ops Q (o :: rest) a w :=
  wpList_plain hg fun _ hK => wp_apps s x ho base v xs hs hown vx l hx hrd hlen hbase fun v' w' h2 h3 h4 => hK _ _ (h v' w' h2 h3 h4)
set_option maxRecDepth 100000 in
set_option maxHeartbeats 3200000 in
theorem clone_any {w : World} {v : Value} {L : List Pk} (h : Row w 5 v L.length (pks L)) (hl : L.length ≤ 500000) :
    Calls Try.prog 47 #[v] w fun e w' => (∃ v', e = .returned v' ∧ w'.ownsRow w.heap.size PkT 5 v' L.length (pks L)) ∧ Below w.heap.size w w' := by
  have h' := h
  rcases h.2 with ⟨rfl, h0⟩ | ⟨b, off, cap, rfl, h1, h2, h3, h4⟩
  · obtain rfl : L = [] := List.eq_nil_of_length_eq_zero h0
    clear h h'
    have hq := fun W => nil_yes W
    go_enter Try.func47, Try.ntmps47
    go_wp2_with fail
    go_returns
    refine ⟨⟨_, rfl, World.ownsRow_nil _ _ _ 5⟩, Below.refl _ _⟩
  · have b0 : Below w.heap.size w (w.alloc (.cells #[] PkT)) := (Below.refl _ _).alloc (Nat.le_refl _) _
    have HR := Lib.hid (h'.below b0)
    have HB := Lib.hid b0
    have HL := Lib.hid hl
    clear h h' h1 h2 h3 h4 b0 hl
    have hq := fun W => nil_no ⟨b, off, none⟩ L.length cap W
    go_enter Try.func47, Try.ntmps47
    go_wp2_with (at_builtin; refine wpList_apps rfl _ _ rfl w.heap.size _ [] rfl (own_newP (Nat.le_refl _)) _ L rfl HR.out (by rw [List.length_nil, Nat.zero_add]; exact Nat.le_trans HL.out (by decide)) HB.out.size ?_)
    intro v' w' o' g' at'
    have HO : Hid (w'.ownsRow w.heap.size PkT 5 v' L.length (pks L)) := Lib.hid (by simpa using o')
    have HB2 := Lib.hid (HB.out.grown g' HB.out.size (fun k hk => by cases hk; exact Nat.le_refl _))
    clear o' g' at'
    go_wp2_with fail
    go_returns
    exact ⟨⟨_, rfl, HO.out⟩, HB2.out⟩
set_option maxRecDepth 100000 in
set_option maxHeartbeats 3200000 in
theorem flying_any {w : World} {B a : Nat} {F H : Value} {x : Nt} (h : IsN w B a F H x) (hl : x.fl.length ≤ 500000) :
    Calls Try.prog 24 #[.pointer (some ⟨a, 0, none⟩)] w fun e w' => (∃ v', e = .returned v' ∧ w'.ownsRow w.heap.size PkT 5 v' x.fl.length (pks x.fl)) ∧ Below w.heap.size w w' := by
  have hc := clone_any (row_of_own h.rowF) hl
  have c1 := h.c0.2.1
  clear h
  go_enter Try.func24, Try.ntmps24
  go_wp2_with fail
  refine hc.mono ?_
  rintro e w1 ⟨⟨v, rfl, h1⟩, b1⟩
  have H1 := Lib.hid h1
  have B1 := Lib.hid b1
  clear h1 b1 hc c1
  go_wp2_with fail
  go_returns
  exact ⟨⟨_, rfl, H1.out⟩, B1.out⟩
set_option maxRecDepth 100000 in
set_option maxHeartbeats 3200000 in
theorem heard_any {w : World} {B a : Nat} {F H : Value} {x : Nt} (h : IsN w B a F H x) (hl : x.hd.length ≤ 500000) :
    Calls Try.prog 17 #[.pointer (some ⟨a, 0, none⟩)] w fun e w' => (∃ v', e = .returned v' ∧ w'.ownsRow w.heap.size PkT 5 v' x.hd.length (pks x.hd)) ∧ Below w.heap.size w w' := by
  have hc := clone_any (row_of_own h.rowH) hl
  have c1 := h.c0.2.2
  clear h
  go_enter Try.func17, Try.ntmps17
  go_wp2_with fail
  refine hc.mono ?_
  rintro e w1 ⟨⟨v, rfl, h1⟩, b1⟩
  have H1 := Lib.hid h1
  have B1 := Lib.hid b1
  clear h1 b1 hc c1
  go_wp2_with fail
  go_returns
  exact ⟨⟨_, rfl, H1.out⟩, B1.out⟩
abbrev ElI : TypeId := 3
abbrev SlI : TypeId := 33
theorem rowI : (Try.prog.info? ElI).map (fun i => (i.zero, i.size, i.bytes)) = some (some (.int .i64 0 : Value), 1, 8) := by kernel_rfl
/-- append of one int to a row of the call's own. -/
theorem wpList_appI {w : World} {ops : Array Oper} {rest : List Oper} {o : Oper} {a : Act} {Q : Exit → Act → World → Prop} (hg : o.guard = none) (s x : Operand)
    (ho : o.op = .call { callee := .builtin .append, args := #[s, x], argTypes := #[SlI, SlI] })
    (base : Nat) (v : Value) (xs : List Int) (hs : a.eval s = v) (hown : w.ownsRow base ElI 1 v xs.length (ints xs)) (b : Nat) (t : Int) (hx : a.eval x = .slice (some ⟨b, 0, none⟩) 1 1) (hb : w.cell? ⟨b, 0, none⟩ = some (.int .i64 t))
    (hlen : xs.length ≤ 1000000) (hbase : base ≤ w.heap.size)
    (h : ∀ v' w', w'.ownsRow base ElI 1 v' (xs ++ [t]).length (ints (xs ++ [t])) → w.grownBy w' v.ownBlock → (v'.ownBlock = v.ownBlock ∨ v'.ownBlock = some w.heap.size) → wpList Try.prog ops Q rest (a.put o.dst v') w') : wpList Try.prog ops Q (o :: rest) a w := by
  obtain ⟨i0, hi, hz0, hz1, hz2⟩ := info_parts rowI
  refine wpList_append_at w hg s x SlI ho base ElI i0 (.int .i64 0) 1 8 Try.underlying33 hi hz0 hz1 hz2 rfl (by decide) v _ _ hs hown ⟨b, 0, none⟩ 1 1 [.int .i64 t] hx (by decide) rfl (fun j u hj => by
    cases j with
    | zero => simp at hj; subst hj; exact hb
    | succ j => simp at hj) (by simp; rfl) (by unfold maxLen; omega) (by omega) hbase ?_
  intro v' w' h6 h7 h8
  exact h v' w' (by rw [ints_append]; simpa [ints] using h6) h7 h8
theorem readyP_snoc (x : Nt) : ∀ (l : List Pk) (p : Pk) (k : Nat), readyP x (l ++ [p]) k = if stopP x p = 0 then readyP x l k ++ [((k + l.length : Nat) : Int)] else readyP x l k := by
  intro l
  induction l with
  | nil => intro p k; simp [readyP]
  | cons q l ih =>
    intro p k
    simp only [List.cons_append, readyP, ih p (k + 1), List.length_cons]
    rw [show k + 1 + l.length = k + (l.length + 1) by omega]
    split <;> split <;> simp
theorem readyP_len (x : Nt) : ∀ (l : List Pk) (k : Nat), (readyP x l k).length ≤ l.length := by
  intro l
  induction l with
  | nil => intro k; simp [readyP]
  | cons q l ih =>
    intro k
    have := ih (k + 1)
    simp only [readyP]
    split <;> simp <;> omega
theorem ready_take (x : Nt) {l : List Pk} {k : Nat} {p : Pk} (h : l[k]? = some p) : readyP x (l.take (k + 1)) 0 = if stopP x p = 0 then readyP x (l.take k) 0 ++ [(k : Int)] else readyP x (l.take k) 0 := by
  obtain ⟨h1, h2⟩ := List.getElem?_eq_some_iff.1 h
  rw [← List.take_append_getElem h1, h2, readyP_snoc]
  have : (l.take k).length = k := by simp; omega
  rw [this, Nat.zero_add]
set_option maxRecDepth 100000 in
set_option maxHeartbeats 3200000 in
theorem ready_any {w : World} {B a : Nat} {F H : Value} {x : Nt} (h : IsN w B a F H x) (hl : x.fl.length ≤ 5000) (hn : ∀ p ∈ x.fl, p.fr < 3 ∧ p.tt < 3) :
    Calls Try.prog 26 #[.pointer (some ⟨a, 0, none⟩)] w fun e w' => (∃ v', e = .returned v' ∧ w'.ownsRow w.heap.size ElI 1 v' (readyP x x.fl 0).length (ints (readyP x x.fl 0))) ∧ Below w.heap.size w w' := by
  have c1 := h.c0.2.1
  obtain ⟨fa, fc, rfl⟩ := slice_of h.rowF
  have H0 := Lib.hid h
  have HL := Lib.hid hl
  have HN := Lib.hid hn
  clear h hl hn
  go_enter Try.func26, Try.ntmps26
  go_wp2_with fail
  go_loopw [13, 3] (fun v u wr => ∃ k : Nat, v = .int .i64 (k : Int) ∧ k ≤ x.fl.length ∧ wr.ownsRow w.heap.size ElI 1 u (readyP x (x.fl.take k) 0).length (ints (readyP x (x.fl.take k) 0)) ∧ Below w.heap.size w wr) (fun v _ _ => x.fl.length - (intOf v).toNat)
  case atStart => exact ⟨0, rfl, Nat.zero_le _, World.ownsRow_nil _ _ _ 1, Below.refl _ _⟩
  case round =>
    obtain ⟨k, rfl, hk, hO, hb⟩ := hrel
    have HO := Lib.hid hO
    have HB := Lib.hid hb
    clear hO hb
    by_cases hlt : k < x.fl.length
    · obtain ⟨p, hp⟩ : ∃ p, x.fl[k]? = some p := ⟨_, List.getElem?_eq_getElem hlt⟩
      obtain ⟨gg, gc, hg⟩ := own_slice H0.out.rowF (by omega)
      have hg2 : fa = some ⟨gg, 0, none⟩ := by
        have := hg; simp only [Value.slice.injEq] at this; exact this.1
      subst hg2
      have hI := H0.out.below HB.out
      have hla := (laid_of_own hI.rowF).1
      obtain ⟨t0, t1, t2, t3, t4⟩ := hla.at5 hp
      have hpn := HN.out p (List.mem_of_getElem? hp)
      have b1 : Below wr.heap.size wr (wr.alloc (.cells (pkCells p) PkT)) := (Below.refl _ _).alloc (Nat.le_refl _) _
      have hst := stops_any (hI.below b1) p hpn.1 hpn.2
      have HRT := Lib.hid (ready_take x hp)
      have B1 := Lib.hid (bmore HB.out b1)
      have O1 := Lib.hid (own_hold HO.out (Hold.below b1))
      have i0 : (0 : Int) ≤ (k : Int) := by omega
      have i1 : (k : Int) < (x.fl.length : Int) := by omega
      have hw2 : IntKind.i64.wrap ((k : Int) + 1) = (k : Int) + 1 := IntWalk.i64_in _ (by have := HL.out; omega)
      have hp1 : decide ((k : Int) < (x.fl.length : Int)) = true := by simpa using hlt
      have HLT := Lib.hid hlt
      have HRL := Lib.hid (Nat.le_trans (readyP_len x (x.fl.take k) 0) (show (x.fl.take k).length ≤ 5000 by have := HL.out; simp; omega))
      generalize stopP x p = s at *
      clear hI hla hp hpn b1 hlt hk hg
      by_cases hs : s = 0
      · subst hs
        go_wp2_with fail
        refine hst.mono ?_
        rintro e w2 ⟨rfl, b2⟩
        have B2 := Lib.hid (bmore B1.out b2)
        have b3 : Below w2.heap.size w2 (w2.alloc (.cells #[.int .i64 (k : Int)] ElI)) := (Below.refl _ _).alloc (Nat.le_refl _) _
        have B3 := Lib.hid (bmore B2.out b3)
        have O3 := Lib.hid (own_hold (own_hold O1.out (Hold.below b2)) (Hold.below b3))
        have q5 := cellB (j := 0) (heap_alloc_new w2 (.cells #[.int .i64 (k : Int)] ElI)) rfl
        have Q5 := Lib.hid q5
        clear hst b2 b3 t0 t1 t2 t3 t4 c1 q5
        go_wp2_with (at_builtin; refine wpList_appI rfl _ _ rfl w.heap.size _ (readyP x (x.fl.take k) 0) rfl O3.out _ (k : Int) rfl Q5.out (Nat.le_trans HRL.out (by decide)) B3.out.size ?_)
        intro v4 w4 o4 g4 at4
        have O4 : Hid (w4.ownsRow w.heap.size ElI 1 v4 (readyP x (x.fl.take (k + 1)) 0).length (ints (readyP x (x.fl.take (k + 1)) 0))) := Lib.hid (by rw [HRT.out, if_pos trivial]; simpa using o4)
        have B4 := Lib.hid (B3.out.grown g4 B3.out.size (fun j hj => (own_from O3.out hj).1))
        clear o4 g4 at4
        go_wp2_with fail
        go_roundw
        case rel => exact ⟨k + 1, by simp, HLT.out, O4.out, B4.out⟩
        case measure => have := HLT.out; simp [intOf]; omega
      · have hs2 : (s == 0) = false := by simpa using hs
        have hs3 : decide (s = 0) = false := by simpa using hs
        have HRT2 : Hid (readyP x (x.fl.take (k + 1)) 0 = readyP x (x.fl.take k) 0) := Lib.hid (by rw [HRT.out, if_neg hs])
        go_wp2_with fail
        refine hst.mono ?_
        rintro e w2 ⟨rfl, b2⟩
        have B2 := Lib.hid (bmore B1.out b2)
        have O2 := Lib.hid (own_hold O1.out (Hold.below b2))
        clear hst b2 t0 t1 t2 t3 t4 c1
        go_wp2_with fail
        go_roundw
        case rel => exact ⟨k + 1, by simp, HLT.out, by rw [HRT2.out]; exact O2.out, B2.out⟩
        case measure => have := HLT.out; simp [intOf]; omega
    · obtain rfl : k = x.fl.length := by omega
      have hp1 : decide ((x.fl.length : Int) < (x.fl.length : Int)) = false := by simp
      clear hlt hk
      go_wp2_with fail
      go_returns
      have := HO.out
      rw [List.take_length] at this
      exact ⟨⟨_, rfl, this⟩, HB.out⟩
end Go.Proofs.Ytgnmieobgdbafaa
