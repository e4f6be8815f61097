/-
  What the law's tells answers of a wheel and the document's that are alike.
-/
import Derived.Test.YtbgnedeeeaapfaaWLst
import Derived.Test.YtbgnedeeeaapfaaWRu
import Derived.Test.YtbgnedeeeaapfaaW6S
import Derived.Deep.RegionWith
import Derived.BigQuiet
namespace Go.Proofs.Ytbgnedeeeaapfaa
open Go.RowKit Go.Maps
set_option linter.unusedVariables false
theorem vals_strs {l : List Tm} (h : ∀ t ∈ l, ∃ s : ByteArray, t.v = .string s) : ∃ bs : List ByteArray, valsL l = strs bs ∧ bs.length = l.length := by
  induction l with
  | nil => exact ⟨[], rfl, rfl⟩
  | cons t l ih =>
    obtain ⟨bs, h1, h2⟩ := ih fun u hu => h u (by simp [hu])
    obtain ⟨s, hs⟩ := h t (by simp)
    exact ⟨s :: bs, by simp [valsL, strs, hs] at h1 ⊢; exact h1, by simp [h2]⟩
theorem own_cells {w : World} {B n : Nat} {v : Value} {xs : List Value} (h : w.ownsRow B ElTS 1 v n xs) : ∃ ua uc, v = .slice ua n uc ∧ (0 < n → ∃ g cur, ua = some ⟨g, 0, none⟩ ∧ w.heap[g]? = some (Obj.cells cur ElTS) ∧ n ≤ cur.size ∧ B ≤ g) := by
  rcases h.2 with ⟨rfl, rfl⟩ | ⟨g, cap, cur, rfl, hb, hg, h1, h2, h3, h4⟩
  · exact ⟨_, _, rfl, fun h => absurd h (by omega)⟩
  · exact ⟨_, _, rfl, fun _ => ⟨g, cur, rfl, hg, by omega, hb⟩⟩
theorem list_calls {w : World} {a mb : Nat} {cv : Value} {tn : Bool} {x : Wh} (h : IsWS w a mb cv tn x) :
    Calls Try.prog 53 #[.pointer (some ⟨a, 0, none⟩)] w fun e w' => ∃ u, e = .returned u ∧ w'.ownsRow w.heap.size ElTS 1 u x.ts.length (valsL x.ts) ∧ Below w.heap.size w w' := callsIn_wide.1 (listS h)
theorem now_quiet {w : World} {a mb : Nat} {cv : Value} {tn : Bool} {x : Wh} (h : IsWS w a mb cv tn x) (n : Nat) : Calls Try.prog 16 #[.pointer (some ⟨a, 0, none⟩)] (w.drewN n) fun e w' => e = .returned (.int .i64 x.now) ∧ ∃ m, w' = w.drewN m :=
  Calls.quiet_of ((nowS (h.below (bdn w n))).mono fun _ _ ⟨h1, h2⟩ => ⟨h1, 0, h2.symm⟩)
theorem len_quiet {w : World} {a mb : Nat} {cv : Value} {tn : Bool} {x : Wh} (h : IsWS w a mb cv tn x) (n : Nat) : Calls Try.prog 43 #[.pointer (some ⟨a, 0, none⟩)] (w.drewN n) fun e w' => e = .returned (.int .i64 (x.ts.length : Int)) ∧ ∃ m, w' = w.drewN m :=
  Calls.quiet_of ((lenS (h.below (bdn w n))).mono fun _ _ ⟨h1, h2⟩ => ⟨h1, 0, h2.symm⟩)
set_option maxRecDepth 100000 in
set_option maxHeartbeats 3200000 in
theorem tells_any {w : World} {a mb r B : Nat} {sl : Value} {x : Wh} (h : IsWS w a mb (.slice none 0 0) false x) (hr : IsR w B r sl x) {i : Int} (hi : i64R i) :
    Calls Try.prog 13 #[.pointer (some ⟨a, 0, none⟩), .pointer (some ⟨r, 0, none⟩), .int .i64 i] w fun e w' => e = .returned (.bool true) ∧ Below w.heap.size w w' := by
  have HW := Lib.hid h
  have HR := Lib.hid hr
  have HI := Lib.hid hi
  have HN := Lib.hid (show x.ts.length ≤ 4096 from h.good.len)
  obtain ⟨sa, sc, hsl⟩ := (row_of_own hr.row).shape
  subst hsl
  clear h hr hi
  have HD := dueS HW.out HI.out
  have HF := fun (W : World) (hb : Below w.heap.size w W) => rfind_any (HR.out.below hb) i (by have := HN.out; omega)
  have HX := fun (W : World) (hb : Below w.heap.size w W) => nextS (HW.out.below hb)
  cases e : fnd x.ts i with
  | none =>
    have e1 : duePS x i = 0 := by unfold duePS; rw [e]
    rw [e1, e] at HD
    rw [idxP_none e] at HF
    have HD := Lib.hid HD
    have HF := Lib.hid HF
    cases hts : x.ts with
    | nil =>
      have e2 : nextP x = 0 := by unfold nextP; rw [hts]
      rw [e2] at HX
      have HE : Hid (x.ts.isEmpty = true ∧ x.ts.length = 0) := Lib.hid (by rw [hts]; exact ⟨rfl, rfl⟩)
      rw [HE.out.1] at HX
      have HX := Lib.hid HX
      clear e e1 e2 hts
      go_enter Try.func13, Try.ntmps13
      go_wp2_with fail
      refine HD.out.mono ?_
      rintro e w1 ⟨rfl, b1⟩
      have B1 := Lib.hid b1
      clear b1
      go_wp2_with fail
      refine (HF.out w1 B1.out).mono ?_
      rintro e w2 ⟨rfl, rfl⟩
      go_wp2_with fail
      refine (HX.out w1 B1.out).mono ?_
      rintro e w3 ⟨rfl, b3⟩
      have B3 := Lib.hid (B1.out.trans (b3.mono B1.out.size))
      have HW3 := Lib.hid (HW.out.below B3.out)
      have hr3 := HR.out.below B3.out
      have c0 := cellB (j := 0) hr3.lay rfl
      have c2 := cellB (j := 2) hr3.lay rfl
      have HR3 := Lib.hid hr3
      clear b3 hr3
      have hl1 : decide ((0 : Int) < (x.ts.length : Int)) = false := by rw [HE.out.2]; rfl
      have hl2 : decide (0 < x.ts.length) = false := by rw [HE.out.2]; rfl
      have hl3 : ¬ 0 < x.ts.length := by rw [HE.out.2]; omega
      go_wp2_with fail
      go_quiet (first | (go_at_call 16; exact now_quiet HW3.out _) | (go_at_call 43; exact len_quiet HW3.out _))
      have B4 := Lib.hid (B3.out.trans ((bdn w3 nq).mono B3.out.size))
      clear c0 c2 HR3
      generalize w3.drewN nq = w4 at *
      have c2 := cellB (j := 2) (HR.out.below B4.out).lay rfl
      go_wp2_with fail
      clear hl1 hl2 hl3
      refine (list_calls (HW.out.below B4.out)).mono ?_
      rintro e w5 ⟨u, rfl, o5, b5⟩
      have B5 := Lib.hid (B4.out.trans (b5.mono B4.out.size))
      have O5 := Lib.hid o5
      have c2 := cellB (j := 2) (HR.out.below B5.out).lay rfl
      clear o5 b5
      go_wp2_with fail
      refine (rvalues_any (HR.out.below B5.out).row HR.out.vals (by have := HN.out; omega)).mono ?_
      rintro e w6 ⟨v6, rfl, o6, b6⟩
      have O6 := Lib.hid (own_hold O5.out (Hold.below b6))
      have B6 := Lib.hid (B5.out.trans (b6.mono B5.out.size))
      have R6 := Lib.hid (row_of_own o6)
      clear o6 b6 c2
      obtain ⟨bs, hbs, hbl⟩ := vals_strs HR.out.vals
      have HBS := Lib.hid (show valsL x.ts = strs bs ∧ x.ts.length = bs.length from ⟨hbs, hbl.symm⟩)
      clear hbs hbl
      go_wp2_with fail
      refine (texts_any (xs := bs) (ys := bs) (by have h := row_of_own O6.out; rw [HBS.out.1, HBS.out.2] at h; exact h) (by have h := R6.out; rw [HBS.out.1, HBS.out.2] at h; exact h) (by have := HN.out; have := HBS.out.2; omega) (by have := HN.out; have := HBS.out.2; omega)).mono ?_
      rintro e w7 ⟨rfl, d7⟩
      rw [decide_eq_true (rfl : bs = bs)]
      have B7 := Lib.hid (B6.out.trans (d7.below.mono B6.out.size))
      have O7 := Lib.hid (own_hold O6.out (Hold.below d7.below))
      clear d7
      go_wp2_with fail
      have hB4 : w.heap.size ≤ w4.heap.size := B4.out.size
      have HB4 := Lib.hid hB4
      clear hB4
      obtain ⟨ua, uc, hu, hcur⟩ := own_cells O7.out
      subst hu
      have HCUR := Lib.hid hcur
      clear hcur
      go_wp2_with fail
      go_loopw [13] (fun v wr => ∃ k : Nat, v = .int .i64 (k : Int) ∧ k ≤ x.ts.length ∧ Below w.heap.size w wr ∧ (0 < x.ts.length → ∃ g cur, ua = some ⟨g, 0, none⟩ ∧ wr.heap[g]? = some (Obj.cells cur ElTS) ∧ x.ts.length ≤ cur.size ∧ w4.heap.size ≤ g)) (fun v _ => 5000 - (intOf v).toNat)
      case atStart => exact ⟨0, rfl, by omega, B7.out, HCUR.out⟩
      case round =>
        obtain ⟨k, rfl, hk, hb, hc⟩ := hrel
        have HB8 := Lib.hid hb
        by_cases hlt : k < x.ts.length
        · obtain ⟨g, cur, rfl, hg, hsz, hgB⟩ := hc (by omega)
          have hlt1 : decide ((k : Int) < (x.ts.length : Int)) = true := by simpa using hlt
          have hk0 : (0 : Int) ≤ (k : Int) := by omega
          have hk1 : (k : Int) < (x.ts.length : Int) := by omega
          have hwk : IntKind.i64.wrap ((k : Int) + 1) = (k : Int) + 1 := IntWalk.i64_in _ (by have := HN.out; omega)
          obtain ⟨c9, z1⟩ : ∃ c9, wr.cell? ⟨g, k, none⟩ = some c9 := ⟨_, cellB hg (Array.getElem?_eq_getElem (show k < cur.size by omega))⟩
          have z2 := frozenB (j := k) hg
          have HG := Lib.hid hg
          have HSZ := Lib.hid hsz
          have HGB := Lib.hid hgB
          have HLT := Lib.hid hlt
          clear hb hc hg hsz hgB hlt hk
          go_wp2_with fail
          go_roundw
          case measure => have := HLT.out; have := HN.out; simp [intOf]; omega
          case rel => exact ⟨k + 1, by simp, HLT.out, HB8.out.setCell (p := ⟨g, k, none⟩) (Nat.le_trans HB4.out HGB.out) _, fun _ => ⟨g, _, rfl, setCellB HG.out, by have := HSZ.out; simpa using this, HGB.out⟩⟩
        · obtain rfl : k = x.ts.length := by omega
          have hlt1 : decide ((x.ts.length : Int) < (x.ts.length : Int)) = false := by simp
          clear hb hc hk hlt c2
          go_wp2_with fail
          have HS := Lib.hid (fun (W : World) (hW : Below w.heap.size w W) => (show W.cell? ⟨r, 2, none⟩ = some (.slice sa x.ts.length sc) from cellB (j := 2) (HR.out.below hW).lay rfl))
          refine lex_start (S := fun W => W.cell? ⟨r, 2, none⟩ = some (.slice sa x.ts.length sc)) [0, 2, 3, 4, 5, 1, 6, 7, 8] (by kernel_rfl) (HS.out _ (HB8.out.trans ((bd wr).mono HB8.out.size))) (fun hS => ?_)
          simp only [inOrder, List.filterMap, List.getElem?_cons_succ, List.getElem?_cons_zero]
          refine lex_take (i := 0) (v := ?_) rfl (by kernel_rfl) (by kernel_rfl) (by kernel_rfl) (by rfl) hS ?_ ?_
          rotate_left
          · ((intro W k0; go_simp) <;> with_reducible rfl)
          (try simp only [Act.put, List.setIfInBounds_toArray, List.set_cons_zero, List.set_cons_succ])
          refine lex_take (i := 2) (v := ?_) rfl (by kernel_rfl) (by kernel_rfl) (by kernel_rfl) (by rfl) hS ?_ ?_
          rotate_left
          · ((intro W k0; go_simp) <;> with_reducible rfl)
          (try simp only [Act.put, List.setIfInBounds_toArray, List.set_cons_zero, List.set_cons_succ])
          refine lex_take (i := 3) (v := ?_) rfl (by kernel_rfl) (by kernel_rfl) (by kernel_rfl) (by rfl) hS ?_ ?_
          rotate_left
          · ((intro W k0; go_simp) <;> with_reducible rfl)
          (try simp only [Act.put, List.setIfInBounds_toArray, List.set_cons_zero, List.set_cons_succ])
          refine lex_take (i := 4) (v := ?_) rfl (by kernel_rfl) (by kernel_rfl) (by kernel_rfl) (by rfl) hS ?_ ?_
          rotate_left
          · ((intro W k0; go_simp) <;> with_reducible rfl)
          (try simp only [Act.put, List.setIfInBounds_toArray, List.set_cons_zero, List.set_cons_succ])
          refine lex_take (i := 5) (v := ?_) rfl (by kernel_rfl) (by kernel_rfl) (by kernel_rfl) (by rfl) hS ?_ ?_
          rotate_left
          · ((intro W k0; go_simp) <;> with_reducible rfl)
          (try simp only [Act.put, List.setIfInBounds_toArray, List.set_cons_zero, List.set_cons_succ])
          refine lex_do (i := 1) rfl (by kernel_rfl) (by rfl) (fun K hK => ?_)
          clear hS
          go_simp
          have B8 := Lib.hid (HB8.out.trans ((bd wr).mono HB8.out.size))
          refine (list_calls (HW.out.below B8.out)).mono ?_
          rintro e w9 ⟨u9, rfl, o9, b9⟩
          have B9 := Lib.hid (B8.out.trans (b9.mono B8.out.size))
          have O9 := Lib.hid o9
          clear o9 b9
          refine hK _ _ ⟨HS.out _ B9.out, ?_⟩
          clear hK K
          (try simp only [Act.put, List.setIfInBounds_toArray, List.set_cons_zero, List.set_cons_succ])
          refine lex_do (i := 6) rfl (by kernel_rfl) (by rfl) (fun K hK => ?_)
          go_simp
          refine (rvalues_any (HR.out.below B9.out).row HR.out.vals (by have := HN.out; omega)).mono ?_
          rintro e w10 ⟨v10, rfl, o10, b10⟩
          have B10 := Lib.hid (B9.out.trans (b10.mono B9.out.size))
          have O10 := Lib.hid (own_hold O9.out (Hold.below b10))
          have R10 := Lib.hid (row_of_own o10)
          clear o10 b10
          refine hK _ _ ⟨HS.out _ B10.out, ?_⟩
          clear hK K
          (try simp only [Act.put, List.setIfInBounds_toArray, List.set_cons_zero, List.set_cons_succ])
          refine lex_do (i := 7) rfl (by kernel_rfl) (by rfl) (fun K hK => ?_)
          go_simp
          refine (texts_any (xs := bs) (ys := bs) (by have h := row_of_own O10.out; rw [HBS.out.1, HBS.out.2] at h; exact h) (by have h := R10.out; rw [HBS.out.1, HBS.out.2] at h; exact h) (by have := HN.out; have := HBS.out.2; omega) (by have := HN.out; have := HBS.out.2; omega)).mono ?_
          rintro e w11 ⟨rfl, d11⟩
          rw [decide_eq_true (rfl : bs = bs)]
          have B11 := Lib.hid (B10.out.trans (d11.below.mono B10.out.size))
          clear d11
          refine hK _ _ ⟨HS.out _ B11.out, ?_⟩
          clear hK K
          (try simp only [Act.put, List.setIfInBounds_toArray, List.set_cons_zero, List.set_cons_succ])
          refine lex_do (i := 8) rfl (by kernel_rfl) (by rfl) (fun K hK => ?_)
          go_simp
          refine hK _ _ ⟨HS.out _ B11.out, ?_⟩
          clear hK K
          refine lex_done (by kernel_rfl) ?_
          go_wp2_with fail
          go_returns
          exact ⟨rfl, B11.out⟩
    | cons t0 tl =>
      have e2 : nextP x = t0.tk := by unfold nextP; rw [hts]
      rw [e2] at HX
      have HE : Hid (x.ts.isEmpty = false ∧ 0 < x.ts.length ∧ x.ts[0]? = some t0) := Lib.hid (by rw [hts]; exact ⟨rfl, by simp, rfl⟩)
      rw [HE.out.1] at HX
      have HX := Lib.hid HX
      clear e e1 e2 hts
      go_enter Try.func13, Try.ntmps13
      go_wp2_with fail
      refine HD.out.mono ?_
      rintro e w1 ⟨rfl, b1⟩
      have B1 := Lib.hid b1
      clear b1
      go_wp2_with fail
      refine (HF.out w1 B1.out).mono ?_
      rintro e w2 ⟨rfl, rfl⟩
      go_wp2_with fail
      refine (HX.out w1 B1.out).mono ?_
      rintro e w3 ⟨rfl, b3⟩
      have B3 := Lib.hid (B1.out.trans (b3.mono B1.out.size))
      have HW3 := Lib.hid (HW.out.below B3.out)
      have hr3 := HR.out.below B3.out
      have c0 := cellB (j := 0) hr3.lay rfl
      have c2 := cellB (j := 2) hr3.lay rfl
      have HR3 := Lib.hid hr3
      clear b3 hr3
      have hl1 : decide ((0 : Int) < (x.ts.length : Int)) = true := by have := HE.out.2.1; simp; omega
      have hl2 : decide (0 < x.ts.length) = true := by have := HE.out.2.1; simp; omega
      have hl3 : 0 < x.ts.length := HE.out.2.1
      go_wp2_with fail
      go_quiet (first | (go_at_call 16; exact now_quiet HW3.out _) | (go_at_call 43; exact len_quiet HW3.out _))
      have B4 := Lib.hid (B3.out.trans ((bdn w3 nq).mono B3.out.size))
      clear c0 c2 HR3
      generalize w3.drewN nq = w4 at *
      have c2 := cellB (j := 2) (HR.out.below B4.out).lay rfl
      obtain ⟨gg, gc, hg⟩ := own_slice HR.out.row HE.out.2.1
      cases hg
      have hla := (laid_of_own HR.out.row).1
      obtain ⟨_, t1, _⟩ := hla.at3 (k := 0) (t := t0) HE.out.2.2
      have t1 := bcellAt B4.out t1
      have hl4 : (0 : Int) < (x.ts.length : Int) := by omega
      clear hla
      go_wp2_with fail
      clear hl1 hl2 hl3 hl4 t1
      refine (list_calls (HW.out.below B4.out)).mono ?_
      rintro e w5 ⟨u, rfl, o5, b5⟩
      have B5 := Lib.hid (B4.out.trans (b5.mono B4.out.size))
      have O5 := Lib.hid o5
      have c2 := cellB (j := 2) (HR.out.below B5.out).lay rfl
      clear o5 b5
      go_wp2_with fail
      refine (rvalues_any (HR.out.below B5.out).row HR.out.vals (by have := HN.out; omega)).mono ?_
      rintro e w6 ⟨v6, rfl, o6, b6⟩
      have O6 := Lib.hid (own_hold O5.out (Hold.below b6))
      have B6 := Lib.hid (B5.out.trans (b6.mono B5.out.size))
      have R6 := Lib.hid (row_of_own o6)
      clear o6 b6 c2
      obtain ⟨bs, hbs, hbl⟩ := vals_strs HR.out.vals
      have HBS := Lib.hid (show valsL x.ts = strs bs ∧ x.ts.length = bs.length from ⟨hbs, hbl.symm⟩)
      clear hbs hbl
      go_wp2_with fail
      refine (texts_any (xs := bs) (ys := bs) (by have h := row_of_own O6.out; rw [HBS.out.1, HBS.out.2] at h; exact h) (by have h := R6.out; rw [HBS.out.1, HBS.out.2] at h; exact h) (by have := HN.out; have := HBS.out.2; omega) (by have := HN.out; have := HBS.out.2; omega)).mono ?_
      rintro e w7 ⟨rfl, d7⟩
      rw [decide_eq_true (rfl : bs = bs)]
      have B7 := Lib.hid (B6.out.trans (d7.below.mono B6.out.size))
      have O7 := Lib.hid (own_hold O6.out (Hold.below d7.below))
      clear d7
      go_wp2_with fail
      have hB4 : w.heap.size ≤ w4.heap.size := B4.out.size
      have HB4 := Lib.hid hB4
      clear hB4
      obtain ⟨ua, uc, hu, hcur⟩ := own_cells O7.out
      subst hu
      have HCUR := Lib.hid hcur
      clear hcur
      go_wp2_with fail
      go_loopw [13] (fun v wr => ∃ k : Nat, v = .int .i64 (k : Int) ∧ k ≤ x.ts.length ∧ Below w.heap.size w wr ∧ (0 < x.ts.length → ∃ g cur, ua = some ⟨g, 0, none⟩ ∧ wr.heap[g]? = some (Obj.cells cur ElTS) ∧ x.ts.length ≤ cur.size ∧ w4.heap.size ≤ g)) (fun v _ => 5000 - (intOf v).toNat)
      case atStart => exact ⟨0, rfl, by omega, B7.out, HCUR.out⟩
      case round =>
        obtain ⟨k, rfl, hk, hb, hc⟩ := hrel
        have HB8 := Lib.hid hb
        by_cases hlt : k < x.ts.length
        · obtain ⟨g, cur, rfl, hg, hsz, hgB⟩ := hc (by omega)
          have hlt1 : decide ((k : Int) < (x.ts.length : Int)) = true := by simpa using hlt
          have hk0 : (0 : Int) ≤ (k : Int) := by omega
          have hk1 : (k : Int) < (x.ts.length : Int) := by omega
          have hwk : IntKind.i64.wrap ((k : Int) + 1) = (k : Int) + 1 := IntWalk.i64_in _ (by have := HN.out; omega)
          obtain ⟨c9, z1⟩ : ∃ c9, wr.cell? ⟨g, k, none⟩ = some c9 := ⟨_, cellB hg (Array.getElem?_eq_getElem (show k < cur.size by omega))⟩
          have z2 := frozenB (j := k) hg
          have HG := Lib.hid hg
          have HSZ := Lib.hid hsz
          have HGB := Lib.hid hgB
          have HLT := Lib.hid hlt
          clear hb hc hg hsz hgB hlt hk
          go_wp2_with fail
          go_roundw
          case measure => have := HLT.out; have := HN.out; simp [intOf]; omega
          case rel => exact ⟨k + 1, by simp, HLT.out, HB8.out.setCell (p := ⟨g, k, none⟩) (Nat.le_trans HB4.out HGB.out) _, fun _ => ⟨g, _, rfl, setCellB HG.out, by have := HSZ.out; simpa using this, HGB.out⟩⟩
        · obtain rfl : k = x.ts.length := by omega
          have hlt1 : decide ((x.ts.length : Int) < (x.ts.length : Int)) = false := by simp
          clear hb hc hk hlt c2
          go_wp2_with fail
          have HS := Lib.hid (fun (W : World) (hW : Below w.heap.size w W) => (show W.cell? ⟨r, 2, none⟩ = some (.slice (some ⟨gg, 0, none⟩) x.ts.length sc) from cellB (j := 2) (HR.out.below hW).lay rfl))
          refine lex_start (S := fun W => W.cell? ⟨r, 2, none⟩ = some (.slice (some ⟨gg, 0, none⟩) x.ts.length sc)) [0, 2, 3, 4, 5, 1, 6, 7, 8] (by kernel_rfl) (HS.out _ (HB8.out.trans ((bd wr).mono HB8.out.size))) (fun hS => ?_)
          simp only [inOrder, List.filterMap, List.getElem?_cons_succ, List.getElem?_cons_zero]
          refine lex_take (i := 0) (v := ?_) rfl (by kernel_rfl) (by kernel_rfl) (by kernel_rfl) (by rfl) hS ?_ ?_
          rotate_left
          · ((intro W k0; go_simp) <;> with_reducible rfl)
          (try simp only [Act.put, List.setIfInBounds_toArray, List.set_cons_zero, List.set_cons_succ])
          refine lex_take (i := 2) (v := ?_) rfl (by kernel_rfl) (by kernel_rfl) (by kernel_rfl) (by rfl) hS ?_ ?_
          rotate_left
          · ((intro W k0; go_simp) <;> with_reducible rfl)
          (try simp only [Act.put, List.setIfInBounds_toArray, List.set_cons_zero, List.set_cons_succ])
          refine lex_take (i := 3) (v := ?_) rfl (by kernel_rfl) (by kernel_rfl) (by kernel_rfl) (by rfl) hS ?_ ?_
          rotate_left
          · ((intro W k0; go_simp) <;> with_reducible rfl)
          (try simp only [Act.put, List.setIfInBounds_toArray, List.set_cons_zero, List.set_cons_succ])
          refine lex_take (i := 4) (v := ?_) rfl (by kernel_rfl) (by kernel_rfl) (by kernel_rfl) (by rfl) hS ?_ ?_
          rotate_left
          · ((intro W k0; go_simp) <;> with_reducible rfl)
          (try simp only [Act.put, List.setIfInBounds_toArray, List.set_cons_zero, List.set_cons_succ])
          refine lex_take (i := 5) (v := ?_) rfl (by kernel_rfl) (by kernel_rfl) (by kernel_rfl) (by rfl) hS ?_ ?_
          rotate_left
          · ((intro W k0; go_simp) <;> with_reducible rfl)
          (try simp only [Act.put, List.setIfInBounds_toArray, List.set_cons_zero, List.set_cons_succ])
          refine lex_do (i := 1) rfl (by kernel_rfl) (by rfl) (fun K hK => ?_)
          clear hS
          go_simp
          have B8 := Lib.hid (HB8.out.trans ((bd wr).mono HB8.out.size))
          refine (list_calls (HW.out.below B8.out)).mono ?_
          rintro e w9 ⟨u9, rfl, o9, b9⟩
          have B9 := Lib.hid (B8.out.trans (b9.mono B8.out.size))
          have O9 := Lib.hid o9
          clear o9 b9
          refine hK _ _ ⟨HS.out _ B9.out, ?_⟩
          clear hK K
          (try simp only [Act.put, List.setIfInBounds_toArray, List.set_cons_zero, List.set_cons_succ])
          refine lex_do (i := 6) rfl (by kernel_rfl) (by rfl) (fun K hK => ?_)
          go_simp
          refine (rvalues_any (HR.out.below B9.out).row HR.out.vals (by have := HN.out; omega)).mono ?_
          rintro e w10 ⟨v10, rfl, o10, b10⟩
          have B10 := Lib.hid (B9.out.trans (b10.mono B9.out.size))
          have O10 := Lib.hid (own_hold O9.out (Hold.below b10))
          have R10 := Lib.hid (row_of_own o10)
          clear o10 b10
          refine hK _ _ ⟨HS.out _ B10.out, ?_⟩
          clear hK K
          (try simp only [Act.put, List.setIfInBounds_toArray, List.set_cons_zero, List.set_cons_succ])
          refine lex_do (i := 7) rfl (by kernel_rfl) (by rfl) (fun K hK => ?_)
          go_simp
          refine (texts_any (xs := bs) (ys := bs) (by have h := row_of_own O10.out; rw [HBS.out.1, HBS.out.2] at h; exact h) (by have h := R10.out; rw [HBS.out.1, HBS.out.2] at h; exact h) (by have := HN.out; have := HBS.out.2; omega) (by have := HN.out; have := HBS.out.2; omega)).mono ?_
          rintro e w11 ⟨rfl, d11⟩
          rw [decide_eq_true (rfl : bs = bs)]
          have B11 := Lib.hid (B10.out.trans (d11.below.mono B10.out.size))
          clear d11
          refine hK _ _ ⟨HS.out _ B11.out, ?_⟩
          clear hK K
          (try simp only [Act.put, List.setIfInBounds_toArray, List.set_cons_zero, List.set_cons_succ])
          refine lex_do (i := 8) rfl (by kernel_rfl) (by rfl) (fun K hK => ?_)
          go_simp
          refine hK _ _ ⟨HS.out _ B11.out, ?_⟩
          clear hK K
          refine lex_done (by kernel_rfl) ?_
          go_wp2_with fail
          go_returns
          exact ⟨rfl, B11.out⟩
  | some t =>
    obtain ⟨A, C, hsp, hix, _⟩ := idxP_some e
    have e1 : duePS x i = t.tk := by unfold duePS; rw [e]
    rw [e1, e] at HD
    rw [hix] at HF
    have HD := Lib.hid HD
    have HF := Lib.hid HF
    have HSP := Lib.hid hsp
    obtain ⟨t0, tl, hts⟩ : ∃ t0 tl, x.ts = t0 :: tl := by
      rw [hsp]
      cases A with
      | nil => exact ⟨_, _, rfl⟩
      | cons t0 A => exact ⟨_, _, rfl⟩
    have e2 : nextP x = t0.tk := by unfold nextP; rw [hts]
    rw [e2] at HX
    have HE : Hid (x.ts.isEmpty = false ∧ 0 < x.ts.length ∧ x.ts[0]? = some t0) := Lib.hid (by rw [hts]; exact ⟨rfl, by simp, rfl⟩)
    rw [HE.out.1] at HX
    have HX := Lib.hid HX
    clear e e1 e2 hts hsp hix
    go_enter Try.func13, Try.ntmps13
    go_wp2_with fail
    refine HD.out.mono ?_
    rintro e w1 ⟨rfl, b1⟩
    have B1 := Lib.hid b1
    clear b1
    go_wp2_with fail
    refine (HF.out w1 B1.out).mono ?_
    rintro e w2 ⟨rfl, rfl⟩
    go_wp2_with fail
    refine (HX.out w1 B1.out).mono ?_
    rintro e w3 ⟨rfl, b3⟩
    have B3 := Lib.hid (B1.out.trans (b3.mono B1.out.size))
    have HW3 := Lib.hid (HW.out.below B3.out)
    have hr3 := HR.out.below B3.out
    have c0 := cellB (j := 0) hr3.lay rfl
    have c2 := cellB (j := 2) hr3.lay rfl
    have HR3 := Lib.hid hr3
    clear b3 hr3
    have hl1 : decide ((0 : Int) < (x.ts.length : Int)) = true := by have := HE.out.2.1; simp; omega
    have hl2 : decide (0 < x.ts.length) = true := by have := HE.out.2.1; simp; omega
    have hl3 : 0 < x.ts.length := HE.out.2.1
    have hi1 : decide ((0 : Int) ≤ (A.length : Int)) = true := by simp
    go_wp2_with fail
    go_quiet (first | (go_at_call 16; exact now_quiet HW3.out _) | (go_at_call 43; exact len_quiet HW3.out _))
    have B4 := Lib.hid (B3.out.trans ((bdn w3 nq).mono B3.out.size))
    clear c0 c2 HR3
    generalize w3.drewN nq = w4 at *
    have c2 := cellB (j := 2) (HR.out.below B4.out).lay rfl
    obtain ⟨gg, gc, hg⟩ := own_slice HR.out.row HE.out.2.1
    cases hg
    have hla := (laid_of_own HR.out.row).1
    obtain ⟨_, t1, _⟩ := hla.at3 (k := 0) (t := t0) HE.out.2.2
    have t1 := bcellAt B4.out t1
    have hl4 : (0 : Int) < (x.ts.length : Int) := by omega
    obtain ⟨_, t2, _⟩ := hla.at3 (k := A.length) (t := t) (by rw [HSP.out, List.getElem?_append_right (Nat.le_refl _)]; simp)
    have t2 := bcellAt B4.out t2
    have hl5 : (0 : Int) ≤ (A.length : Int) := by omega
    have hl6 : (A.length : Int) < (x.ts.length : Int) := by rw [HSP.out]; simp; omega
    clear hla
    go_wp2_with fail
    clear hl1 hl2 hl3 hl4 hl5 hl6 hi1 t1 t2
    refine (list_calls (HW.out.below B4.out)).mono ?_
    rintro e w5 ⟨u, rfl, o5, b5⟩
    have B5 := Lib.hid (B4.out.trans (b5.mono B4.out.size))
    have O5 := Lib.hid o5
    have c2 := cellB (j := 2) (HR.out.below B5.out).lay rfl
    clear o5 b5
    go_wp2_with fail
    refine (rvalues_any (HR.out.below B5.out).row HR.out.vals (by have := HN.out; omega)).mono ?_
    rintro e w6 ⟨v6, rfl, o6, b6⟩
    have O6 := Lib.hid (own_hold O5.out (Hold.below b6))
    have B6 := Lib.hid (B5.out.trans (b6.mono B5.out.size))
    have R6 := Lib.hid (row_of_own o6)
    clear o6 b6 c2
    obtain ⟨bs, hbs, hbl⟩ := vals_strs HR.out.vals
    have HBS := Lib.hid (show valsL x.ts = strs bs ∧ x.ts.length = bs.length from ⟨hbs, hbl.symm⟩)
    clear hbs hbl
    go_wp2_with fail
    refine (texts_any (xs := bs) (ys := bs) (by have h := row_of_own O6.out; rw [HBS.out.1, HBS.out.2] at h; exact h) (by have h := R6.out; rw [HBS.out.1, HBS.out.2] at h; exact h) (by have := HN.out; have := HBS.out.2; omega) (by have := HN.out; have := HBS.out.2; omega)).mono ?_
    rintro e w7 ⟨rfl, d7⟩
    rw [decide_eq_true (rfl : bs = bs)]
    have B7 := Lib.hid (B6.out.trans (d7.below.mono B6.out.size))
    have O7 := Lib.hid (own_hold O6.out (Hold.below d7.below))
    clear d7
    go_wp2_with fail
    have hB4 : w.heap.size ≤ w4.heap.size := B4.out.size
    have HB4 := Lib.hid hB4
    clear hB4
    obtain ⟨ua, uc, hu, hcur⟩ := own_cells O7.out
    subst hu
    have HCUR := Lib.hid hcur
    clear hcur
    go_wp2_with fail
    go_loopw [13] (fun v wr => ∃ k : Nat, v = .int .i64 (k : Int) ∧ k ≤ x.ts.length ∧ Below w.heap.size w wr ∧ (0 < x.ts.length → ∃ g cur, ua = some ⟨g, 0, none⟩ ∧ wr.heap[g]? = some (Obj.cells cur ElTS) ∧ x.ts.length ≤ cur.size ∧ w4.heap.size ≤ g)) (fun v _ => 5000 - (intOf v).toNat)
    case atStart => exact ⟨0, rfl, by omega, B7.out, HCUR.out⟩
    case round =>
      obtain ⟨k, rfl, hk, hb, hc⟩ := hrel
      have HB8 := Lib.hid hb
      by_cases hlt : k < x.ts.length
      · obtain ⟨g, cur, rfl, hg, hsz, hgB⟩ := hc (by omega)
        have hlt1 : decide ((k : Int) < (x.ts.length : Int)) = true := by simpa using hlt
        have hk0 : (0 : Int) ≤ (k : Int) := by omega
        have hk1 : (k : Int) < (x.ts.length : Int) := by omega
        have hwk : IntKind.i64.wrap ((k : Int) + 1) = (k : Int) + 1 := IntWalk.i64_in _ (by have := HN.out; omega)
        obtain ⟨c9, z1⟩ : ∃ c9, wr.cell? ⟨g, k, none⟩ = some c9 := ⟨_, cellB hg (Array.getElem?_eq_getElem (show k < cur.size by omega))⟩
        have z2 := frozenB (j := k) hg
        have HG := Lib.hid hg
        have HSZ := Lib.hid hsz
        have HGB := Lib.hid hgB
        have HLT := Lib.hid hlt
        clear hb hc hg hsz hgB hlt hk
        go_wp2_with fail
        go_roundw
        case measure => have := HLT.out; have := HN.out; simp [intOf]; omega
        case rel => exact ⟨k + 1, by simp, HLT.out, HB8.out.setCell (p := ⟨g, k, none⟩) (Nat.le_trans HB4.out HGB.out) _, fun _ => ⟨g, _, rfl, setCellB HG.out, by have := HSZ.out; simpa using this, HGB.out⟩⟩
      · obtain rfl : k = x.ts.length := by omega
        have hlt1 : decide ((x.ts.length : Int) < (x.ts.length : Int)) = false := by simp
        clear hb hc hk hlt c2
        go_wp2_with fail
        have HS := Lib.hid (fun (W : World) (hW : Below w.heap.size w W) => (show W.cell? ⟨r, 2, none⟩ = some (.slice (some ⟨gg, 0, none⟩) x.ts.length sc) from cellB (j := 2) (HR.out.below hW).lay rfl))
        refine lex_start (S := fun W => W.cell? ⟨r, 2, none⟩ = some (.slice (some ⟨gg, 0, none⟩) x.ts.length sc)) [0, 2, 3, 4, 5, 1, 6, 7, 8] (by kernel_rfl) (HS.out _ (HB8.out.trans ((bd wr).mono HB8.out.size))) (fun hS => ?_)
        simp only [inOrder, List.filterMap, List.getElem?_cons_succ, List.getElem?_cons_zero]
        refine lex_take (i := 0) (v := ?_) rfl (by kernel_rfl) (by kernel_rfl) (by kernel_rfl) (by rfl) hS ?_ ?_
        rotate_left
        · ((intro W k0; go_simp) <;> with_reducible rfl)
        (try simp only [Act.put, List.setIfInBounds_toArray, List.set_cons_zero, List.set_cons_succ])
        refine lex_take (i := 2) (v := ?_) rfl (by kernel_rfl) (by kernel_rfl) (by kernel_rfl) (by rfl) hS ?_ ?_
        rotate_left
        · ((intro W k0; go_simp) <;> with_reducible rfl)
        (try simp only [Act.put, List.setIfInBounds_toArray, List.set_cons_zero, List.set_cons_succ])
        refine lex_take (i := 3) (v := ?_) rfl (by kernel_rfl) (by kernel_rfl) (by kernel_rfl) (by rfl) hS ?_ ?_
        rotate_left
        · ((intro W k0; go_simp) <;> with_reducible rfl)
        (try simp only [Act.put, List.setIfInBounds_toArray, List.set_cons_zero, List.set_cons_succ])
        refine lex_take (i := 4) (v := ?_) rfl (by kernel_rfl) (by kernel_rfl) (by kernel_rfl) (by rfl) hS ?_ ?_
        rotate_left
        · ((intro W k0; go_simp) <;> with_reducible rfl)
        (try simp only [Act.put, List.setIfInBounds_toArray, List.set_cons_zero, List.set_cons_succ])
        refine lex_take (i := 5) (v := ?_) rfl (by kernel_rfl) (by kernel_rfl) (by kernel_rfl) (by rfl) hS ?_ ?_
        rotate_left
        · ((intro W k0; go_simp) <;> with_reducible rfl)
        (try simp only [Act.put, List.setIfInBounds_toArray, List.set_cons_zero, List.set_cons_succ])
        refine lex_do (i := 1) rfl (by kernel_rfl) (by rfl) (fun K hK => ?_)
        clear hS
        go_simp
        have B8 := Lib.hid (HB8.out.trans ((bd wr).mono HB8.out.size))
        refine (list_calls (HW.out.below B8.out)).mono ?_
        rintro e w9 ⟨u9, rfl, o9, b9⟩
        have B9 := Lib.hid (B8.out.trans (b9.mono B8.out.size))
        have O9 := Lib.hid o9
        clear o9 b9
        refine hK _ _ ⟨HS.out _ B9.out, ?_⟩
        clear hK K
        (try simp only [Act.put, List.setIfInBounds_toArray, List.set_cons_zero, List.set_cons_succ])
        refine lex_do (i := 6) rfl (by kernel_rfl) (by rfl) (fun K hK => ?_)
        go_simp
        refine (rvalues_any (HR.out.below B9.out).row HR.out.vals (by have := HN.out; omega)).mono ?_
        rintro e w10 ⟨v10, rfl, o10, b10⟩
        have B10 := Lib.hid (B9.out.trans (b10.mono B9.out.size))
        have O10 := Lib.hid (own_hold O9.out (Hold.below b10))
        have R10 := Lib.hid (row_of_own o10)
        clear o10 b10
        refine hK _ _ ⟨HS.out _ B10.out, ?_⟩
        clear hK K
        (try simp only [Act.put, List.setIfInBounds_toArray, List.set_cons_zero, List.set_cons_succ])
        refine lex_do (i := 7) rfl (by kernel_rfl) (by rfl) (fun K hK => ?_)
        go_simp
        refine (texts_any (xs := bs) (ys := bs) (by have h := row_of_own O10.out; rw [HBS.out.1, HBS.out.2] at h; exact h) (by have h := R10.out; rw [HBS.out.1, HBS.out.2] at h; exact h) (by have := HN.out; have := HBS.out.2; omega) (by have := HN.out; have := HBS.out.2; omega)).mono ?_
        rintro e w11 ⟨rfl, d11⟩
        rw [decide_eq_true (rfl : bs = bs)]
        have B11 := Lib.hid (B10.out.trans (d11.below.mono B10.out.size))
        clear d11
        refine hK _ _ ⟨HS.out _ B11.out, ?_⟩
        clear hK K
        (try simp only [Act.put, List.setIfInBounds_toArray, List.set_cons_zero, List.set_cons_succ])
        refine lex_do (i := 8) rfl (by kernel_rfl) (by rfl) (fun K hK => ?_)
        go_simp
        refine hK _ _ ⟨HS.out _ B11.out, ?_⟩
        clear hK K
        refine lex_done (by kernel_rfl) ?_
        go_wp2_with fail
        go_returns
        exact ⟨rfl, B11.out⟩
end Go.Proofs.Ytbgnedeeeaapfaa
