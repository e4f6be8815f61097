/-
  What Fires does with the document's wheel in memory.
-/
import Derived.Test.YtbgnedeeeaapfaaWRs
namespace Go.Proofs.Ytbgnedeeeaapfaa
open Go.RowKit Go.Maps
set_option linter.unusedVariables false
def lenV : Value → Nat | .slice _ n _ => n | _ => 0
set_option maxRecDepth 100000 in
set_option maxHeartbeats 1600000 in
theorem rfires_any {w : World} {B r : Nat} {sl : Value} {x : Wh} (h : IsR w B r sl x) (ho : x.ts.Pairwise lt2) (hB : B ≤ w.heap.size) (hl : x.ts.length ≤ 5000) (tt : Int) :
    Calls Try.prog 50 #[.pointer (some ⟨r, 0, none⟩), .int .i64 tt] w fun e w' => ∃ u, e = .returned u ∧ w'.ownsRow w.heap.size RtT 3 u (dueL x.ts tt).length (tmsC (dueL x.ts tt)) ∧ RPost B r sl w w' { x with now := tt, ts := restL x.ts tt } := by
  have HX := Lib.hid h
  have HO := Lib.hid ho
  have HB := Lib.hid hB
  have HL := Lib.hid hl
  clear h ho hB hl
  go_enter Try.func50, Try.ntmps50
  go_wp2_with fail
  go_loopw [5] (fun v wr => ∃ (D C : List Tm) (s2 : Value), lenV v = D.length ∧ x.ts = D ++ C ∧ (∀ t ∈ D, t.tk ≤ tt) ∧ wr.ownsRow w.heap.size RtT 3 v D.length (tmsC D) ∧ IsR wr B r s2 { x with ts := C } ∧ Touch (OwnR r sl) w wr ∧ (∀ k, s2.ownBlock = some k → sl.ownBlock = some k ∨ w.heap.size ≤ k) ∧ (∀ k, v.ownBlock = some k → s2.ownBlock ≠ some k)) (fun v _ => 5001 - lenV v)
  case atStart => exact ⟨[], x.ts, sl, rfl, rfl, by simp, World.ownsRow_nil _ _ _ 3, HX.out, Touch.refl _ _, fun k hk => .inl hk, fun k hk => by cases hk⟩
  case round =>
    obtain ⟨D, C, s2, hv, hsp, hD, hown, hi, ht, hn, hne⟩ := hrel
    have HSP := Lib.hid hsp
    have HD := Lib.hid hD
    have HOW := Lib.hid hown
    have HI := Lib.hid hi
    have HT := Lib.hid ht
    have HN := Lib.hid hn
    have HNE := Lib.hid hne
    have c2 := cellB (j := 2) hi.lay rfl
    obtain ⟨sa, sc, hs2⟩ := (row_of_own hi.row).shape
    have hs2 : s2 = .slice sa C.length sc := hs2
    subst hs2
    have HEND := fun (hC : ∀ t ∈ C, tt < t.tk) => (show dueL x.ts tt = D ∧ restL x.ts tt = C by rw [hsp]; exact due_split hD hC)
    have HOC := Lib.hid (show C.Pairwise lt2 by have := HO.out; rw [hsp, List.pairwise_append] at this; exact this.2.1)
    cases C with
    | nil =>
      have HE := Lib.hid (HEND (by simp))
      have c0 := cellB (j := 0) hi.lay rfl
      have cf := frozenB (j := 0) hi.lay
      have hlt : decide ((0 : Int) < (([] : List Tm).length : Int)) = false := by simp
      clear hsp hD hown ht hn hne HEND hi hv
      go_wp2_with fail
      go_returns
      rw [HE.out.1, HE.out.2]
      exact ⟨_, rfl, own_keep HOW.out (touch_set wr r 0 (.int .i64 tt) (fun k => k = r) rfl) (fun k hk e => by have := (own_from HOW.out hk).1; have := HX.out.lt; omega), _, ⟨(HI.out.now tt).lay, (HI.out.now tt).row, HI.out.vals⟩, HT.out.trans (touch_set wr r 0 (.int .i64 tt) _ (.inl rfl)), HN.out⟩
    | cons t C =>
      obtain ⟨gg, gc, hg⟩ := own_slice hi.row (by simp)
      cases hg
      have hla := (laid_of_own hi.row).1
      obtain ⟨_, t1, _⟩ := hla.at3 (k := 0) (t := t) rfl
      have hlt : decide ((0 : Int) < ((t :: C).length : Int)) = true := by simp
      have hk1 : (0 : Int) < ((t :: C).length : Int) := by simp
      by_cases hto : t.tk ≤ tt
      · have hd : decide (t.tk ≤ tt) = true := by simpa using hto
        obtain ⟨u, hu⟩ := hi.vals t (by simp)
        have HU := Lib.hid hu
        have HTO := Lib.hid hto
        have HV := Lib.hid hv
        clear hsp hD hown ht hn hne HEND hi hv hla hto hu
        go_wp2_with fail
        refine (rtake1 (A := []) (C := C) (t := t) HI.out (by have := HT.out.size; have := HB.out; omega) rfl u HU.out (by have := HL.out; rw [HSP.out] at this; simp at this ⊢; omega)).mono ?_
        rintro e w1 ⟨rfl, s3, h3, t3, n3⟩
        have own1 := own_keep HOW.out t3 (fun k hk hS => hS.elim (fun e => by have := (own_from HOW.out hk).1; have := HX.out.lt; omega) (fun e => HNE.out k hk e))
        have b5 : Below w1.heap.size w1 (w1.alloc (.cells #[.int .i64 t.id, .int .i64 t.tk, .string u] RtT)) := (Below.refl _ _).alloc (Nat.le_refl _) _
        have q5 := heap_alloc_new w1 (.cells #[.int .i64 t.id, .int .i64 t.tk, .string u] RtT)
        have O5 := Lib.hid (own_hold own1 (Hold.below b5))
        have H5 := Lib.hid (h3.below b5)
        have T5 := Lib.hid ((HT.out.step t3 (fun k hk => hk.elim (fun e => .inl (.inl e)) (fun e => (HN.out k e).imp .inr id))).trans (touch_of_below b5 (OwnR r sl)))
        have S5 := Lib.hid T5.out.size
        have HLD := Lib.hid (show D.length ≤ 1000000 by have := HL.out; rw [HSP.out] at this; simp at this; omega)
        have NA := Lib.hid (fun k (h1 : u5.ownBlock = some k) (h2 : s3.ownBlock = some k) => (show False by
          rcases n3 k h2 with e | e
          · exact HNE.out k h1 e
          · have := (own_from HOW.out h1).2; omega))
        have N5 := Lib.hid (fun k (h2 : s3.ownBlock = some k) => (show sl.ownBlock = some k ∨ w.heap.size ≤ k from by
          rcases n3 k h2 with e | e
          · exact HN.out k e
          · exact .inr (Nat.le_trans HT.out.size e)))
        clear own1 b5 h3 t3 n3 c2 t1
        go_wp2_with (at_builtin; refine wpList_appR rfl _ _ rfl w.heap.size _ D rfl O5.out _ t u HU.out rfl q5 HLD.out S5.out ?_)
        intro v6 w6 o6 g6 at6
        have tg := touch_of_grown g6 (fun k => u5.ownBlock = some k) (fun k e => e)
        have H6 := Lib.hid (H5.out.keep tg (fun e => by have := (own_from HOW.out e).1; have := HX.out.lt; omega) (fun k h1 h2 => NA.out k h2 h1))
        have T6 := Lib.hid (T5.out.step tg (fun k hk => .inr (own_from HOW.out hk).1))
        have NE6 := Lib.hid (fun k (h1 : v6.ownBlock = some k) => (show s3.ownBlock ≠ some k from fun h2 => by
          rcases at6 with e | e
          · exact NA.out k (e ▸ h1) h2
          · have e2 := (own_from H5.out.row h2).2
            rw [e] at h1; have h1 := Option.some.inj h1; rw [World.size_alloc] at e2; omega))
        have O6 := Lib.hid o6
        obtain ⟨a6, c6, e6⟩ := (row_of_own o6).shape
        have L6 := Lib.hid (show lenV v6 = (D ++ [t]).length by rw [e6]; simp [lenV])
        clear o6 g6 at6 tg q5 e6
        go_wp2_with fail
        go_roundw
        case rel => exact ⟨D ++ [t], C, s3, L6.out, by rw [HSP.out]; simp, fun a ha => by
          rcases List.mem_append.1 ha with ha | ha
          · exact HD.out a ha
          · rw [List.mem_singleton.1 ha]; exact HTO.out, by rw [List.length_append, List.length_singleton]; exact O6.out, H6.out, T6.out, N5.out, NE6.out⟩
        case measure => have e := HV.out; have e2 := L6.out; have := HL.out; rw [HSP.out] at this; simp at e2 this; omega
      · have hd : decide (t.tk ≤ tt) = false := by simpa using hto
        have HE := Lib.hid (HEND (fun a ha => by have := ord_le HOC.out a ha; omega))
        have c0 := cellB (j := 0) hi.lay rfl
        have cf := frozenB (j := 0) hi.lay
        clear hsp hD hown ht hn hne HEND hi hv hla hto
        go_wp2_with fail
        go_returns
        rw [HE.out.1, HE.out.2]
        exact ⟨_, rfl, own_keep HOW.out (touch_set wr r 0 (.int .i64 tt) (fun k => k = r) rfl) (fun k hk e => by have := (own_from HOW.out hk).1; have := HX.out.lt; omega), _, ⟨(HI.out.now tt).lay, (HI.out.now tt).row, HI.out.vals⟩, HT.out.trans (touch_set wr r 0 (.int .i64 tt) _ (.inl rfl)), HN.out⟩
end Go.Proofs.Ytbgnedeeeaapfaa
