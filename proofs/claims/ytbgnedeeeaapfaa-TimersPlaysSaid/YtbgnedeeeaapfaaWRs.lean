/-
  What Set, After, Cancel and Move do with the document's wheel in memory.
-/
import Derived.Test.YtbgnedeeeaapfaaWRt
import Derived.Test.YtbgnedeeeaapfaaW3S
namespace Go.Proofs.Ytbgnedeeeaapfaa
open Go.RowKit Go.Maps
set_option linter.unusedVariables false
/-- What a call leaves of the document's wheel. -/
def RPost (B r : Nat) (sl : Value) (w w' : World) (x' : Wh) : Prop := ∃ sl', IsR w' B r sl' x' ∧ Touch (OwnR r sl) w w' ∧ ∀ k, sl'.ownBlock = some k → sl.ownBlock = some k ∨ w.heap.size ≤ k
theorem RPost.same {B r : Nat} {sl : Value} {w : World} {x : Wh} (h : IsR w B r sl x) : RPost B r sl w w x := ⟨sl, h, Touch.refl _ _, fun k hk => .inl hk⟩
theorem fieldR_2 (a b : Int) (s : ByteArray) (W : World) : (Instr.field RtT (.agg #[.int .i64 a, .int .i64 b, .string s]) 2).run Try.prog W = .ok (.string s) W := by kernel_rfl
theorem RPost.via {B r : Nat} {sl sl1 : Value} {w w1 w2 : World} {x2 : Wh} (t1 : Touch (OwnR r sl) w w1) (n1 : ∀ k, sl1.ownBlock = some k → sl.ownBlock = some k ∨ w.heap.size ≤ k) (h : RPost B r sl1 w1 w2 x2) : RPost B r sl w w2 x2 := by
  obtain ⟨sl2, h2, t2, n2⟩ := h
  refine ⟨sl2, h2, t1.step t2 (fun k hk => hk.elim (fun e => .inl (.inl e)) (fun e => (n1 k e).imp .inr id)), fun k hk => ?_⟩
  rcases n2 k hk with e | e
  · exact n1 k e
  · exact .inr (Nat.le_trans t1.size e)
theorem IsR.ids {w : World} {B r : Nat} {sl : Value} {x : Wh} (h : IsR w B r sl x) (n : Int) : IsR (w.setCell ⟨r, 1, none⟩ (.int .i64 n)) B r sl { x with ids := n } := by
  refine ⟨?_, own_hold h.row (Hold.setCell h.lay (by decide)), h.vals⟩
  have := setCellB (j := 1) (u := .int .i64 n) h.lay
  simpa using this
theorem IsR.now {w : World} {B r : Nat} {sl : Value} {x : Wh} (h : IsR w B r sl x) (n : Int) : IsR (w.setCell ⟨r, 0, none⟩ (.int .i64 n)) B r sl { x with now := n } := by
  refine ⟨?_, own_hold h.row (Hold.setCell h.lay (by decide)), h.vals⟩
  have := setCellB (j := 0) (u := .int .i64 n) h.lay
  simpa using this
set_option maxRecDepth 100000 in
set_option maxHeartbeats 1600000 in
theorem rset_any {w : World} {B r : Nat} {sl : Value} {x : Wh} (h : IsR w B r sl x) (hg : Good x) (hB : B ≤ w.heap.size) (hrB : B ≤ r) (k : Int) (s : ByteArray) (hi : x.ids < 400000) :
    Calls Try.prog 44 #[.pointer (some ⟨r, 0, none⟩), .int .i64 k, .string s] w fun e w' => e = .returned (.tuple #[.int .i64 (setP x k (.string s)).2.1, .int .i64 (setP x k (.string s)).2.2]) ∧ RPost B r sl w w' (setP x k (.string s)).1 := by
  have c0 := cellB (j := 0) h.lay rfl
  have c1 := cellB (j := 1) h.lay rfl
  have c2 := cellB (j := 2) h.lay rfl
  have HX := Lib.hid h
  by_cases h1 : k ≤ x.now
  · rw [setP_past h1]
    have hd : decide (k ≤ x.now) = true := by simpa using h1
    clear h c1 c2
    go_enter Try.func44, Try.ntmps44
    go_wp2_with fail
    go_returns
    exact ⟨rfl, .same HX.out⟩
  · have hd : decide (k ≤ x.now) = false := by simpa using h1
    obtain ⟨sa, sc, hsl⟩ := (row_of_own h.row).shape
    subst hsl
    by_cases h2 : 4096 ≤ x.ts.length
    · rw [setP_many h1 h2]
      have hd2 : decide ((4096 : Int) ≤ (x.ts.length : Int)) = true := by simp; omega
      have hd3 : decide (4096 ≤ x.ts.length) = true := by simpa using h2
      clear h c1
      go_enter Try.func44, Try.ntmps44
      go_wp2_with fail
      go_returns
      exact ⟨rfl, .same HX.out⟩
    · rw [setP_ok h1 h2]
      have hd2 : decide ((4096 : Int) ≤ (x.ts.length : Int)) = false := by simp; omega
      have hd3 : decide (4096 ≤ x.ts.length) = false := by simpa using h2
      have h0 := hg.ids0
      have hw : IntKind.i64.wrap (x.ids + 1) = x.ids + 1 := IntWalk.i64_in _ (by omega)
      have hw2 : IntKind.i64.wrap (x.ids + 1 - 1) = x.ids := by rw [show x.ids + 1 - 1 = x.ids by omega]; exact IntWalk.i64_in _ (by omega)
      have hw3 : wrap64 x.ids = x.ids := by unfold wrap64; omega
      have HG := Lib.hid hg
      have HB := Lib.hid (show B ≤ w.heap.size ∧ B ≤ r from ⟨hB, hrB⟩)
      have HN := Lib.hid (show x.ts.length ≤ 5000 by omega)
      have HRS := Lib.hid h.lt
      clear h hg hB hrB h0 h1 h2 hi
      go_enter Try.func44, Try.ntmps44
      go_wp2_with fail
      refine (rput1 HX.out HB.out.1 HB.out.2 ⟨x.ids, k, x.pls, .string s⟩ s rfl HN.out HG.out.ord).mono ?_
      rintro e w1 ⟨rfl, sl', h1, t1, n1⟩
      have c3 := cellB (j := 1) h1.lay rfl
      have cf := frozenB (j := 1) h1.lay
      have H2 := Lib.hid (h1.ids (x.ids + 1))
      have T2 := Lib.hid (t1.trans (touch_set w1 r 1 (.int .i64 (x.ids + 1)) (OwnR r (.slice sa x.ts.length sc)) (.inl rfl)))
      have N1 := Lib.hid n1
      have hlay := cellB (j := 1) H2.out.lay rfl
      clear h1 t1 n1 c0 c1 c2
      go_wp2_with fail
      clear c3 cf
      go_returns
      refine ⟨?_, sl', ⟨H2.out.lay, H2.out.row, H2.out.vals⟩, T2.out, N1.out⟩
      show Ending.returned (.tuple #[.int .i64 (wrap64 x.ids), .int .i64 0]) = _
      rw [hw3]
set_option maxRecDepth 100000 in
set_option maxHeartbeats 1600000 in
theorem rafter_any {w : World} {B r : Nat} {sl : Value} {x : Wh} (h : IsR w B r sl x) (hg : Good x) (hB : B ≤ w.heap.size) (hrB : B ≤ r) (n : Int) (s : ByteArray) (hi : x.ids < 400000) :
    Calls Try.prog 20 #[.pointer (some ⟨r, 0, none⟩), .int .i64 n, .string s] w fun e w' => e = .returned (.tuple #[.int .i64 (afterP x n (.string s)).2.1, .int .i64 (afterP x n (.string s)).2.2]) ∧ RPost B r sl w w' (afterP x n (.string s)).1 := by
  have c0 := cellB (j := 0) h.lay rfl
  have HX := Lib.hid h
  have h1 := hg.now0
  have h2 := hg.nowM
  unfold maxI at h2
  have hw : IntKind.i64.wrap (9223372036854775807 - x.now) = 9223372036854775807 - x.now := IntWalk.i64_in _ (by omega)
  by_cases h3 : n < 1
  · rw [afterP_no (.inl h3)]
    have hd : decide (n < 1) = true := by simpa using h3
    clear h h1 h2 h3
    go_enter Try.func20, Try.ntmps20
    go_wp2_with fail
    go_returns
    exact ⟨rfl, .same HX.out⟩
  · have hd : decide (n < 1) = false := by simpa using h3
    by_cases h4 : 9223372036854775807 - x.now < n
    · rw [afterP_no (.inr h4)]
      have hd2 : decide (9223372036854775807 - x.now < n) = true := by simpa using h4
      clear h h1 h2 h3 h4
      go_enter Try.func20, Try.ntmps20
      go_wp2_with fail
      go_returns
      exact ⟨rfl, .same HX.out⟩
    · rw [afterP_ok (fun e => e.elim h3 h4)]
      have hd2 : decide (9223372036854775807 - x.now < n) = false := by simpa using h4
      have hw2 : IntKind.i64.wrap (x.now + n) = x.now + n := IntWalk.i64_in _ (by omega)
      have HG := Lib.hid hg
      have HB := Lib.hid (show B ≤ w.heap.size ∧ B ≤ r from ⟨hB, hrB⟩)
      have HI := Lib.hid hi
      clear h h1 h2 h3 h4 hg hB hrB hi
      go_enter Try.func20, Try.ntmps20
      go_wp2_with fail
      refine (rset_any HX.out HG.out HB.out.1 HB.out.2 (x.now + n) s HI.out).mono ?_
      rintro e w1 ⟨rfl, h1⟩
      have H1 := Lib.hid h1
      clear h1
      go_wp2_with fail
      go_returns
      exact ⟨rfl, H1.out⟩
theorem out_split {ts A C : List Tm} {t : Tm} (hsp : ts = A ++ t :: C) (hn : ts.Pairwise fun a b => a.id ≠ b.id) : out ts t.id = A ++ C := by
  subst hsp
  rw [List.pairwise_append, List.pairwise_cons] at hn
  unfold out
  rw [List.filter_append, List.filter_cons, filter_all (l := A) (fun a ha => by simpa using hn.2.2 a ha t (by simp)), filter_all (l := C) (fun a ha => by simpa using Ne.symm (hn.2.1.1 a ha))]
  simp
set_option maxRecDepth 100000 in
set_option maxHeartbeats 1600000 in
theorem rcancel_any {w : World} {B r : Nat} {sl : Value} {x : Wh} (h : IsR w B r sl x) (hg : Good x) (hB : B ≤ w.heap.size) (i : Int) :
    Calls Try.prog 46 #[.pointer (some ⟨r, 0, none⟩), .int .i64 i] w fun e w' => e = .returned (.tuple #[valPS x i, .bool (fnd x.ts i).isSome]) ∧ RPost B r sl w w' (takeP x i) := by
  have HX := Lib.hid h
  have HN := Lib.hid (show x.ts.length ≤ 5000 by have := hg.len; omega)
  cases e : fnd x.ts i with
  | none =>
    have ex : takeP x i = x := by unfold takeP; rw [out_none e]
    have ev : valPS x i = .string ⟨#[]⟩ := by unfold valPS; rw [e]
    have ei := Lib.hid (idxP_none e)
    rw [ex, ev]
    clear h hg ex ev e
    go_enter Try.func46, Try.ntmps46
    go_wp2_with fail
    refine (rfind_any HX.out i HN.out).mono ?_
    rw [ei.out]
    rintro e w1 ⟨rfl, rfl⟩
    go_wp2_with fail
    go_returns
    exact ⟨rfl, .same HX.out⟩
  | some t =>
    obtain ⟨ht, rfl⟩ := fnd_some e
    obtain ⟨A, C, hsp, hix, _⟩ := idxP_some e
    obtain ⟨s, hs⟩ := h.vals t ht
    have ex : takeP x t.id = { x with ts := A ++ C } := by unfold takeP; rw [out_split hsp hg.nd]
    have ev : valPS x t.id = .string s := by unfold valPS; rw [e, ← hs]
    rw [ex, ev]
    have HIX := Lib.hid hix
    have HSP := Lib.hid hsp
    have HS := Lib.hid hs
    have HBB := Lib.hid hB
    have hd : decide ((A.length : Int) < 0) = false := by simp
    clear h hg ex ev e hix hsp hs hB ht
    go_enter Try.func46, Try.ntmps46
    go_wp2_with fail
    refine (rfind_any HX.out t.id HN.out).mono ?_
    rw [HIX.out]
    rintro e w1 ⟨rfl, rfl⟩
    go_wp2_with fail
    refine (rtake1 HX.out HBB.out HSP.out s HS.out HN.out).mono ?_
    rintro e w1 ⟨rfl, h1⟩
    have H1 := Lib.hid h1
    clear h1
    have hfld := fieldR_2 t.id t.tk s
    go_wp2_with fail
    go_returns
    exact ⟨rfl, H1.out⟩
set_option maxRecDepth 100000 in
set_option maxHeartbeats 1600000 in
theorem rmove_any {w : World} {B r : Nat} {sl : Value} {x : Wh} (h : IsR w B r sl x) (hg : Good x) (hB : B ≤ w.heap.size) (hrB : B ≤ r) (i k : Int) :
    Calls Try.prog 48 #[.pointer (some ⟨r, 0, none⟩), .int .i64 i, .int .i64 k] w fun e w' => e = .returned (.int .i64 (moveP x i k).2) ∧ RPost B r sl w w' (moveP x i k).1 := by
  have HX := Lib.hid h
  have HN := Lib.hid (show x.ts.length ≤ 5000 by have := hg.len; omega)
  have c0 := cellB (j := 0) h.lay rfl
  cases e : fnd x.ts i with
  | none =>
    have ex : moveP x i k = (x, 7) := by unfold moveP; rw [e]
    have ei := Lib.hid (idxP_none e)
    rw [ex]
    clear h hg ex e c0
    go_enter Try.func48, Try.ntmps48
    go_wp2_with fail
    refine (rfind_any HX.out i HN.out).mono ?_
    rw [ei.out]
    rintro e w1 ⟨rfl, rfl⟩
    go_wp2_with fail
    go_returns
    exact ⟨rfl, .same HX.out⟩
  | some t =>
    obtain ⟨ht, rfl⟩ := fnd_some e
    obtain ⟨A, C, hsp, hix, _⟩ := idxP_some e
    obtain ⟨s, hs⟩ := h.vals t ht
    have HIX := Lib.hid hix
    have hdi : decide ((A.length : Int) < 0) = false := by simp
    by_cases h1 : k ≤ x.now
    · have ex : moveP x t.id k = (x, 140) := by unfold moveP; rw [e]; simp only [if_pos h1]
      rw [ex]
      have hd : decide (k ≤ x.now) = true := by simpa using h1
      clear h hg ex e hix hsp hs hB ht h1
      go_enter Try.func48, Try.ntmps48
      go_wp2_with fail
      refine (rfind_any HX.out t.id HN.out).mono ?_
      rw [HIX.out]
      rintro e w1 ⟨rfl, rfl⟩
      go_wp2_with fail
      go_returns
      exact ⟨rfl, .same HX.out⟩
    · have hos := out_split hsp hg.nd
      have ex : moveP x t.id k = (layP (takeP x t.id) t.id k t.v, 0) := by unfold moveP; rw [e]; simp only [if_neg h1]
      have ey : layP (takeP x t.id) t.id k t.v = { x with pls := x.pls + 1, ts := ins (A ++ C) ⟨t.id, k, x.pls, t.v⟩ } := by unfold layP takeP; rw [hos]
      rw [ex, ey, hs]
      have hd : decide (k ≤ x.now) = false := by simpa using h1
      have HSP := Lib.hid hsp
      have HS := Lib.hid hs
      have HBB := Lib.hid (show B ≤ w.heap.size ∧ B ≤ r from ⟨hB, hrB⟩)
      have HNC := Lib.hid (show (A ++ C).length ≤ 5000 by have := hg.len; rw [hsp] at this; simp at this ⊢; omega)
      have HOC := Lib.hid (show (A ++ C).Pairwise lt2 by rw [← hos]; exact out_ord hg.ord)
      have HRL := Lib.hid h.lt
      clear h hg ex ey e hix hsp hs hB ht h1 hos
      go_enter Try.func48, Try.ntmps48
      go_wp2_with fail
      refine (rfind_any HX.out t.id HN.out).mono ?_
      rw [HIX.out]
      rintro e w1 ⟨rfl, rfl⟩
      go_wp2_with fail
      refine (rtake1 HX.out HBB.out.1 HSP.out s HS.out HN.out).mono ?_
      rintro e w1 ⟨rfl, sl1, h1, t1, n1⟩
      have b2 : Below w1.heap.size w1 (w1.alloc (.cells #[.int .i64 t.id, .int .i64 k, .string s] RtT)) := (Below.refl _ _).alloc (Nat.le_refl _) _
      have H2 := Lib.hid (h1.below b2)
      have T1 := Lib.hid t1
      have N1 := Lib.hid n1
      clear h1 t1 n1 c0
      go_wp2_with fail
      refine (rput1 H2.out (by have := T1.out.size; have := HBB.out.1; simp; omega) HBB.out.2 ⟨t.id, k, x.pls, .string s⟩ s rfl HNC.out HOC.out).mono ?_
      rintro e w3 ⟨rfl, sl3, h3, t3, n3⟩
      have H3 := Lib.hid h3
      have T3 := Lib.hid t3
      have N3 := Lib.hid n3
      clear h3 t3 n3
      go_wp2_with fail
      go_returns
      exact ⟨rfl, RPost.via T1.out N1.out (RPost.via (touch_alloc w1 (.cells #[.int .i64 t.id, .int .i64 k, .string s] RtT) _) (fun k e => .inl e) ⟨sl3, ⟨H3.out.lay, H3.out.row, H3.out.vals⟩, T3.out, N3.out⟩)⟩
end Go.Proofs.Ytbgnedeeeaapfaa
