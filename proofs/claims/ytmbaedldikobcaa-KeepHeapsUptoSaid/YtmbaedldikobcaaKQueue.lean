/-
  Queues in memory: Push, Pop, Len.
-/
import Derived.Test.YtmbaedldikobcaaKDI
import Derived.Test.YtmbaedldikobcaaKRow
namespace Go.Proofs.Ytmbaedldikobcaa
open Go.RowKit
set_option linter.unusedVariables false

abbrev QueT : TypeId := 81

/-- Numbers from s on, and what they have. -/
def qL : Int → List Int → List (Int × Int)
  | _, [] => []
  | s, a :: l => (s, a) :: qL (s + 1) l
theorem qL_append (s : Int) (l m : List Int) : qL s (l ++ m) = qL s l ++ qL (s + l.length) m := by
  induction l generalizing s with
  | nil => simp [qL]
  | cons a l ih =>
    simp only [List.cons_append, qL, ih, List.length_cons]
    rw [show s + 1 + (l.length : Int) = s + ((l.length + 1 : Nat) : Int) by omega]
theorem qL_length (s : Int) (l : List Int) : (qL s l).length = l.length := by
  induction l generalizing s with
  | nil => rfl
  | cons a l ih => simp [qL, ih]
theorem qL_snd (s : Int) (l : List Int) : (qL s l).map Prod.snd = l := by
  induction l generalizing s with
  | nil => rfl
  | cons a l ih => simp [qL, ih]
theorem qL_keys (s : Int) (l : List Int) : ∀ b ∈ qL s l, s ≤ b.1 ∧ b.1 < s + l.length := by
  induction l generalizing s with
  | nil => intro b hb; cases hb
  | cons a l ih =>
    intro b hb
    simp only [qL, List.mem_cons] at hb
    rcases hb with rfl | hb
    · simp; omega
    · have := ih (s + 1) b hb; simp only [List.length_cons]; omega
theorem qL_srt (s : Int) (l : List Int) : Srt (qL s l) := by
  induction l generalizing s with
  | nil => exact Srt.nil
  | cons a l ih =>
    refine Srt.make (L := []) Srt.nil (ih (s + 1)) (fun b hb => by cases hb) (fun b hb => ?_)
    have := qL_keys (s + 1) l b hb
    show decide (s < b.1) = true
    simp; omega
theorem qL_put (s : Int) (l : List Int) (v : Int) : lput (qL s l) (s + l.length) v = qL s (l ++ [v]) := by
  have h := qL_keys s l
  unfold lput below above
  rw [filter_all (fun b hb => by have := h b hb; show decide (b.1 < s + l.length) = true; simp; omega), filter_none (fun b hb => by have := h b hb; show decide (s + l.length < b.1) = false; simp; omega), qL_append]
  rfl
theorem qL_drop (s : Int) (a : Int) (l : List Int) : ldrop (qL s (a :: l)) s = qL (s + 1) l := by
  have h := (below_mid (L := []) (a := (s, a)) (R := qL (s + 1) l) (qL_srt s (a :: l)) (k := s)).2.2 rfl
  unfold ldrop
  simp only [List.nil_append] at h
  rw [qL, h.1, h.2.1]
  rfl

/-- At v stands the queue l; its next number is n. -/
def IsQ (w : World) (v : Value) (n : Int) (l : List Int) : Prop := ∃ p t, v = .agg #[.pointer p, .int .i64 n] ∧ IsTI w (.pointer p) t ∧ t.toL = qL (n - l.length) l
theorem IsQ.below {w w' : World} {v : Value} {n : Int} {l : List Int} (h : IsQ w v n l) (hb : Below w.heap.size w w') : IsQ w' v n l := by
  obtain ⟨p, t, e, ht, hl⟩ := h
  exact ⟨p, t, e, ht.below hb, hl⟩
theorem IsQ.hold {w w' : World} {v : Value} {n : Int} {l : List Int} (h : IsQ w v n l) (hb : Hold 194 w w') : IsQ w' v n l := by
  obtain ⟨p, t, e, ht, hl⟩ := h
  exact ⟨p, t, e, ht.hold hb, hl⟩

set_option maxRecDepth 100000 in
set_option maxHeartbeats 1600000 in
theorem qpush {w : World} {v : Value} {n : Int} {l : List Int} (x : Int) (h : IsQ w v n l) (hl : l.length < 100000) (hn : 0 ≤ n ∧ n < 1000000) :
    Calls Try.prog 48 #[v, .int .i64 x] w fun e w' => ∃ u, e = .returned u ∧ IsQ w' u (n + 1) (l ++ [x]) ∧ Below w.heap.size w w' := by
  obtain ⟨p, t, rfl, ht, htl⟩ := h
  have hsz : t.size = l.length := by rw [← Tr.size_toL, htl, qL_length]
  have b0 : Below w.heap.size w ((w.alloc (.cells #[.pointer p, .int .i64 n] QueT)).alloc (.cells #[.pointer none, .int .i64 0] QueT)) := ((Below.refl _ _).alloc (Nat.le_refl _) _).alloc (by simp) _
  have y0 : ((w.alloc (.cells #[.pointer p, .int .i64 n] QueT)).alloc (.cells #[.pointer none, .int .i64 0] QueT)).heap[w.heap.size + 1]? = some (Obj.cells #[.pointer none, .int .i64 0] QueT) := by
    have e : w.heap.size + 1 = (w.alloc (.cells #[.pointer p, .int .i64 n] QueT)).heap.size := by simp
    rw [e]; exact heap_alloc_new _ _
  have z : ((w.alloc (.cells #[.pointer p, .int .i64 n] QueT)).alloc (.cells #[.pointer none, .int .i64 0] QueT)).heap[w.heap.size]? = some (Obj.cells #[.pointer p, .int .i64 n] QueT) := by
    rw [(((Below.refl _ _).alloc (Nat.le_refl _) (.cells #[.pointer none, .int .i64 0] QueT) : Below (w.alloc (.cells #[.pointer p, .int .i64 n] QueT)).heap.size (w.alloc (.cells #[.pointer p, .int .i64 n] QueT)) _)).block _ (by simp)]; exact heap_alloc_new _ _
  have z0 := cellB (j := 0) (u := .pointer p) z rfl
  have z1 := cellB (j := 1) (u := .int .i64 n) z rfl
  have HX := Lib.hid (cellB (j := 0) (u := .pointer none) y0 rfl)
  have HX1 := Lib.hid (cellB (j := 1) (u := .int .i64 0) y0 rfl)
  have HF := Lib.hid (frozenB (j := 0) y0)
  have HF1 := Lib.hid (frozenB (j := 1) y0)
  have HB := Lib.hid b0
  have HY := Lib.hid y0
  have HH := Lib.hid (ht.below b0)
  have hn1 : IntKind.i64.wrap (n + 1) = n + 1 := IntWalk.i64_in _ (by omega)
  have hp : Hid ((Tr.put t n x).toL = qL (n + 1 - ((l ++ [x]).length : Int)) (l ++ [x])) := Lib.hid (by
    rw [Tr.toL_put _ _ _ (by rw [htl]; exact qL_srt _ _), htl]
    have := qL_put (n - l.length) l x
    rw [show n - (l.length : Int) + l.length = n by omega] at this
    rw [this]
    simp
    congr 1
    omega)
  have HZ : Hid (t.size < 500000) := Lib.hid (by omega)
  clear b0 y0 z ht htl hsz hn
  go_enter Try.func48, Try.ntmps48
  go_wp2_with fail
  generalize ((w.alloc (.cells #[.pointer p, .int .i64 n] QueT)).alloc (.cells #[.pointer none, .int .i64 0] QueT)) = W at *
  have hk : ∀ w' : World, Below W.heap.size W w' → w'.cell? ⟨w.heap.size, 0, none⟩ = some (.pointer p) ∧ w'.cell? ⟨w.heap.size, 1, none⟩ = some (.int .i64 n) := fun w' hb => ⟨bcellAt hb z0, bcellAt hb z1⟩
  have HK := Lib.hid hk
  clear hk
  go_region_held3 (fun w' => w'.cell? ⟨w.heap.size, 0, none⟩ = some (.pointer p) ∧ w'.cell? ⟨w.heap.size, 1, none⟩ = some (.int .i64 n)) ((first | (refine HK.out _ ?_; first | exact bd _ | exact bmore (bd _) u1) | go_keep))
    ((first
      | ((with_reducible refine (mputI n x (HH.out.below (bd _)) HZ.out).mono ?_); rintro e w1 ⟨q, rfl, t1, u1⟩
         have x1 := bcellAt (bmore (bd _) u1) HX.out
         have f1 := bfrozenAt (bmore (bd _) u1) HX.out HF.out
         have x2 := bcellAt (bmore (bd _) u1) HX1.out
         have f2 := bfrozenAt (bmore (bd _) u1) HX1.out HF1.out)))
  have hy1 := Hold.below (T := QueT) (bmore (bd _) u1) _ _ HY.out
  have hy2 := setCellB (j := 0) (u := .pointer q) hy1
  have hy3 := setCellB (j := 1) (u := .int .i64 (n + 1)) hy2
  have hc0 : ((w1.setCell ⟨w.heap.size + 1, 0, none⟩ (.pointer q)).setCell ⟨w.heap.size + 1, 1, none⟩ (.int .i64 (n + 1))).cell? ⟨w.heap.size + 1, 0, none⟩ = some (.pointer q) := cellB hy3 rfl
  have hc1 : ((w1.setCell ⟨w.heap.size + 1, 0, none⟩ (.pointer q)).setCell ⟨w.heap.size + 1, 1, none⟩ (.int .i64 (n + 1))).cell? ⟨w.heap.size + 1, 1, none⟩ = some (.int .i64 (n + 1)) := cellB hy3 rfl
  have HT := Lib.hid ((t1.hold (Hold.setCell (o := 0) (v := .pointer q) hy1 (by decide))).hold (Hold.setCell (o := 1) (v := .int .i64 (n + 1)) hy2 (by decide)))
  have HE := Lib.hid (((HB.out.trans ((bmore (bd _) u1).mono HB.out.size)).setCell (p := ⟨w.heap.size + 1, 0, none⟩) (by simp) (.pointer q)).setCell (p := ⟨w.heap.size + 1, 1, none⟩) (by simp) (.int .i64 (n + 1)))
  clear hy1 hy2 hy3 t1 u1
  go_wp2_with fail
  refine bodyPost_ret (v := .agg #[.pointer q, .int .i64 (n + 1)]) (by simp [results, Try.results48, go_sem, hc0, hc1]) rfl ?_
  exact ⟨_, rfl, ⟨q, _, rfl, HT.out, hp.out⟩, HE.out⟩

set_option maxHeartbeats 400000 in
theorem qlen {w : World} {v : Value} {n : Int} {l : List Int} (h : IsQ w v n l) : Calls Try.prog 49 #[v] w fun e w' => e = .returned (.int .i64 (l.length : Int)) ∧ Below w.heap.size w w' := by
  obtain ⟨p, t, rfl, ht, htl⟩ := h
  have hsz : t.size = l.length := by rw [← Tr.size_toL, htl, qL_length]
  have b0 : Below w.heap.size w (w.alloc (.cells #[.pointer p, .int .i64 n] QueT)) := (Below.refl _ _).alloc (Nat.le_refl _) _
  have h' := ht.below b0
  have HB := Lib.hid b0
  rw [← hsz]
  clear ht htl b0 hsz
  go_enter Try.func49, Try.ntmps49
  go_wp2_with fail
  refine (mlenI h').mono ?_
  rintro e w1 ⟨rfl, u1⟩
  have HU := Lib.hid u1
  clear u1
  go_wp2_with fail
  go_returns
  exact ⟨rfl, HB.out.trans (HU.out.mono HB.out.size)⟩

/-- What Pop answers of a queue that is not empty. -/
def PopYes (w : World) (n : Int) (a : Int) (l : List Int) (e : Ending) (w' : World) : Prop := ∃ p, e = .returned (.tuple #[.int .i64 a, .agg #[.pointer p, .int .i64 n], .bool true]) ∧ IsQ w' (.agg #[.pointer p, .int .i64 n]) n l ∧ Below w.heap.size w w'

set_option maxRecDepth 100000 in
set_option maxHeartbeats 1600000 in
theorem qpop_yes {w : World} {v : Value} {n : Int} {a : Int} {l : List Int} (h : IsQ w v n (a :: l)) (hl : l.length < 90000) :
    Calls Try.prog 47 #[v] w (PopYes w n a l) := by
  obtain ⟨p, t, rfl, ht, htl⟩ := h
  have hsz : t.size = l.length + 1 := by rw [← Tr.size_toL, htl, qL_length]; simp
  have b0 : Below w.heap.size w ((w.alloc (.cells #[.pointer p, .int .i64 n] QueT)).alloc (.cells #[.pointer none, .int .i64 0] QueT)) := ((Below.refl _ _).alloc (Nat.le_refl _) _).alloc (by simp) _
  have y0 : ((w.alloc (.cells #[.pointer p, .int .i64 n] QueT)).alloc (.cells #[.pointer none, .int .i64 0] QueT)).heap[w.heap.size + 1]? = some (Obj.cells #[.pointer none, .int .i64 0] QueT) := by
    have e : w.heap.size + 1 = (w.alloc (.cells #[.pointer p, .int .i64 n] QueT)).heap.size := by simp
    rw [e]; exact heap_alloc_new _ _
  have z : ((w.alloc (.cells #[.pointer p, .int .i64 n] QueT)).alloc (.cells #[.pointer none, .int .i64 0] QueT)).heap[w.heap.size]? = some (Obj.cells #[.pointer p, .int .i64 n] QueT) := by
    rw [(((Below.refl _ _).alloc (Nat.le_refl _) (.cells #[.pointer none, .int .i64 0] QueT) : Below (w.alloc (.cells #[.pointer p, .int .i64 n] QueT)).heap.size (w.alloc (.cells #[.pointer p, .int .i64 n] QueT)) _)).block _ (by simp)]; exact heap_alloc_new _ _
  have HZ0 := Lib.hid (cellB (j := 0) (u := .pointer p) z rfl)
  have HZ1 := Lib.hid (cellB (j := 1) (u := .int .i64 n) z rfl)
  have HX := Lib.hid (cellB (j := 0) (u := .pointer none) y0 rfl)
  have HX1 := Lib.hid (cellB (j := 1) (u := .int .i64 0) y0 rfl)
  have HF := Lib.hid (frozenB (j := 0) y0)
  have HF1 := Lib.hid (frozenB (j := 1) y0)
  have HB := Lib.hid b0
  have HY := Lib.hid y0
  have HH := Lib.hid (ht.below b0)
  obtain ⟨nl, nr, hnth⟩ := Tr.nth_some t 0 (by rw [Tr.size_toL]; omega)
  have h0 : (t.toL[0]'(by rw [Tr.size_toL]; omega)) = (n - ((a :: l).length : Int), a) := by simp only [htl]; rfl
  rw [h0] at hnth
  generalize hs0 : n - ((a :: l).length : Int) = s at *
  have hp : Hid ((Tr.del t s).toL = qL (n - (l.length : Int)) l) := Lib.hid (by
    rw [Tr.toL_del _ _ (by rw [htl]; exact qL_srt _ _), htl, qL_drop]
    congr 1
    simp at hs0
    omega)
  have hm : ∀ w' : World, Below w'.heap.size w' w' → IsTI w' (.pointer p) t → Calls Try.prog 100 #[.agg #[.pointer p], .int .i64 0] w' fun e w2 => e = .returned (.tuple #[.int .i64 s, .int .i64 a, .bool true]) ∧ Below w'.heap.size w' w2 := fun w' _ hT => by
    have := matI 0 hT (by omega) (by omega)
    simp only [Int.natCast_zero] at hnth
    rw [hnth] at this
    exact this
  have HM := Lib.hid hm
  have HZ : Hid (t.size < 500000) := Lib.hid (by omega)
  clear b0 y0 z ht htl hsz hm hnth h0 hs0
  go_enter Try.func47, Try.ntmps47
  go_wp2_with fail
  generalize ((w.alloc (.cells #[.pointer p, .int .i64 n] QueT)).alloc (.cells #[.pointer none, .int .i64 0] QueT)) = W at *
  refine (HM.out _ (Below.refl _ _) HH.out).mono ?_
  rintro e w9 ⟨rfl, u9⟩
  have z0 := bcellAt u9 HZ0.out
  have z1 := bcellAt u9 HZ1.out
  have HU9 := Lib.hid u9
  clear u9
  go_wp2_with fail
  have hk : ∀ w' : World, Below w9.heap.size w9 w' → w'.cell? ⟨w.heap.size, 0, none⟩ = some (.pointer p) ∧ w'.cell? ⟨w.heap.size, 1, none⟩ = some (.int .i64 n) := fun w' hb => ⟨bcellAt hb z0, bcellAt hb z1⟩
  have HK := Lib.hid hk
  clear hk
  go_region_held3 (fun w' => w'.cell? ⟨w.heap.size, 0, none⟩ = some (.pointer p) ∧ w'.cell? ⟨w.heap.size, 1, none⟩ = some (.int .i64 n)) ((first | (refine HK.out _ ?_; first | exact bd _ | exact bmore (bd _) u1) | go_keep))
    ((first
      | ((with_reducible refine (mdropI s (HH.out.below (bmore HU9.out (bd _))) HZ.out).mono ?_); rintro e w1 ⟨q, rfl, t1, u1⟩
         have x1 := bcellAt (bmore (bmore HU9.out (bd _)) u1) HX.out
         have f1 := bfrozenAt (bmore (bmore HU9.out (bd _)) u1) HX.out HF.out
         have x2 := bcellAt (bmore (bmore HU9.out (bd _)) u1) HX1.out
         have f2 := bfrozenAt (bmore (bmore HU9.out (bd _)) u1) HX1.out HF1.out)))
  all_goals
    have hy1 := Hold.below (T := QueT) (bmore (bmore HU9.out (bd _)) u1) _ _ HY.out
    have hy2 := setCellB (j := 0) (u := .pointer q) hy1
    have hy3 := setCellB (j := 1) (u := .int .i64 n) hy2
    have hc0 : ((w1.setCell ⟨w.heap.size + 1, 0, none⟩ (.pointer q)).setCell ⟨w.heap.size + 1, 1, none⟩ (.int .i64 n)).cell? ⟨w.heap.size + 1, 0, none⟩ = some (.pointer q) := cellB hy3 rfl
    have hc1 : ((w1.setCell ⟨w.heap.size + 1, 0, none⟩ (.pointer q)).setCell ⟨w.heap.size + 1, 1, none⟩ (.int .i64 n)).cell? ⟨w.heap.size + 1, 1, none⟩ = some (.int .i64 n) := cellB hy3 rfl
    have HT := Lib.hid ((t1.hold (Hold.setCell (o := 0) (v := .pointer q) hy1 (by decide))).hold (Hold.setCell (o := 1) (v := .int .i64 n) hy2 (by decide)))
    have HE := Lib.hid (((HB.out.trans ((bmore (bmore HU9.out (bd _)) u1).mono HB.out.size)).setCell (p := ⟨w.heap.size + 1, 0, none⟩) (by simp) (.pointer q)).setCell (p := ⟨w.heap.size + 1, 1, none⟩) (by simp) (.int .i64 n))
    clear hy1 hy2 hy3 t1 u1
    go_wp2_with fail
    refine bodyPost_ret (v := .tuple #[.int .i64 a, .agg #[.pointer q, .int .i64 n], .bool true]) (by simp [results, Try.results47, go_sem, hc0, hc1]) rfl ?_
    exact ⟨_, rfl, ⟨q, _, rfl, HT.out, hp.out⟩, HE.out⟩

end Go.Proofs.Ytmbaedldikobcaa
