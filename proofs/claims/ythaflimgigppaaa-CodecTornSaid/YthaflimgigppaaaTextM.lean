/-
  codec's (*Reader).Text.
-/
import Derived.Test.YthaflimgigppaaaNum
namespace Go.Proofs.Ythaflimgigppaaa
open Go.RowKit

/-- The world with three new variables. -/
def three (w : World) (x y z : Value) (t u s : TypeId) : World := ((w.alloc (.cells #[x] t)).alloc (.cells #[y] u)).alloc (.cells #[z] s)
theorem three_facts (w : World) (x y z : Value) (t u s : TypeId) : Below w.heap.size w (three w x y z t u s) ∧ (three w x y z t u s).cell? ⟨w.heap.size, 0, none⟩ = some x ∧ (three w x y z t u s).cell? ⟨w.heap.size + 1, 0, none⟩ = some y ∧
    (three w x y z t u s).cell? ⟨w.heap.size + 2, 0, none⟩ = some z ∧ (three w x y z t u s).frozen? ⟨w.heap.size + 2, 0, none⟩ = false ∧ (three w x y z t u s).heap.size = w.heap.size + 3 :=
  ⟨(((Below.refl _ _).alloc (Nat.le_refl _) _).alloc (by simp) _).alloc (by simp; omega) _, by simp [three, go_sem], by simp [three, go_sem], by simp [three, go_sem], by simp [three, go_sem], by simp [three]⟩

set_option maxHeartbeats 400000 in
theorem Text1_ok {W : World} {a : Nat} {v : Value} {p : List UInt8} {k : Nat} (h : IsReader W a v p k 0) {most : Int} (hm : most ≤ 9223372036854775807) {l : List UInt8} {len : Nat} (hs : textS (p.drop k) most = .inr (l, len)) (rc mc nc : Nat) (x : Value)
    (hrc : W.cell? ⟨rc, 0, none⟩ = some (.pointer (some ⟨a, 0, none⟩))) (hmc : W.cell? ⟨mc, 0, none⟩ = some (.int .i64 most)) (hnc : W.cell? ⟨nc, 0, none⟩ = some x) (hf : W.frozen? ⟨nc, 0, none⟩ = false) (hna : nc ≠ a) :
    Calls Try.prog 20 #[.pointer (some ⟨rc, 0, none⟩), .pointer (some ⟨mc, 0, none⟩), .pointer (some ⟨nc, 0, none⟩)] W fun e' w' => e' = .returned (.tuple #[]) ∧
      ∃ w1, W.grownBy w1 (some a) ∧ IsReader w1 a v p (k + len) 0 ∧ w' = w1.setCell ⟨nc, 0, none⟩ (.string (strOf l)) := by
  have hnum := text_any h most hm
  rw [hs] at hnum
  have HN := Lib.hid hnum
  clear hnum hs
  go_enter Try.func20, Try.ntmps20
  go_wp2_with fail
  refine HN.out.mono ?_
  rintro e' w1 ⟨hg, rfl, hr⟩
  have c1 := hg.cell hnc (by simpa using hna)
  have f1 := (frozen_grown hg (World.block_lt_of_cell? W _ hnc) (by simpa using hna)).trans hf
  go_wp2_with fail
  go_end0
  exact ⟨rfl, w1, hg, hr, rfl⟩

set_option maxHeartbeats 400000 in
theorem Text1_bad {W : World} {a : Nat} {v : Value} {p : List UInt8} {k : Nat} (h : IsReader W a v p k 0) {most : Int} (hm : most ≤ 9223372036854775807) {er : Nat} (hs : textS (p.drop k) most = .inl er) (rc mc nc : Nat)
    (hrc : W.cell? ⟨rc, 0, none⟩ = some (.pointer (some ⟨a, 0, none⟩))) (hmc : W.cell? ⟨mc, 0, none⟩ = some (.int .i64 most)) :
    Calls Try.prog 20 #[.pointer (some ⟨rc, 0, none⟩), .pointer (some ⟨mc, 0, none⟩), .pointer (some ⟨nc, 0, none⟩)] W fun e' w' => e' = .panicked (faultOf er) ∧ W.grownBy w' (some a) ∧ ∃ k', IsReader w' a v p k' 0 := by
  have hnum := text_any h most hm
  rw [hs] at hnum
  have HN := Lib.hid hnum
  clear hnum hs
  go_enter Try.func20, Try.ntmps20
  go_wp2_with fail
  refine HN.out.mono ?_
  rintro e' w1 ⟨hg, rfl, hr⟩
  go_wp2_with fail
  exact ⟨rfl, rfl, hg, hr⟩

theorem callF_Text (cap : Array Value) (w : World) : (callFunc 20 cap).run Try.prog w = .ok (.enter 20 cap) w := by kernel_rfl

set_option maxHeartbeats 400000 in
theorem Text_nil (most : Int) (w : World) :
    Calls Try.prog 10 #[.pointer none, .int .i64 most] w fun e' w' => e' = .returned (.string ⟨#[]⟩) ∧ Below w.heap.size w w' := by
  have hmf : ∀ (fn : Fn) (first cap : Array Value) (w : World), (Instr.makeFunc fn first cap).run Try.prog w = .ok (.func fn first cap) w := fun _ _ _ _ => rfl
  have G := Lib.hid (three_facts w (.pointer none) (.int .i64 most) (.string ⟨#[]⟩) 33 3 9)
  go_enter Try.func10, Try.ntmps10
  go_wp2_with fail
  obtain ⟨g0, _, _, g1, g2, g3⟩ := G.out
  clear G
  change Calls _ _ _ (three w (.pointer none) (.int .i64 most) (.string ⟨#[]⟩) 33 3 9) _
  generalize three w (.pointer none) (.int .i64 most) (.string ⟨#[]⟩) 33 3 9 = wA at *
  refine (read_nil _ _).mono ?_
  rintro e' w1 ⟨rfl, hb⟩
  have c1 := cell_later hb g1
  have f1 := (hb.frozen (p := ⟨w.heap.size + 2, 0, none⟩) (by simp; omega)).trans g2
  have hb1 := g0.trans (hb.mono (by omega))
  clear g0 g1 g2 hb
  go_wp2_with fail
  exact bodyPost_ret (v := .string ⟨#[]⟩) (by simp [results, Try.results10, go_sem, c1]) rfl ⟨rfl, below_set_new hb1 (by omega) _ _⟩

set_option maxHeartbeats 400000 in
theorem Text_after {w : World} {a : Nat} {v : Value} {p : List UInt8} {k e : Nat} (h : IsReader w a v p k e) (he : 0 < e) (most : Int) :
    Calls Try.prog 10 #[.pointer (some ⟨a, 0, none⟩), .int .i64 most] w fun e' w' => e' = .returned (.string ⟨#[]⟩) ∧ Below w.heap.size w w' := by
  have hmf : ∀ (fn : Fn) (first cap : Array Value) (w : World), (Instr.makeFunc fn first cap).run Try.prog w = .ok (.func fn first cap) w := fun _ _ _ _ => rfl
  have G := Lib.hid (three_facts w (.pointer (some ⟨a, 0, none⟩)) (.int .i64 most) (.string ⟨#[]⟩) 33 3 9)
  go_enter Try.func10, Try.ntmps10
  go_wp2_with fail
  obtain ⟨g0, _, _, g1, g2, g3⟩ := G.out
  clear G
  change Calls _ _ _ (three w (.pointer (some ⟨a, 0, none⟩)) (.int .i64 most) (.string ⟨#[]⟩) 33 3 9) _
  have hA := h.below g0
  generalize three w (.pointer (some ⟨a, 0, none⟩)) (.int .i64 most) (.string ⟨#[]⟩) 33 3 9 = wA at *
  refine (read_after hA he _).mono ?_
  rintro e' w1 ⟨rfl, hb⟩
  have c1 := cell_later hb g1
  have f1 := (hb.frozen (p := ⟨w.heap.size + 2, 0, none⟩) (by simp; omega)).trans g2
  have hb1 := g0.trans (hb.mono (by omega))
  clear g0 g1 g2 hb hA h
  go_wp2_with fail
  exact bodyPost_ret (v := .string ⟨#[]⟩) (by simp [results, Try.results10, go_sem, c1]) rfl ⟨rfl, below_set_new hb1 (by omega) _ _⟩

set_option maxHeartbeats 400000 in
theorem Text_ok {w : World} {a : Nat} {v : Value} {p : List UInt8} {k : Nat} (h : IsReader w a v p k 0) {most : Int} (hm : most ≤ 9223372036854775807) {l : List UInt8} {len : Nat} (hs : textS (p.drop k) most = .inr (l, len)) :
    Calls Try.prog 10 #[.pointer (some ⟨a, 0, none⟩), .int .i64 most] w fun e' w' => e' = .returned (.string (strOf l)) ∧ w.grownBy w' (some a) ∧ IsReader w' a v p (k + len) 0 := by
  have hmf : ∀ (fn : Fn) (first cap : Array Value) (w : World), (Instr.makeFunc fn first cap).run Try.prog w = .ok (.func fn first cap) w := fun _ _ _ _ => rfl
  have hs' := Lib.hid hs
  clear hs
  have hm' := hm
  clear hm
  have la := h.lt
  have G := Lib.hid (three_facts w (.pointer (some ⟨a, 0, none⟩)) (.int .i64 most) (.string ⟨#[]⟩) 33 3 9)
  go_enter Try.func10, Try.ntmps10
  go_wp2_with fail
  obtain ⟨g0, g4, g5, g1, g2, g3⟩ := G.out
  clear G
  change Calls _ _ _ (three w (.pointer (some ⟨a, 0, none⟩)) (.int .i64 most) (.string ⟨#[]⟩) 33 3 9) _
  have hA := h.below g0
  generalize three w (.pointer (some ⟨a, 0, none⟩)) (.int .i64 most) (.string ⟨#[]⟩) 33 3 9 = wA at *
  have hI := inRead_grown wA a k none
  have hA' := hA.grown hI (by simp) (by cases v.ownBlock <;> simp)
  have q1 := frozen_grown hI (a := ⟨w.heap.size + 2, 0, none⟩) (by simp; omega) (by simp)
  refine (read_ok hA 20 _ _ (fun w => callF_Text _ w) (Text1_ok hA' hm' hs'.out w.heap.size (w.heap.size + 1) (w.heap.size + 2) _ (hI.cell g4 (by simp)) (hI.cell g5 (by simp)) (hI.cell g1 (by simp)) (q1.trans g2) (by omega))).mono ?_
  rintro e' w2 ⟨rfl, w1, hg, hr, rfl⟩
  have hb1 : w.grownBy w1 (some a) := grown_trans (grown_of_below g0 _) (grown_trans (inRead_grown wA a k _) hg)
  have hw1 : w.heap.size + 2 < w1.heap.size := by have := hI.size; have := hg.size; omega
  have hv : v.ownBlock ≠ some (w.heap.size + 2) := fun e => by have := h.rd.own_lt _ e; omega
  obtain ⟨x, hx⟩ : ∃ x, w1.cell? ⟨w.heap.size + 2, 0, none⟩ = some x := ⟨_, hg.cell (hI.cell g1 (by simp)) (by simp; omega)⟩
  have f1 := ((frozen_grown hg (a := ⟨w.heap.size + 2, 0, none⟩) (by have := hI.size; simp; omega) (by simp; omega)).trans q1).trans g2
  have hr2 := hr.set_other (g := w.heap.size + 2) (by omega) hv 0 (.string (strOf l))
  have hr3 := hr2.set_other (g := w.heap.size + 2) (by omega) hv 0 (.string (strOf l))
  have hb2 := grown_set_new hb1 (g := w.heap.size + 2) (by omega) 0 (.string (strOf l))
  have hb3 := grown_set_new hb2 (g := w.heap.size + 2) (by omega) 0 (.string (strOf l))
  have c2 : (w1.setCell ⟨w.heap.size + 2, 0, none⟩ (.string (strOf l))).cell? ⟨w.heap.size + 2, 0, none⟩ = some (.string (strOf l)) := by simp [go_sem, hx]
  have f2 : (w1.setCell ⟨w.heap.size + 2, 0, none⟩ (.string (strOf l))).frozen? ⟨w.heap.size + 2, 0, none⟩ = false := by simp [go_sem, f1]
  clear hb1 hb2 hr2 hr hI hA hA' q1 g0 g1 g2 g4 g5 hg f1
  generalize w1.setCell ⟨w.heap.size + 2, 0, none⟩ (.string (strOf l)) = w2 at *
  go_wp2_with fail
  exact bodyPost_ret (v := .string (strOf l)) (by simp [results, Try.results10, go_sem, c2]) rfl ⟨rfl, hb3, hr3⟩

set_option maxHeartbeats 400000 in
theorem Text_bad {w : World} {a : Nat} {v : Value} {p : List UInt8} {k : Nat} (h : IsReader w a v p k 0) {most : Int} (hm : most ≤ 9223372036854775807) {er : Nat} (hs : textS (p.drop k) most = .inl er) (hel : er < 200) :
    Calls Try.prog 10 #[.pointer (some ⟨a, 0, none⟩), .int .i64 most] w fun e' w' => e' = .returned (.string ⟨#[]⟩) ∧ w.grownBy w' (some a) ∧ IsReader w' a v p k er := by
  have hmf : ∀ (fn : Fn) (first cap : Array Value) (w : World), (Instr.makeFunc fn first cap).run Try.prog w = .ok (.func fn first cap) w := fun _ _ _ _ => rfl
  have hs' := Lib.hid hs
  clear hs
  have hm' := hm
  clear hm
  have la := h.lt
  have G := Lib.hid (three_facts w (.pointer (some ⟨a, 0, none⟩)) (.int .i64 most) (.string ⟨#[]⟩) 33 3 9)
  go_enter Try.func10, Try.ntmps10
  go_wp2_with fail
  obtain ⟨g0, g4, g5, g1, g2, g3⟩ := G.out
  clear G
  change Calls _ _ _ (three w (.pointer (some ⟨a, 0, none⟩)) (.int .i64 most) (.string ⟨#[]⟩) 33 3 9) _
  have hA := h.below g0
  generalize three w (.pointer (some ⟨a, 0, none⟩)) (.int .i64 most) (.string ⟨#[]⟩) 33 3 9 = wA at *
  have hI := inRead_grown wA a k none
  have hA' := hA.grown hI (by simp) (by cases v.ownBlock <;> simp)
  refine (read_bad hA 20 _ er hel (fun w => callF_Text _ w) (Text1_bad hA' hm' hs'.out w.heap.size (w.heap.size + 1) (w.heap.size + 2) (hI.cell g4 (by simp)) (hI.cell g5 (by simp)))).mono ?_
  rintro e' w1 ⟨rfl, hg, hr⟩
  have hb1 : w.grownBy w1 (some a) := grown_trans (grown_of_below g0 _) hg
  have hv : v.ownBlock ≠ some (w.heap.size + 2) := fun e => by have := h.rd.own_lt _ e; omega
  have c2 := hg.cell g1 (by simp; omega)
  have f2 := (frozen_grown hg (a := ⟨w.heap.size + 2, 0, none⟩) (by simp; omega) (by simp; omega)).trans g2
  have hr3 := hr.set_other (g := w.heap.size + 2) (by omega) hv 0 (.string ⟨#[]⟩)
  have hb3 := grown_set_new hb1 (g := w.heap.size + 2) (by omega) 0 (.string ⟨#[]⟩)
  clear hb1 hr hI hA hA' g0 g1 g2 g4 g5 hg
  go_wp2_with fail
  exact bodyPost_ret (v := .string ⟨#[]⟩) (by simp [results, Try.results10, go_sem, c2]) rfl ⟨rfl, hb3, hr3⟩

end Go.Proofs.Ythaflimgigppaaa
