/-
  A heap in memory: Push.
-/
import Derived.Test.YtmbaedldikobcaaKHeapS
namespace Go.Proofs.Ytmbaedldikobcaa
open Go.RowKit
set_option linter.unusedVariables false

def hps (L : List Hp) : List Value := L.flatMap fun x => [.int .i64 x.key, .int .i64 x.num, .int .i64 x.turn]
theorem hps_length (L : List Hp) : (hps L).length = L.length * 3 := by
  induction L with
  | nil => rfl
  | cons a L ih => simp only [hps, List.flatMap_cons, List.length_append, List.length_cons, List.length_nil] at ih ⊢; omega
theorem hps_append (a b : List Hp) : hps (a ++ b) = hps a ++ hps b := by simp [hps]
theorem hps_at {L : List Hp} : ∀ {k : Nat} {x : Hp}, L[k]? = some x → (hps L)[k * 3]? = some (.int .i64 x.key) ∧ (hps L)[k * 3 + 1]? = some (.int .i64 x.num) ∧ (hps L)[k * 3 + 2]? = some (.int .i64 x.turn) := by
  induction L with
  | nil => intro k x h; simp at h
  | cons a L ih =>
    intro k x h
    cases k with
    | zero =>
      obtain rfl : a = x := by simpa using h
      exact ⟨rfl, rfl, rfl⟩
    | succ k =>
      obtain ⟨h1, h2, h3⟩ := ih (by simpa using h)
      rw [show (k + 1) * 3 = (k * 3) + 3 by omega]
      exact ⟨h1, h2, h3⟩
theorem hps_oneCell (L : List Hp) : ∀ u ∈ hps L, u.oneCell' = true := by
  intro u hu
  simp only [hps, List.mem_flatMap, List.mem_cons, List.mem_nil_iff, or_false] at hu
  obtain ⟨x, _, rfl | rfl | rfl⟩ := hu <;> rfl
theorem own_of_laid {w : World} {B g cap : Nat} {L : List Hp} (h : Laid3 w g cap L) (hB : B ≤ g) (hc : cap ≤ maxLen) : w.ownsRow B PuT 3 (.slice (some ⟨g, 0, none⟩) L.length cap) L.length (hps L) := by
  obtain ⟨cur, h1, h2, h3, h4⟩ := h
  refine ⟨hps_length L, .inr ⟨g, cap, cur, rfl, hB, h1, h3, hc, h2, ?_⟩⟩
  apply List.ext_getElem?
  intro j
  by_cases hj : j < L.length * 3
  · obtain ⟨k, r, hr, rfl⟩ : ∃ k r, r < 3 ∧ j = k * 3 + r := ⟨j / 3, j % 3, by omega, by omega⟩
    have hk : k < L.length := by omega
    obtain ⟨p1, p2, p3⟩ := h4 k _ (List.getElem?_eq_getElem hk)
    obtain ⟨q1, q2, q3⟩ := hps_at (List.getElem?_eq_getElem hk)
    rw [List.getElem?_take_of_lt hj, Array.getElem?_toList]
    have e : r = 0 ∨ r = 1 ∨ r = 2 := by omega
    rcases e with rfl | rfl | rfl
    · exact p1.trans q1.symm
    · exact p2.trans q2.symm
    · exact p3.trans q3.symm
  · rw [List.getElem?_eq_none (by simp; omega), List.getElem?_eq_none (by rw [hps_length]; omega)]
theorem laid_of_own {w : World} {B : Nat} {v : Value} {L : List Hp} (h : w.ownsRow B PuT 3 v L.length (hps L)) (h0 : 0 < L.length) : ∃ g cap, v = .slice (some ⟨g, 0, none⟩) L.length cap ∧ B ≤ g ∧ cap ≤ maxLen ∧ Laid3 w g cap L := by
  obtain ⟨h1, h2⟩ := h
  rcases h2 with ⟨_, h2⟩ | ⟨g, cap, cur, rfl, hb, hg, hle, hm, hc, ht⟩
  · omega
  · refine ⟨g, cap, rfl, hb, hm, cur, hg, hc, hle, fun k x hx => ?_⟩
    have hk : k < L.length := (List.getElem?_eq_some_iff.1 hx).1
    have q := hps_at hx
    rw [← ht, List.getElem?_take_of_lt (by omega), List.getElem?_take_of_lt (by omega), List.getElem?_take_of_lt (by omega), Array.getElem?_toList, Array.getElem?_toList, Array.getElem?_toList] at q
    exact q
theorem Laid3.heap {w w' : World} {g cap : Nat} {L : List Hp} (h : Laid3 w g cap L) (e : w'.heap[g]? = w.heap[g]?) : Laid3 w' g cap L := by
  obtain ⟨cur, h1, h2⟩ := h
  exact ⟨cur, e.trans h1, h2⟩
/-- At block hb lies a heap: its things are L, in the slice v; t were pushed. -/
structure IsHp (w : World) (B hb fl : Nat) (v : Value) (L : List Hp) (t : Int) : Prop where
  lay : w.heap[hb]? = some (Obj.cells #[.func (.func fl) #[] #[], v, .int .i64 t] HeT)
  row : w.ownsRow B PuT 3 v L.length (hps L)
  gb : B ≤ hb
theorem rowP : (Try.prog.info? PuT).map (fun i => (i.zero, i.size, i.bytes)) = some (some (.agg #[.int .i64 0, .int .i64 0, .int .i64 0]), 3, 24) := by kernel_rfl
/-- What lies in blocks of other types stays. -/
def Far (w w' : World) : Prop := ∀ T, T ≠ HeT → T ≠ PuT → Hold T w w'
theorem Far.trans {a b c : World} (h : Far a b) (k : Far b c) : Far a c := fun T h1 h2 => (h T h1 h2).trans (k T h1 h2)
theorem Far.below {w w' : World} (h : Below w.heap.size w w') : Far w w' := fun T _ _ => Hold.below h

set_option maxRecDepth 100000 in
set_option maxHeartbeats 4000000 in
theorem push_any {f : Int → Int} {fl : Nat} (hF : Less f fl) {w : World} {B hb : Nat} {v : Value} {L : List Hp} {t k m : Int} (h : IsHp w B hb fl v L t) (hz : L.length < 100000) (ht : 0 ≤ t) (ht' : t < 100000) (hk : InI k) (hks : KeysIn L) (hO : HeapOk f (atH L) L.length) :
    Calls Try.prog 55 #[.pointer (some ⟨hb, 0, none⟩), thV k m] w fun e w' => e = .returned (.tuple #[]) ∧ ∃ v' L', IsHp w' B hb fl v' L' (t + 1) ∧ L'.Perm (L ++ [⟨k, m, t⟩]) ∧ HeapOk f (atH L') (L.length + 1) ∧ Below B w w' ∧ Far w w' := by
  obtain ⟨ip, hip, hp0, hp1, hp2⟩ := info_parts rowP
  obtain ⟨va, vc, rfl⟩ := (row_of_own h.row).shape
  have H := Lib.hid h
  have HF := Lib.hid hF
  have HKS := Lib.hid hks
  have HO := Lib.hid hO
  have HK := Lib.hid hk
  have HZ := Lib.hid hz
  have HT := Lib.hid ht
  have HT' := Lib.hid ht'
  have z1 := cellB (j := 1) h.lay rfl
  have z2 := cellB (j := 2) h.lay rfl
  have bW : Below w.heap.size w (w.alloc (.cells #[.int .i64 k, .int .i64 m] ThT)) := (Below.refl _ _).alloc (Nat.le_refl _) _
  have hbl : hb < w.heap.size := (Array.getElem?_eq_some_iff.1 h.lay).1
  have hw1 : wrap64 (t + 1) = t + 1 := by unfold wrap64; omega
  have hw2 : wrap64 (L.length : Int) = (L.length : Int) := by unfold wrap64; omega
  have HBL := Lib.hid hbl
  have y1 := bcellAt bW z1
  have y2 := bcellAt bW z2
  have x0 : (w.alloc (.cells #[.int .i64 k, .int .i64 m] ThT)).cell? ⟨w.heap.size, 0, none⟩ = some (.int .i64 k) := cellB (heap_alloc_new _ _) rfl
  have x1 : (w.alloc (.cells #[.int .i64 k, .int .i64 m] ThT)).cell? ⟨w.heap.size, 1, none⟩ = some (.int .i64 m) := cellB (heap_alloc_new _ _) rfl
  have hxb : (w.alloc (.cells #[.int .i64 k, .int .i64 m] ThT)).heap[w.heap.size]? = some (Obj.cells #[.int .i64 k, .int .i64 m] ThT) := heap_alloc_new _ _
  have HXA := Lib.hid hxb
  clear h hF hks hO hk hz ht ht' z1 z2 hbl hxb
  have BW := Lib.hid bW
  clear bW
  go_enter Try.func55, Try.ntmps55
  go_wp2_with fail
  generalize (w.alloc (.cells #[.int .i64 k, .int .i64 m] ThT)) = W1 at *
  refine lext_start [0, 1, 2, 3, 4, 5, 6, 7, 8, 9, 10, 11, 12, 13, 14, 15] 15 15 (F := (fun _ W => W.cell? ⟨hb, 1, none⟩ = some (.slice va L.length vc) ∧ W.cell? ⟨hb, 2, none⟩ = some (.int .i64 t) ∧ W.cell? ⟨w.heap.size, 0, none⟩ = some (.int .i64 k) ∧ W.cell? ⟨w.heap.size, 1, none⟩ = some (.int .i64 m))) (by kernel_rfl) ?_
  simp only [inOrder, List.filterMap, List.getElem?_cons_succ, List.getElem?_cons_zero]
  have hS : (fun _ W => W.cell? ⟨hb, 1, none⟩ = some (.slice va L.length vc) ∧ W.cell? ⟨hb, 2, none⟩ = some (.int .i64 t) ∧ W.cell? ⟨w.heap.size, 0, none⟩ = some (.int .i64 k) ∧ W.cell? ⟨w.heap.size, 1, none⟩ = some (.int .i64 m)) false W1.drew := ⟨bcellAt (bd _) y1, bcellAt (bd _) y2, bcellAt (bd _) x0, bcellAt (bd _) x1⟩
  clear y1 y2 x0 x1
  refine lext_take (i := 0) (v := ?_) rfl (by decide) (by decide) (by kernel_rfl) (by kernel_rfl) (by kernel_rfl) (by kernel_rfl) (by kernel_rfl) (by kernel_rfl) (by rfl) hS ?_ ?_
  rotate_left
  · ((intro W hW; obtain ⟨k1, k2, k3, k4⟩ := hW; go_simp) <;> with_reducible rfl)
  simp only [Act.put, List.setIfInBounds_toArray, List.set_cons_zero, List.set_cons_succ]
  refine lext_take (i := 1) (v := ?_) rfl (by decide) (by decide) (by kernel_rfl) (by kernel_rfl) (by kernel_rfl) (by kernel_rfl) (by kernel_rfl) (by kernel_rfl) (by rfl) hS ?_ ?_
  rotate_left
  · ((intro W hW; obtain ⟨k1, k2, k3, k4⟩ := hW; go_simp) <;> with_reducible rfl)
  simp only [Act.put, List.setIfInBounds_toArray, List.set_cons_zero, List.set_cons_succ]
  refine lext_take (i := 2) (v := ?_) rfl (by decide) (by decide) (by kernel_rfl) (by kernel_rfl) (by kernel_rfl) (by kernel_rfl) (by kernel_rfl) (by kernel_rfl) (by rfl) hS ?_ ?_
  rotate_left
  · ((intro W hW; obtain ⟨k1, k2, k3, k4⟩ := hW; go_simp) <;> with_reducible rfl)
  simp only [Act.put, List.setIfInBounds_toArray, List.set_cons_zero, List.set_cons_succ]
  refine lext_take (i := 3) (v := ?_) rfl (by decide) (by decide) (by kernel_rfl) (by kernel_rfl) (by kernel_rfl) (by kernel_rfl) (by kernel_rfl) (by kernel_rfl) (by rfl) hS ?_ ?_
  rotate_left
  · ((intro W hW; obtain ⟨k1, k2, k3, k4⟩ := hW; go_simp) <;> with_reducible rfl)
  simp only [Act.put, List.setIfInBounds_toArray, List.set_cons_zero, List.set_cons_succ]
  refine lext_take (i := 4) (v := ?_) rfl (by decide) (by decide) (by kernel_rfl) (by kernel_rfl) (by kernel_rfl) (by kernel_rfl) (by kernel_rfl) (by kernel_rfl) (by rfl) hS ?_ ?_
  rotate_left
  · ((intro W hW; obtain ⟨k1, k2, k3, k4⟩ := hW; go_simp) <;> with_reducible rfl)
  simp only [Act.put, List.setIfInBounds_toArray, List.set_cons_zero, List.set_cons_succ]
  refine lext_take (i := 5) (v := ?_) rfl (by decide) (by decide) (by kernel_rfl) (by kernel_rfl) (by kernel_rfl) (by kernel_rfl) (by kernel_rfl) (by kernel_rfl) (by rfl) hS ?_ ?_
  rotate_left
  · ((intro W hW; obtain ⟨k1, k2, k3, k4⟩ := hW; go_simp) <;> with_reducible rfl)
  simp only [Act.put, List.setIfInBounds_toArray, List.set_cons_zero, List.set_cons_succ]
  refine lext_take (i := 6) (v := ?_) rfl (by decide) (by decide) (by kernel_rfl) (by kernel_rfl) (by kernel_rfl) (by kernel_rfl) (by kernel_rfl) (by kernel_rfl) (by rfl) hS ?_ ?_
  rotate_left
  · ((intro W hW; obtain ⟨k1, k2, k3, k4⟩ := hW; go_simp) <;> with_reducible rfl)
  simp only [Act.put, List.setIfInBounds_toArray, List.set_cons_zero, List.set_cons_succ]
  refine lext_take (i := 7) (v := ?_) rfl (by decide) (by decide) (by kernel_rfl) (by kernel_rfl) (by kernel_rfl) (by kernel_rfl) (by kernel_rfl) (by kernel_rfl) (by rfl) hS ?_ ?_
  rotate_left
  · ((intro W hW; obtain ⟨k1, k2, k3, k4⟩ := hW; go_simp) <;> with_reducible rfl)
  simp only [Act.put, List.setIfInBounds_toArray, List.set_cons_zero, List.set_cons_succ]
  refine lext_take (i := 8) (v := ?_) rfl (by decide) (by decide) (by kernel_rfl) (by kernel_rfl) (by kernel_rfl) (by kernel_rfl) (by kernel_rfl) (by kernel_rfl) (by rfl) hS ?_ ?_
  rotate_left
  · ((intro W hW; obtain ⟨k1, k2, k3, k4⟩ := hW; go_simp) <;> with_reducible rfl)
  simp only [Act.put, List.setIfInBounds_toArray, List.set_cons_zero, List.set_cons_succ]
  refine lext_take (i := 9) (v := ?_) rfl (by decide) (by decide) (by kernel_rfl) (by kernel_rfl) (by kernel_rfl) (by kernel_rfl) (by kernel_rfl) (by kernel_rfl) (by rfl) hS ?_ ?_
  rotate_left
  · ((intro W hW; obtain ⟨k1, k2, k3, k4⟩ := hW; go_simp) <;> with_reducible rfl)
  simp only [Act.put, List.setIfInBounds_toArray, List.set_cons_zero, List.set_cons_succ]
  refine lext_take (i := 10) (v := ?_) rfl (by decide) (by decide) (by kernel_rfl) (by kernel_rfl) (by kernel_rfl) (by kernel_rfl) (by kernel_rfl) (by kernel_rfl) (by rfl) hS ?_ ?_
  rotate_left
  · ((intro W hW; obtain ⟨k1, k2, k3, k4⟩ := hW; go_simp) <;> with_reducible rfl)
  simp only [Act.put, List.setIfInBounds_toArray, List.set_cons_zero, List.set_cons_succ]
  have HV : Hid (Below w.heap.size w W1.drew) := Lib.hid (bmore BW.out (bd _))
  have HXB : Hid (W1.drew.heap[w.heap.size]? = some (Obj.cells #[.int .i64 k, .int .i64 m] ThT)) := Lib.hid ((Hold.below (bd _)) _ _ HXA.out)
  clear BW HXA
  generalize W1.drew = V at *
  obtain ⟨s1, s2, s3, s4⟩ := hS
  have HSS : Hid (∀ X, Below V.heap.size V X → X.cell? ⟨hb, 1, none⟩ = some (.slice va L.length vc) ∧ X.cell? ⟨hb, 2, none⟩ = some (.int .i64 t) ∧ X.cell? ⟨w.heap.size, 0, none⟩ = some (.int .i64 k) ∧ X.cell? ⟨w.heap.size, 1, none⟩ = some (.int .i64 m)) := Lib.hid fun X hb => ⟨bcellAt hb s1, bcellAt hb s2, bcellAt hb s3, bcellAt hb s4⟩
  clear s1 s2 s3 s4
  refine lext_do (i := 11) (b := false) rfl (by kernel_rfl) (by kernel_rfl) (by rfl) (fun K hK => ?_)
  go_simp
  have b1 : Below V.heap.size V (V.alloc (.cells #[.int .i64 k, .int .i64 m, .int .i64 t] PuT)) := (Below.refl _ _).alloc (Nat.le_refl _) _
  refine hK _ _ ⟨fun _ => HSS.out _ b1, ?_⟩
  clear hK K
  refine lext_do (i := 12) (b := false) rfl (by kernel_rfl) (by kernel_rfl) (by rfl) (fun K hK => ?_)
  have hr1 : (V.alloc (.cells #[.int .i64 k, .int .i64 m, .int .i64 t] PuT)).ownsRow B PuT 3 (.slice va L.length vc) L.length (hps L) := own_hold (own_hold H.out.row (Hold.below HV.out)) (Hold.below b1)
  have hl1 : (V.alloc (.cells #[.int .i64 k, .int .i64 m, .int .i64 t] PuT)).heap[V.heap.size]? = some (Obj.cells #[.int .i64 k, .int .i64 m, .int .i64 t] PuT) := heap_alloc_new _ _
  refine wp_append_own _ _ _ 145 rfl B PuT ip (.agg #[.int .i64 0, .int .i64 0, .int .i64 0]) 3 24 Try.underlying145 hip hp0 hp1 hp2 rfl (by decide) (.slice va L.length vc) L.length (hps L) rfl hr1 ⟨V.heap.size, 0, none⟩ 1 1 [.int .i64 k, .int .i64 m, .int .i64 t] rfl rfl ?_ ?_ ?_ ?_ ?_ ?_
  · intro j u hj
    have e : ({ block := V.heap.size, off := 0 } : Addr).add j = ⟨V.heap.size, j, none⟩ := by unfold Addr.add; split <;> simp_all
    rw [e]
    exact cellB hl1 (by rw [← hj]; simp)
  · exact hps_oneCell [⟨k, m, t⟩]
  · have := HZ.out; unfold maxLen; omega
  · have := HZ.out; omega
  · have := H.out.gb; have := HBL.out; have := HV.out.size; simp; omega
  intro v' w5 hown' hg' _
  have hO5 : w5.ownsRow B PuT 3 v' (L ++ [(⟨k, m, t⟩ : Hp)]).length (hps (L ++ [(⟨k, m, t⟩ : Hp)])) := by rw [hps_append, List.length_append]; exact hown'
  have hne5 : ∀ r, (Value.slice va L.length vc).ownBlock = some r → B ≤ r ∧ r ≠ hb := fun r e => by
    obtain ⟨q1, cur, q2⟩ := own_type hr1 e
    refine ⟨q1, ?_⟩
    rintro rfl
    have q3 := (Hold.below b1) _ _ ((Hold.below HV.out) _ _ H.out.lay)
    rw [q2] at q3
    simp only [Option.some.injEq, Obj.cells.injEq] at q3
    exact absurd q3.2.1 (by decide)
  have hBV : B ≤ V.heap.size := by have := H.out.gb; have := HBL.out; have := HV.out.size; omega
  have hlay5 : w5.heap[hb]? = some (Obj.cells #[.func (.func fl) #[] #[], .slice va L.length vc, .int .i64 t] HeT) := by
    rw [hg'.block hb (by have := HBL.out; have := HV.out.size; simp; omega) (fun e => (hne5 hb e.symm).2 rfl)]
    exact (Hold.below b1) _ _ ((Hold.below HV.out) _ _ H.out.lay)
  have hB5 : Below B w w5 := ((HV.out.trans (b1.mono HV.out.size)).mono (by have := H.out.gb; have := HBL.out; omega)).trans ((Below.refl B _).grown hg' (by simp; omega) (fun r e => (hne5 r e).1))
  have hFV : Far V w5 := (Far.below b1).trans fun T h1 h2 b cs hb => by
    rw [hg'.block b (Array.getElem?_eq_some_iff.1 hb).1 (fun e => by
      obtain ⟨_, cur, q2⟩ := own_type hr1 e.symm
      rw [hb] at q2
      simp only [Option.some.injEq, Obj.cells.injEq] at q2
      exact h2 q2.2.1)]
    exact hb
  have hS5 : w5.cell? ⟨hb, 1, none⟩ = some (.slice va L.length vc) ∧ w5.cell? ⟨hb, 2, none⟩ = some (.int .i64 t) ∧ w5.cell? ⟨w.heap.size, 0, none⟩ = some (.int .i64 k) ∧ w5.cell? ⟨w.heap.size, 1, none⟩ = some (.int .i64 m) := ⟨cellB hlay5 rfl, cellB hlay5 rfl, cellB (hFV ThT (by decide) (by decide) _ _ HXB.out) rfl, cellB (hFV ThT (by decide) (by decide) _ _ HXB.out) rfl⟩
  have hF5 : Far w w5 := (Far.below HV.out).trans hFV
  refine hK _ _ ⟨fun _ => hS5, ?_⟩
  clear hK K
  obtain ⟨g, cap, rfl, hBg, hcm, hlaid⟩ := laid_of_own hO5 (by simp)
  have hn5 : (L ++ [(⟨k, m, t⟩ : Hp)]).length = L.length + 1 := by simp
  rw [hn5]
  have HB5 := Lib.hid hB5
  have HF5 := Lib.hid hF5
  have HY5 := Lib.hid hlay5
  have HD5 := Lib.hid hlaid
  have HBG := Lib.hid hBg
  have HCM := Lib.hid hcm
  have fr := frozenB (j := 1) hlay5
  have c1 := hS5.1
  clear hB5 hF5 hlay5 hlaid hBg hcm hO5 hown' hg' hne5 hFV hr1 hl1 b1 hBV HXB HSS
  refine lext_do (i := 13) (b := false) rfl (by kernel_rfl) (by kernel_rfl) (by rfl) (fun K hK => ?_)
  go_simp
  refine hK _ _ ⟨fun _ => hS5, ?_⟩
  clear hK K
  refine lext_do (i := 14) (b := false) rfl (by kernel_rfl) (by kernel_rfl) (by rfl) (fun K hK => ?_)
  go_simp
  refine hK _ _ ⟨fun _ => hS5, ?_⟩
  clear hK K
  refine lext_do (i := 15) (b := true) rfl (by kernel_rfl) (by kernel_rfl) (by rfl) (fun K hK => ?_)
  go_simp
  have hl6 : (w5.setCell ⟨hb, 1, none⟩ (.slice (some ⟨g, 0, none⟩) (L.length + 1) cap)).heap[hb]? = some (Obj.cells #[.func (.func fl) #[] #[], .slice (some ⟨g, 0, none⟩) (L.length + 1) cap, .int .i64 t] HeT) := setCellB HY5.out
  have hge : g ≠ hb := by
    rintro rfl
    obtain ⟨cur, q, _⟩ := HD5.out
    rw [HY5.out] at q
    simp only [Option.some.injEq, Obj.cells.injEq] at q
    exact absurd q.2.1 (by decide)
  have hG6 : ∀ b, b ≠ hb → (w5.setCell ⟨hb, 1, none⟩ (.slice (some ⟨g, 0, none⟩) (L.length + 1) cap)).heap[b]? = w5.heap[b]? := fun b e => Below.heap_setCell _ _ _ _ e
  have hB6 : Below B w5 (w5.setCell ⟨hb, 1, none⟩ (.slice (some ⟨g, 0, none⟩) (L.length + 1) cap)) := (Below.refl _ _).setCell (p := ⟨hb, 1, none⟩) H.out.gb _
  generalize (w5.setCell ⟨hb, 1, none⟩ (.slice (some ⟨g, 0, none⟩) (L.length + 1) cap)) = W6 at *
  refine hK _ _ ⟨fun e => absurd rfl e, ?_⟩
  clear hK K hS5 c1 fr
  refine lext_done (by kernel_rfl) ?_
  have HY6 := Lib.hid hl6
  have HGE := Lib.hid hge
  have HG6 := Lib.hid hG6
  have HB6 := Lib.hid hB6
  have d2 := cellB (j := 2) hl6 rfl
  have d1 := cellB (j := 1) hl6 rfl
  have g2 := frozenB (j := 2) hl6
  clear hl6 hge hG6 hB6
  go_wp2_with fail
  rw [hw2]
  have HL7 : Hid ((W6.setCell ⟨hb, 2, none⟩ (.int .i64 (t + 1))).heap[hb]? = some (Obj.cells #[.func (.func fl) #[] #[], .slice (some ⟨g, 0, none⟩) (L.length + 1) cap, .int .i64 (t + 1)] HeT)) := Lib.hid (setCellB HY6.out)
  have HG7 : Hid (∀ b, b ≠ hb → (W6.setCell ⟨hb, 2, none⟩ (.int .i64 (t + 1))).heap[b]? = W6.heap[b]?) := Lib.hid fun b e => Below.heap_setCell _ _ _ _ e
  have HB7 : Hid (Below B W6 (W6.setCell ⟨hb, 2, none⟩ (.int .i64 (t + 1)))) := Lib.hid ((Below.refl _ _).setCell (p := ⟨hb, 2, none⟩) H.out.gb _)
  have HD7 : Hid (Laid3 (W6.setCell ⟨hb, 2, none⟩ (.int .i64 (t + 1))) g cap (L ++ [(⟨k, m, t⟩ : Hp)])) := Lib.hid (HD5.out.heap ((HG7.out g HGE.out).trans (HG6.out g HGE.out)))
  generalize (W6.setCell ⟨hb, 2, none⟩ (.int .i64 (t + 1))) = W7 at *
  have hkk : KeysIn (L ++ [(⟨k, m, t⟩ : Hp)]) := fun x hx => by
    rcases List.mem_append.1 hx with h | h
    · exact HKS.out x h
    · obtain rfl : x = ⟨k, m, t⟩ := by simpa using h
      exact HK.out
  have hrr : RiseOk f (atH (L ++ [(⟨k, m, t⟩ : Hp)])) (L.length + 1) L.length := HeapOk.push HO.out (fun j hj => by unfold atH; simp only [List.getD_eq_getElem?_getD]; rw [List.getElem?_append_left hj])
  refine (rise_any HF.out HL7.out HD7.out (by simp) hkk (fun e => HGE.out e.symm) HBG.out (i0 := L.length) (by omega) (by have := HZ.out; omega) hrr).mono ?_
  rintro e w8 ⟨rfl, g8, L', p8, o8, l8⟩
  have P8 := Lib.hid p8
  have O8 := Lib.hid o8
  have L8 := Lib.hid l8
  have G8 := Lib.hid g8
  clear p8 o8 l8 g8 hkk hrr
  go_wp2_with fail
  go_returns
  have hl8 : L'.length = L.length + 1 := by rw [P8.out.length_eq]; simp
  have hgs : ∀ b cs T, T ≠ HeT → T ≠ PuT → w5.heap[b]? = some (Obj.cells cs T) → b ≠ hb ∧ b ≠ g := fun b cs T h1 h2 hb' => by
    refine ⟨?_, ?_⟩
    · rintro rfl
      rw [HY5.out] at hb'
      simp only [Option.some.injEq, Obj.cells.injEq] at hb'
      exact h1 hb'.2.1.symm
    · rintro rfl
      obtain ⟨cur, q, _⟩ := HD5.out
      rw [q] at hb'
      simp only [Option.some.injEq, Obj.cells.injEq] at hb'
      exact h2 hb'.2.1.symm
  refine ⟨rfl, .slice (some ⟨g, 0, none⟩) (L.length + 1) cap, L', ⟨?_, ?_, H.out.gb⟩, P8.out, O8.out, ((HB5.out.trans HB6.out).trans HB7.out).trans G8.out.below, HF5.out.trans fun T h1 h2 b cs hb' => ?_⟩
  · rw [G8.out.block hb (Array.getElem?_eq_some_iff.1 HL7.out).1 (fun e => HGE.out e.symm)]
    exact HL7.out
  · have := own_of_laid L8.out HBG.out HCM.out
    rw [hl8] at this ⊢
    exact this
  · obtain ⟨e1, e2⟩ := hgs b cs T h1 h2 hb'
    have e3 := (HG7.out b e1).trans (HG6.out b e1)
    rw [G8.out.block b (by have := HB6.out.size; have := HB7.out.size; have := (Array.getElem?_eq_some_iff.1 hb').1; omega) e2, e3]
    exact hb'
end Go.Proofs.Ytmbaedldikobcaa
