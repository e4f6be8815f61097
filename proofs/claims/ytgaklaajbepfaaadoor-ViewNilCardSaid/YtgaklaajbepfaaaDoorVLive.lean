/-
  The law's live.
-/
import Derived.Test.YtgaklaajbepfaaaDoorVAlike
import Derived.Test.YtgaklaajbepfaaaDoorVProm
namespace Go.Proofs.YtgaklaajbepfaaaDoor
open Go.RowKit Go.Maps Go.Shelf
set_option linter.unusedVariables false

def vn1 : Nd := ⟨2, 0, 0, 1, emptyS, 0, 0⟩
def vn2 : Nd := ⟨8, 0, 1, 0, emptyS, 1, 0⟩
def vn3 : Nd := ⟨9, 0, 1, 0, emptyS, 1, 0⟩
def lv1 : Pl := [(vn1, 1, 1)]
def lv2 : Pl := lv1 ++ [(vn2, 2, 2)]
def lv3 : Pl := lv2 ++ [(vn3, 2, 2)]
theorem lvm1 : mkP [] ⟨2, 0, 0, 1, emptyS, 0, 0⟩ = (1, 0, lv1) := by kernel_rfl
theorem lvm2 : mkP lv1 ⟨8, 0, 1, 0, emptyS, 1, 0⟩ = (2, 0, lv2) := by kernel_rfl
theorem lvm3 : mkP lv2 ⟨9, 0, 1, 0, emptyS, 1, 0⟩ = (3, 0, lv3) := by kernel_rfl
theorem lvn1 : numP lv3 vn1 = 1 := by kernel_rfl
theorem lvn2 : numP lv3 vn2 = 2 := by kernel_rfl
theorem lvn3 : numP lv3 vn3 = 3 := by kernel_rfl
theorem lvi1 : inP lv3 1 = true := by kernel_rfl
theorem lvi2 : inP lv3 2 = true := by kernel_rfl
theorem lvi3 : inP lv3 3 = true := by kernel_rfl
theorem lva1 : (atP lv3 1).1 = vn1 := by kernel_rfl
theorem lva2 : (atP lv3 2).1 = vn2 := by kernel_rfl
theorem lva3 : (atP lv3 3).1 = vn3 := by kernel_rfl
/-- In a pool a node has one number. -/
theorem node_is {q e p : Pl} (he : p = q ++ e) (h : Ok p) {u : Int} (hi : inP p u = true) {n : Nd} (hn : (atP p u).1 = n) (h0 : numP q n ≠ 0) : u = (numP q n : Int) := by
  obtain ⟨i, hi', hu, hat⟩ := atP_get hi
  have h1 := h.first i hi'
  obtain ⟨j, hj, h2, h3, _⟩ := numP_some h0
  have hj' : j < p.length := by rw [he]; simp; omega
  have h4 := h.first j hj'
  have h5 : (p[j]).1 = n := by
    have : p[j] = q[j] := by simp only [he]; exact List.getElem_append_left hj
    rw [this]; exact h3
  rw [hat] at hn
  rw [hn] at h1
  rw [h5] at h4
  omega
theorem lv_anew {f : Nd → Int} {e0 q p' : Pl} {T : Int} {m' : Int → Option Int} {t u : Int} {n : Nd} (hqe : q = lv3 ++ e0) (h : Anew f q T p' m') (ht : inP lv3 t = true) (hn : (atP lv3 t).1 = n) (ha : n.a = 1) (hb : n.b = 0) (hu : m' t = some u) (hf : f vn1 = 2) (h0 : numP lv3 (kdN (f n) n) ≠ 0) : u = (numP lv3 (kdN (f n) n) : Int) := by
  obtain ⟨e, he⟩ := h.ext
  have hpe : p' = lv3 ++ (e0 ++ e) := by rw [he, hqe, List.append_assoc]
  have hz : ∀ z, m' 0 = some z → z = 0 := fun z hz => Option.some.inj (hz.symm.trans h.zero)
  have hat : ∀ x, inP lv3 x = true → (atP q x).1 = (atP lv3 x).1 := fun x hx => by rw [hqe, atP_append hx]
  rcases h.at_ t u hu with ⟨e1, _⟩ | ⟨_, _, h3, ⟨x, y, h4, h5, h6⟩, _⟩
  · rw [e1, inP_zero] at ht; cases ht
  · rw [hat t ht, hn] at h4 h5 h6
    rw [ha] at h4
    rw [hb] at h5
    have hy := hz y h5
    rcases h.at_ 1 x h4 with ⟨e1, _⟩ | ⟨_, _, k3, ⟨x', y', k4, k5, k6⟩, _⟩
    · cases e1
    · rw [hat 1 lvi1, lva1] at k4 k5 k6
      have hx' := hz x' k4
      have hy' := hz y' k5
      have k7 : (atP p' x).1 = vn1 := by rw [k6, hx', hy', hf]; rfl
      have hx := node_is hpe h.ok k3 k7 (by rw [lvn1]; decide)
      rw [lvn1] at hx
      have h7 : (atP p' u).1 = kdN (f n) n := by
        rw [h6, hx, hy]
        cases n
        simp only at ha hb
        subst ha hb
        rfl
      exact node_is hpe h.ok h3 h7 h0
theorem lv_prom {q e0 : Pl} (hqe : q = lv3 ++ e0) (hq : Ok q) : (promL q 1 (subs q 2)).length = 1 := by
  have hat : ∀ x, inP lv3 x = true → (atP q x).1 = (atP lv3 x).1 := fun x hx => by rw [hqe, atP_append hx]
  have hi2 : inP q 2 = true := by rw [hqe]; exact inP_le lvi2 (by simp)
  have hnd : (promL q 1 (subs q 2)).Nodup := (over_nodup hq _ _ _ List.nodup_nil).filter _
  have hall : ∀ x ∈ promL q 1 (subs q 2), x = 2 := fun x hx => by
    obtain ⟨h1, h2⟩ := List.mem_filter.1 hx
    rcases over_new hq _ _ _ _ h1 with h | ⟨h3, h4⟩
    · cases h
    · have : 1 ≤ x := by unfold inP at h3; simp at h3; omega
      obtain rfl | rfl : x = 1 ∨ x = 2 := by omega
      · rw [hat 1 lvi1, lva1] at h2
        exact absurd h2 (by decide)
      · rfl
  have hmem : 2 ∈ promL q 1 (subs q 2) := List.mem_filter.2 ⟨subs_has hi2, by rw [hat 2 lvi2, lva2]; decide⟩
  generalize promL q 1 (subs q 2) = L at *
  match L, hnd, hall, hmem with
  | [], _, _, h => cases h
  | [x], _, _, _ => rfl
  | x :: y :: r, hnd, hall, _ =>
    have h1 := hall x (by simp)
    have h2 := hall y (by simp)
    rw [h1, h2] at hnd
    simp at hnd
theorem lv_alike {q e0 : Pl} (hqe : q = lv3 ++ e0) : AlikeP q 3 [2] [3] := by
  have hat : ∀ x, inP lv3 x = true → (atP q x).1 = (atP lv3 x).1 := fun x hx => by rw [hqe, atP_append hx]
  have hi : ∀ x, inP lv3 x = true → inP q x = true := fun x hx => by rw [hqe]; exact inP_le hx (by simp)
  refine ⟨by decide, fun x hx => ?_, fun x hx => ?_, rfl, fun a b => (a = 0 ∧ b = 0) ∨ (a = 1 ∧ b = 1) ∨ (a = 2 ∧ b = 3), ⟨?_, ?_, .inl ⟨rfl, rfl⟩, ?_⟩, ?_⟩
  · rw [List.mem_singleton.1 hx]; exact hi 2 lvi2
  · rw [List.mem_singleton.1 hx]; exact hi 3 lvi3
  · intro a b b' h1 h2; omega
  · intro a a' b h1 h2; omega
  · rintro a b (⟨rfl, rfl⟩ | ⟨rfl, rfl⟩ | ⟨rfl, rfl⟩)
    · exact .inl ⟨rfl, rfl⟩
    · rw [hat 1 lvi1, lva1]
      exact .inr ⟨hi 1 lvi1, hi 1 lvi1, by decide, .inl ⟨rfl, rfl⟩, .inl ⟨rfl, rfl⟩⟩
    · rw [hat 2 lvi2, lva2, hat 3 lvi3, lva3]
      exact .inr ⟨hi 2 lvi2, hi 3 lvi3, by decide, .inr (.inl ⟨rfl, rfl⟩), .inl ⟨rfl, rfl⟩⟩
  · intro i h1 h2
    obtain rfl : i = 0 := by simp at h1; omega
    exact .inr (.inr ⟨rfl, rfl⟩)
theorem lv_unlike {q e0 : Pl} (hqe : q = lv3 ++ e0) : ¬ AlikeP q 1 [2] [3] := by
  have hat : ∀ x, inP lv3 x = true → (atP q x).1 = (atP lv3 x).1 := fun x hx => by rw [hqe, atP_append hx]
  rintro ⟨_, _, _, _, R, hR, hp⟩
  have h23 := hp 0 (by simp) (by simp)
  simp only [List.getElem_cons_zero] at h23
  rcases hR.step 2 3 h23 with ⟨h, _⟩ | ⟨_, _, h, _⟩
  · cases h
  · rw [hat 2 lvi2, lva2, hat 3 lvi3, lva3] at h
    exact absurd h (by decide)
theorem rows2 (W : World) (x y : Int) : Row ((W.alloc (.cells #[.int .i64 x] TermT)).alloc (.cells #[.int .i64 y] TermT)) 1 (.slice (some ⟨W.heap.size, 0, none⟩) 1 1) [x].length (ints [x]) ∧ Row ((W.alloc (.cells #[.int .i64 x] TermT)).alloc (.cells #[.int .i64 y] TermT)) 1 (.slice (some ⟨W.heap.size + 1, 0, none⟩) 1 1) [y].length (ints [y]) ∧ Below W.heap.size W ((W.alloc (.cells #[.int .i64 x] TermT)).alloc (.cells #[.int .i64 y] TermT)) := by
  have s1 : (W.alloc (.cells #[.int .i64 x] TermT)).heap.size = W.heap.size + 1 := by simp [World.size_alloc]
  refine ⟨(row_alloc1 W x).below (bA0 _ _), ?_, bmore (bA0 _ _) (bA0 _ _)⟩
  have := row_alloc1 (W.alloc (.cells #[.int .i64 x] TermT)) y
  rwa [s1] at this
end Go.Proofs.YtgaklaajbepfaaaDoor
