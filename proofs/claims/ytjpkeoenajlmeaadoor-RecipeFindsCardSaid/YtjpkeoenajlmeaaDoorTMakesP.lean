/-
  The two pools beside each other.
-/
import Derived.Test.YtjpkeoenajlmeaaDoorTAlike
import Derived.Test.YtjpkeoenajlmeaaDoorTRefMake
namespace Go.Proofs.YtjpkeoenajlmeaaDoor
open Go.RowKit Go.Maps
set_option linter.unusedVariables false

section
variable {w : World} {B a b : Nat} {v : Value} {p : Pl} {a2 : Nat} {vl vs vd : Value} {q : Pl}
/-- What a Make of the program leaves, of the blocks of another type. -/
theorem Grew.hold (h : IsPool w B a b v p) {p' : Pl} {w' : World} (hg : Grew w B a b v p' w') {T : TypeId} (h1 : T ≠ PoolT) (h2 : T ≠ MadeT) : Hold T w w' := fun k cs hk => by
  obtain ⟨D, hown, _⟩ := h.dict
  obtain ⟨es, clock, hb, _⟩ := hown
  have hk0 := (Array.getElem?_eq_some_iff.1 hk).1
  rw [hg.2.1 k hk0 ?_ ?_ ?_]
  · exact hk
  · rintro rfl
    have h0 := h.lay
    rw [h0] at hk
    simp only [Option.some.injEq, Obj.cells.injEq] at hk
    exact h1 hk.2.1.symm
  · rintro rfl
    rw [hb] at hk
    simp at hk
  · intro e
    obtain ⟨_, cur, hc⟩ := own_type h.row e
    rw [hk] at hc
    simp only [Option.some.injEq, Obj.cells.injEq] at hc
    exact h2 hc.2.1
theorem IsRef.hold {w' : World} (h : IsRef w B a vl vs vd p) (h1 : Hold RPoolT w w') (h2 : Hold NodeT w w') (h3 : Hold IntT w w') : IsRef w' B a vl vs vd p :=
  ⟨h1 _ _ h.lay, h.ga, own_hold h.rl h2, own_hold h.rs h3, own_hold h.rd h3, h.ap, h.ok, h.nok⟩
theorem IsRef.grew (h : IsPool w B a b v p) (hr : IsRef w B a2 vl vs vd q) {p' : Pl} {w' : World} (hg : Grew w B a b v p' w') : IsRef w' B a2 vl vs vd q :=
  hr.hold (hg.hold h (by decide) (by decide)) (hg.hold h (by decide) (by decide)) (hg.hold h (by decide) (by decide))

/-- What a Make of the document's leaves. -/
theorem RGrew.keep (hr : IsRef w B a2 vl vs vd q) {q' : Pl} {w' : World} (hg : RGrew w B a2 vl vs vd q' w') {k : Nat} {o : Obj} (hk : w.heap[k]? = some o) (ho : ∀ cs T fr, o = Obj.cells cs T fr → T ≠ RPoolT ∧ T ≠ NodeT ∧ T ≠ IntT) : w'.heap[k]? = some o := by
  have hk0 := (Array.getElem?_eq_some_iff.1 hk).1
  rw [hg.2.1 k hk0 ?_ ?_ ?_ ?_]
  · exact hk
  · rintro rfl
    have h0 := hr.lay
    rw [hk] at h0
    exact (ho _ _ _ (Option.some.inj h0)).1 rfl
  · intro e
    obtain ⟨_, cur, hc⟩ := own_type hr.rl e
    rw [hk] at hc
    exact (ho _ _ _ (Option.some.inj hc)).2.1 rfl
  · intro e
    obtain ⟨_, cur, hc⟩ := own_type hr.rs e
    rw [hk] at hc
    exact (ho _ _ _ (Option.some.inj hc)).2.2 rfl
  · intro e
    obtain ⟨_, cur, hc⟩ := own_type hr.rd e
    rw [hk] at hc
    exact (ho _ _ _ (Option.some.inj hc)).2.2 rfl
theorem RGrew.hold (hr : IsRef w B a2 vl vs vd q) {q' : Pl} {w' : World} (hg : RGrew w B a2 vl vs vd q' w') {T : TypeId} (h1 : T ≠ RPoolT) (h2 : T ≠ NodeT) (h3 : T ≠ IntT) : Hold T w w' := fun k cs hk =>
  hg.keep hr hk (fun _ _ _ e => by
    simp only [Obj.cells.injEq] at e
    obtain ⟨_, rfl, _⟩ := e
    exact ⟨h1, h2, h3⟩)
theorem IsPool.rgrew (h : IsPool w B a b v p) (hr : IsRef w B a2 vl vs vd q) {q' : Pl} {w' : World} (hg : RGrew w B a2 vl vs vd q' w') : IsPool w' B a b v p := by
  obtain ⟨D, h1, h2⟩ := h.dict
  obtain ⟨es, clock, hb, h3⟩ := h1
  exact ⟨hg.hold hr (by decide) (by decide) (by decide) _ _ h.lay, h.ga, h.gb, own_hold h.row (hg.hold hr (by decide) (by decide) (by decide)), ⟨D, ⟨es, clock, hg.keep hr hb (fun _ _ _ e => by cases e), h3⟩, h2⟩, h.ok, h.nok⟩

theorem rhas (h : IsRef w B a vl vs vd p) {n : Nd} (hn : NdOk n) : Calls Tryd.prog 68 #[.pointer (some ⟨a, 0, none⟩), .agg (nodeA n)] w fun e w' => e = .returned (.tuple #[.int .i64 (numP p n : Int), .bool (decide (numP p n ≠ 0))]) ∧ Below w.heap.size w w' := by
  by_cases h0 : numP p n = 0
  · rw [h0]
    exact rhas_no h hn h0
  · rw [decide_eq_true h0]
    exact rhas_yes h hn h0
end
end Go.Proofs.YtjpkeoenajlmeaaDoor
