/-
  The program's Compare of facts.
  The order of trees, plain; the tree of a term of a pool.
  The order of facts, plain; sorted lists of facts, each once.
-/
import Derived.Deep.DeepCutAuto
import Derived.Shelf.SlSortCmp.Insertion
import Derived.Sort.Statements
import Derived.Test.YtjmcaceegfdkkaaGreatDoorQaTKey
import Derived.Test.YtjmcaceegfdkkaaGreatDoorQaTCmp
import Derived.Test.YtjmcaceegfdkkaaGreatDoorQaFOf
import Derived.Test.YtjmcaceegfdkkaaGreatDoorQaTTree
import Derived.Test.YtjmcaceegfdkkaaGreatDoorQaTPTree
namespace Go.Proofs.YtjmcaceegfdkkaaGreatDoor
open Go.RowKit Go.Maps
set_option linter.unusedVariables false
def cmpF (x y : Fc) : Int := orI [cmpOf x.c y.c, cmpOf x.kind y.kind, cmpOf x.who y.who, cmpOf x.text y.text]
theorem row4 (W : World) (a b c d : Int) : Row (W.alloc (.cells #[.int .i64 a, .int .i64 b, .int .i64 c, .int .i64 d] 3)) 1 (.slice (some ⟨W.heap.size, 0, none⟩) 4 4) 4 (ints [a, b, c, d]) :=
  ⟨rfl, .inr ⟨W.heap.size, 0, 4, rfl, by simp, Nat.le_refl _, by unfold maxLen; omega, fun j u hj => by
    rw [Nat.zero_add]
    refine cellB (heap_alloc_new _ _) ?_
    rw [← hj]; simp [ints]⟩⟩
theorem row4d (W : World) (a b c d : Int) : Row (W.alloc (.cells #[.int .i64 a, .int .i64 b, .int .i64 c, .int .i64 d] 3)).drew 1 (.slice (some ⟨W.heap.size, 0, none⟩) 4 4) 4 (ints [a, b, c, d]) := (row4 W a b c d).below (bd _)
/-- What Compare leaves: three blocks, one draw. -/
def CmpW (x y : Fc) (w w' : World) : Prop := ∃ o, w' = (((w.alloc (.cells (fcA x) FacT)).alloc (.cells (fcA y) FacT)).alloc o).drew
set_option maxRecDepth 100000 in
set_option maxHeartbeats 12800000 in
theorem cmpF_any (x y : Fc) (w : World) : Calls Tryz.prog 27 #[.agg (fcA x), .agg (fcA y)] w fun e w' => e = .returned (.int .i64 (cmpF x y)) ∧ CmpW x y w w' := by
  obtain ⟨k1, w1, c1, s1⟩ := x
  obtain ⟨k2, w2, c2, s2⟩ := y
  unfold CmpW
  have C1 := Lib.hid (fun W : World => cmpU_any c1 c2 W)
  have C2 := Lib.hid (fun W : World => cmpI_any k1 k2 W)
  have C3 := Lib.hid (fun W : World => cmpI_any w1 w2 W)
  have C4 := Lib.hid (fun W : World => cmpS_any s1 s2 W)
  obtain ⟨rr, hrr⟩ : ∃ rr, rr = cmpF ⟨k1, w1, c1, s1⟩ ⟨k2, w2, c2, s2⟩ := ⟨_, rfl⟩
  rw [← hrr]
  have HOW : Hid (orI [cmpOf c1 c2, cmpOf k1 k2, cmpOf w1 w2, cmpOf s1 s2] = rr) := Lib.hid hrr.symm
  clear hrr
  generalize cmpOf c1 c2 = o1 at *
  generalize cmpOf k1 k2 = o2 at *
  generalize cmpOf w1 w2 = o3 at *
  generalize cmpOf s1 s2 = o4 at *
  simp only [fcA] at *
  have h0 := heap_alloc_new w (.cells #[.int .i64 k1, .int .i64 w1, .int .u64 c1, .string s1] FacT)
  have b1 := bZ (w.alloc (.cells #[.int .i64 k1, .int .i64 w1, .int .u64 c1, .string s1] FacT)) (.cells #[.int .i64 k2, .int .i64 w2, .int .u64 c2, .string s2] FacT)
  have hY := heap_alloc_new (w.alloc (.cells #[.int .i64 k1, .int .i64 w1, .int .u64 c1, .string s1] FacT)) (.cells #[.int .i64 k2, .int .i64 w2, .int .u64 c2, .string s2] FacT)
  have hX := Hold.below b1 _ _ h0
  rw [show (w.alloc (.cells #[.int .i64 k1, .int .i64 w1, .int .u64 c1, .string s1] FacT)).heap.size = w.heap.size + 1 from by simp] at hY
  clear h0 b1
  go_enter Tryz.func27, Tryz.ntmps27
  go_upto_region 1 with fail
  obtain ⟨W, hW⟩ : ∃ W, W = ((w.alloc (.cells #[.int .i64 k1, .int .i64 w1, .int .u64 c1, .string s1] FacT)).alloc (.cells #[.int .i64 k2, .int .i64 w2, .int .u64 c2, .string s2] FacT)) := ⟨_, rfl⟩
  have HWW := Lib.hid hW
  rw [← hW] at hX hY ⊢
  clear hW
  generalize w.heap.size + 1 = m1 at *
  generalize w.heap.size = m0 at *
  have x0 := cellB (j := 0) hX rfl
  have y0 := cellB (j := 0) hY rfl
  have x1 := cellB (j := 1) hX rfl
  have y1 := cellB (j := 1) hY rfl
  have x2 := cellB (j := 2) hX rfl
  have y2 := cellB (j := 2) hY rfl
  have x3 := cellB (j := 3) hX rfl
  have y3 := cellB (j := 3) hY rfl
  have HK := Lib.hid (fun (V : World) (hb : Below W.heap.size W V) => (show V.cell? ⟨m0, 0, none⟩ = some (.int .i64 k1) ∧ V.cell? ⟨m0, 1, none⟩ = some (.int .i64 w1) ∧ V.cell? ⟨m0, 2, none⟩ = some (.int .u64 c1) ∧ V.cell? ⟨m0, 3, none⟩ = some (.string s1) ∧ V.cell? ⟨m1, 0, none⟩ = some (.int .i64 k2) ∧ V.cell? ⟨m1, 1, none⟩ = some (.int .i64 w2) ∧ V.cell? ⟨m1, 2, none⟩ = some (.int .u64 c2) ∧ V.cell? ⟨m1, 3, none⟩ = some (.string s2) from ⟨bcellAt hb x0, bcellAt hb x1, bcellAt hb x2, bcellAt hb x3, bcellAt hb y0, bcellAt hb y1, bcellAt hb y2, bcellAt hb y3⟩))
  clear hX hY
  go_region_held3 (fun V => V.cell? ⟨m0, 0, none⟩ = some (.int .i64 k1) ∧ V.cell? ⟨m0, 1, none⟩ = some (.int .i64 w1) ∧ V.cell? ⟨m0, 2, none⟩ = some (.int .u64 c1) ∧ V.cell? ⟨m0, 3, none⟩ = some (.string s1) ∧ V.cell? ⟨m1, 0, none⟩ = some (.int .i64 k2) ∧ V.cell? ⟨m1, 1, none⟩ = some (.int .i64 w2) ∧ V.cell? ⟨m1, 2, none⟩ = some (.int .u64 c2) ∧ V.cell? ⟨m1, 3, none⟩ = some (.string s2)) ((refine HK.out _ ?_; first | exact bd _ | exact (bAl (Below.refl _ _) _) | exact (bAl (Below.refl _ _) _).drew | exact (bd _).trans (bAl (Below.refl _ _) _)))
    ((first
      | ((with_reducible refine (C1.out _).mono ?_); rintro e w' ⟨rfl, rfl⟩)
      | ((with_reducible refine (C2.out _).mono ?_); rintro e w' ⟨rfl, rfl⟩)
      | ((with_reducible refine (C3.out _).mono ?_); rintro e w' ⟨rfl, rfl⟩)
      | ((with_reducible refine (C4.out _).mono ?_); rintro e w' ⟨rfl, rfl⟩)
      | ((with_reducible refine (or_any (l := [o1, o2, o3, o4]) (row4d _ _ _ _ _) (by simp)).mono ?_); rintro e w' ⟨rfl, rfl⟩; rw [HOW.out])
      | ((with_reducible refine (or_any (l := [o1, o2, o3, o4]) (row4 _ _ _ _ _) (by simp)).mono ?_); rintro e w' ⟨rfl, rfl⟩; rw [HOW.out])))
  clear x0 x1 x2 x3 y0 y1 y2 y3 HK
  obtain ⟨V, hV⟩ : ∃ V, V = (W.alloc (.cells #[.int .i64 o1, .int .i64 o2, .int .i64 o3, .int .i64 o4] 3)).drew := ⟨_, rfl⟩
  have HV := Lib.hid hV
  rw [← hV]
  clear hV
  go_wp2_with fail
  go_returns
  exact ⟨rfl, _, by rw [HV.out, HWW.out]⟩
end Go.Proofs.YtjmcaceegfdkkaaGreatDoor
namespace Go.Proofs.YtjmcaceegfdkkaaGreatDoor
set_option linter.unusedVariables false
structure Cmp {α : Type} (c : α → α → Int) : Prop where
  anti : ∀ a b, c b a = - c a b
  eq : ∀ a b, c a b = 0 → a = b
  tr : ∀ a b d, c a b ≤ 0 → c b d ≤ 0 → c a d ≤ 0
  rng : ∀ a b, -1 ≤ c a b ∧ c a b ≤ 1
theorem Cmp.refl {α : Type} {c : α → α → Int} (h : Cmp c) (a : α) : c a a = 0 := by have := h.anti a a; omega
theorem cmpOf_cmp {K : Type} [o : KOrd K] : Cmp (cmpOf (K := K)) where
  anti a b := by
    unfold cmpOf
    cases h1 : o.lt a b with
    | true => have h2 := KOrd.asym h1; simp [h2]
    | false => cases h2 : o.lt b a <;> simp
  eq a b h := by
    unfold cmpOf at h
    cases h1 : o.lt a b with
    | true => rw [h1] at h; simp at h
    | false =>
      rw [h1] at h
      cases h2 : o.lt b a with
      | true => rw [h2] at h; simp at h
      | false => exact o.tri h1 h2
  tr a b d h1 h2 := by
    have key : ∀ x y : K, cmpOf x y ≤ 0 ↔ o.lt y x = false := fun x y => by
      unfold cmpOf
      cases h1 : o.lt x y with
      | true => have h2 := KOrd.asym h1; simp [h2]
      | false => cases h2 : o.lt y x <;> simp
    rw [key] at h1 h2 ⊢
    cases h3 : o.lt d a with
    | false => rfl
    | true =>
      cases h4 : o.lt a b with
      | true => have := o.tr h3 h4; rw [h2] at this; cases this
      | false =>
        have e := o.tri h4 h1
        subst e
        rw [h3] at h2; cases h2
  rng a b := by unfold cmpOf; split <;> (try split) <;> omega
def lexC {α β : Type} (c : α → α → Int) (d : β → β → Int) (x y : α × β) : Int := if c x.1 y.1 = 0 then d x.2 y.2 else c x.1 y.1
theorem Cmp.lex {α β : Type} {c : α → α → Int} {d : β → β → Int} (hc : Cmp c) (hd : Cmp d) : Cmp (lexC c d) where
  anti x y := by
    unfold lexC
    have h1 := hc.anti x.1 y.1
    have h2 := hd.anti x.2 y.2
    split <;> split <;> omega
  eq x y h := by
    unfold lexC at h
    split at h
    · rename_i h1
      exact Prod.ext (hc.eq _ _ h1) (hd.eq _ _ h)
    · rename_i h1; exact absurd h h1
  tr x y z h1 h2 := by
    unfold lexC at *
    have a1 : c x.1 y.1 ≤ 0 := by split at h1 <;> omega
    have a2 : c y.1 z.1 ≤ 0 := by split at h2 <;> omega
    have a3 := hc.tr _ _ _ a1 a2
    split
    · rename_i h0
      have e := hc.eq _ _ h0
      rw [← e] at a2 h2
      have a4 := hc.anti x.1 y.1
      have a5 : c x.1 y.1 = 0 := by omega
      have a6 : c y.1 x.1 = 0 := by omega
      rw [if_pos a5] at h1
      rw [if_pos a6] at h2
      exact hd.tr _ _ _ h1 h2
    · omega
  rng x y := by
    unfold lexC
    have h1 := hc.rng x.1 y.1
    have h2 := hd.rng x.2 y.2
    split <;> omega
end Go.Proofs.YtjmcaceegfdkkaaGreatDoor
namespace Go.Proofs.YtjmcaceegfdkkaaGreatDoor
open Go.Sort
set_option linter.unusedVariables false
def keyF (x : Fc) : Int × Int × Int × ByteArray := (x.c, x.kind, x.who, x.text)
def cmpQ : (Int × Int × Int × ByteArray) → (Int × Int × Int × ByteArray) → Int := lexC cmpOf (lexC cmpOf (lexC cmpOf cmpOf))
theorem cmpQ_cmp : Cmp cmpQ := cmpOf_cmp.lex (cmpOf_cmp.lex (cmpOf_cmp.lex cmpOf_cmp))
theorem cmpF_key (x y : Fc) : cmpF x y = cmpQ (keyF x) (keyF y) := by
  unfold cmpF cmpQ keyF
  simp only [orI, lexC]
  split
  · split
    · split
      · split <;> omega
      · rfl
    · rfl
  · rfl
theorem cmpF_cmp : Cmp cmpF where
  anti a b := by rw [cmpF_key, cmpF_key]; exact cmpQ_cmp.anti _ _
  eq a b h := by
    rw [cmpF_key] at h
    have := cmpQ_cmp.eq _ _ h
    simp only [keyF, Prod.mk.injEq] at this
    exact Fc.eq_of this.2.1 this.2.2.1 this.1 this.2.2.2
  tr a b d h1 h2 := by rw [cmpF_key] at *; exact cmpQ_cmp.tr _ _ _ h1 h2
  rng a b := by rw [cmpF_key]; exact cmpQ_cmp.rng _ _
theorem Cmp.swo {α : Type} {c : α → α → Int} (h : Cmp c) : SWO (ltOf c) where
  irrefl x := by unfold ltOf; rw [h.refl]; rfl
  trans x y z h1 h2 := by
    unfold ltOf at *
    simp only [decide_eq_true_eq] at *
    have a1 := h.tr x y z (by omega) (by omega)
    by_cases h0 : c x z = 0
    · have := h.eq _ _ h0
      subst this
      have := h.anti x y
      omega
    · omega
  ntrans x y z h1 h2 := by
    unfold ltOf at *
    simp only [decide_eq_false_iff_not] at *
    have a1 := h.anti x y
    have a2 := h.anti y z
    have a3 := h.tr z y x (by omega) (by omega)
    have a4 := h.anti x z
    omega
theorem Cmp.one {α : Type} {c : α → α → Int} (h : Cmp c) (x y : α) (h1 : ltOf c x y = false) (h2 : ltOf c y x = false) : x = y := by
  unfold ltOf at *
  simp only [decide_eq_false_iff_not] at *
  have a1 := h.anti x y
  exact h.eq x y (by omega)
/-- Less or alike. -/
def leF (x y : Fc) : Bool := !(ltOf cmpF) y x
theorem leF_iff {x y : Fc} : leF x y = true ↔ cmpF x y ≤ 0 := by
  unfold leF ltOf
  have := cmpF_cmp.anti x y
  simp only [Bool.not_eq_true', decide_eq_false_iff_not]
  omega
def srtF (l : List Fc) : List Fc := l.mergeSort leF
theorem srtF_mem {l : List Fc} {x : Fc} : x ∈ srtF l ↔ x ∈ l := List.mem_mergeSort
theorem srtF_len (l : List Fc) : (srtF l).length = l.length := List.length_mergeSort _
theorem srtF_pair (l : List Fc) : (srtF l).Pairwise fun x y => cmpF x y ≤ 0 := by
  have h := List.pairwise_mergeSort (le := leF) (fun a b c h1 h2 => leF_iff.2 (cmpF_cmp.tr _ _ _ (leF_iff.1 h1) (leF_iff.1 h2))) (fun a b => by
    have := cmpF_cmp.anti a b
    by_cases h : cmpF a b ≤ 0
    · rw [leF_iff.2 h]; rfl
    · rw [leF_iff.2 (show cmpF b a ≤ 0 by omega)]; simp) l
  exact h.imp fun h => leF_iff.1 h
/-- Each once, of those that stand side by side. -/
def cptF : List Fc → List Fc
  | [] => []
  | [x] => [x]
  | x :: y :: r => if x = y then cptF (y :: r) else x :: cptF (y :: r)
theorem cptF_mem {x : Fc} : ∀ {l : List Fc}, x ∈ cptF l ↔ x ∈ l
  | [] => Iff.rfl
  | [y] => Iff.rfl
  | y :: z :: r => by
    have ih := cptF_mem (x := x) (l := z :: r)
    unfold cptF
    split
    · rename_i e
      subst e
      rw [ih]
      simp
    · rw [List.mem_cons, ih]; simp
theorem cptF_pair : ∀ {l : List Fc}, l.Pairwise (fun x y => cmpF x y ≤ 0) → (cptF l).Pairwise fun x y => cmpF x y < 0
  | [], _ => .nil
  | [x], _ => by simp [cptF]
  | x :: y :: r, h => by
    have h1 := List.pairwise_cons.1 h
    have ih := cptF_pair h1.2
    unfold cptF
    split
    · exact ih
    · rename_i hne
      refine List.pairwise_cons.2 ⟨fun z hz => ?_, ih⟩
      have hz' := cptF_mem.1 hz
      have hle := h1.1 z hz'
      by_cases h0 : cmpF x z = 0
      · have e := cmpF_cmp.eq _ _ h0
        subst e
        have hyx : cmpF y x ≤ 0 := by
          rcases List.mem_cons.1 hz' with e | hm
          · exact absurd e hne
          · exact (List.pairwise_cons.1 h1.2).1 x hm
        have hxy := h1.1 y (by simp)
        have := cmpF_cmp.anti x y
        exact absurd (cmpF_cmp.eq x y (by omega)) hne
      · omega
/-- The facts of a list, in order, each once. -/
def allF (l : List Fc) : List Fc := cptF (srtF l)
theorem allF_mem {l : List Fc} {x : Fc} : x ∈ allF l ↔ x ∈ l := cptF_mem.trans srtF_mem
theorem allF_pair (l : List Fc) : (allF l).Pairwise fun x y => cmpF x y < 0 := cptF_pair (srtF_pair l)
/-- Two rising lists of one set are one. -/
theorem rise_one : ∀ {a b : List Fc}, a.Pairwise (fun x y => cmpF x y < 0) → b.Pairwise (fun x y => cmpF x y < 0) → (∀ x, x ∈ a ↔ x ∈ b) → a = b
  | [], [], _, _, _ => rfl
  | [], y :: b, _, _, h => absurd ((h y).2 (by simp)) (by simp)
  | x :: a, [], _, _, h => absurd ((h x).1 (by simp)) (by simp)
  | x :: a, y :: b, ha, hb, h => by
    obtain ⟨ha1, ha2⟩ := List.pairwise_cons.1 ha
    obtain ⟨hb1, hb2⟩ := List.pairwise_cons.1 hb
    have hxy : x = y := by
      rcases List.mem_cons.1 ((h x).1 (by simp)) with e | hm
      · exact e
      rcases List.mem_cons.1 ((h y).2 (by simp)) with e | hm2
      · exact e.symm
      have p1 := hb1 x hm
      have p2 := ha1 y hm2
      have := cmpF_cmp.anti x y
      omega
    subst hxy
    have hn : ∀ z, cmpF x z < 0 → z ≠ x := fun z hz e => by rw [e, cmpF_cmp.refl] at hz; omega
    rw [rise_one ha2 hb2 fun z => ?_]
    constructor
    · intro hz
      exact ((List.mem_cons.1 ((h z).1 (List.mem_cons_of_mem _ hz))).resolve_left (hn z (ha1 z hz)))
    · intro hz
      exact ((List.mem_cons.1 ((h z).2 (List.mem_cons_of_mem _ hz))).resolve_left (hn z (hb1 z hz)))
end Go.Proofs.YtjmcaceegfdkkaaGreatDoor
