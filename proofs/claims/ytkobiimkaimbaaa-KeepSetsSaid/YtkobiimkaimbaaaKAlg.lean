/-
  What two trees in memory (int,struct{}) both have; what one has and the other has not.
-/
import Derived.Test.YtkobiimkaimbaaaKSplU
namespace Go.Proofs.Ytkobiimkaimbaaa
open Go.RowKit
set_option linter.unusedVariables false

set_option maxRecDepth 100000 in
set_option maxHeartbeats 3200000 in
theorem commonU : ∀ (x y : Tr Int Unit) (w : World) (vx vy : Value) (hx : IsTU w vx x) (hy : IsTU w vy y) (hs : x.size + y.size < 500000),
    Calls Try.prog 97 #[vx, vy] w (MadeU (Tr.common x y) w) := by
  intro x
  induction x with
  | nil =>
    intro y w vx vy hx hy hs
    obtain rfl := hx
    obtain ⟨vy, rfl⟩ := hy.shape
    rw [Tr.common]
    go_enter Try.func97, Try.ntmps97
    go_wp2_with fail
    go_ret
    exact ⟨_, rfl, rfl, Below.refl _ _⟩
  | node nl nk nx nr ihl ihr =>
    intro y w vx vy hx hy hs
    have H0 := Lib.hid hx
    obtain ⟨b, vl, vr, rfl, hb, hll, hrr⟩ := hx
    obtain ⟨vl, rfl⟩ := hll.shape
    obtain ⟨vr, rfl⟩ := hrr.shape
    have HL := Lib.hid hll
    have HR := Lib.hid hrr
    have IL := Lib.hid ihl
    have IR := Lib.hid ihr
    obtain ⟨c0, cl, cr, cs, ch⟩ := nodeCU (x := nx) hb
    clear hb hll hrr ihl ihr cs ch
    cases y with
    | nil =>
      obtain rfl := hy
      rw [Tr.common]
      go_enter Try.func97, Try.ntmps97
      go_wp2_with fail
      go_ret
      exact ⟨_, rfl, rfl, Below.refl _ _⟩
    | node bl bk bv br =>
    have HB := Lib.hid hy
    obtain ⟨by0, _, _, hvy, _⟩ := hy
    subst hvy
    have ZS := Lib.hid (Tr.size_split (.node bl bk bv br) nk)
    have Z2 := Lib.hid (Tr.size_common nl (Tr.splitB (.node bl bk bv br) nk))
    have Z3 := Lib.hid (Tr.size_common nr (Tr.splitA (.node bl bk bv br) nk))
    cases hf : Tr.find (.node bl bk bv br) nk with
    | nil =>
      rw [Tr.common, hf]
      simp only
      have HF := Lib.hid hf
      clear hf
      go_enter Try.func97, Try.ntmps97
      go_wp2_with fail
      refine (splitU nk (.node bl bk bv br) _ _ HB.out (by omega)).mono ?_
      rintro e w1 ⟨pb, po, pa, rfl, tb, to, ta, u1⟩
      have c01 := bcellAt u1 c0
      have cl1 := bcellAt u1 cl
      have cr1 := bcellAt u1 cr
      have TB := Lib.hid tb
      have TO := Lib.hid to
      have TA := Lib.hid ta
      have HU := Lib.hid u1
      clear tb to ta u1 c0 cl cr
      go_wp2_with fail
      have hk : ∀ w' : World, Below w1.heap.size w1 w' → w'.cell? ⟨b, 1, none⟩ = some (.pointer vl) ∧ w'.cell? ⟨b, 2, none⟩ = some (.pointer vr) ∧ Below w1.heap.size w1 w' := fun w' hb => ⟨bcellAt hb cl1, bcellAt hb cr1, hb⟩
      have HK := Lib.hid hk
      clear hk
      go_region_held3 (fun w' => w'.cell? ⟨b, 1, none⟩ = some (.pointer vl) ∧ w'.cell? ⟨b, 2, none⟩ = some (.pointer vr) ∧ Below w1.heap.size w1 w') ((refine HK.out _ ?_; first | exact bdd _ _ | exact bd _ | exact (bmore (by first | assumption | exact bdn _ _ | exact bd _ | exact Below.refl _ _) u2) | exact (bmore (bmore (by first | assumption | exact bdn _ _ | exact bd _ | exact Below.refl _ _) u2) u3)))
        ((first
          | ((with_reducible refine (IL.out _ _ _ _ (HL.out.below (bmore HU.out (by first | assumption | exact bdn _ _ | exact bd _ | exact Below.refl _ _))) (TB.out.below (by first | assumption | exact bdn _ _ | exact bd _ | exact Below.refl _ _)) (by have := ZS.out; simp only [Tr.size] at hs this; omega)).mono ?_); rintro e w2 ⟨p2, rfl, t2, u2⟩)
          | ((with_reducible refine (IR.out _ _ _ _ (HR.out.below (bmore HU.out (bmore (by first | assumption | exact bdn _ _ | exact bd _ | exact Below.refl _ _) u2))) (TA.out.below (bmore (by first | assumption | exact bdn _ _ | exact bd _ | exact Below.refl _ _) u2)) (by have := ZS.out; simp only [Tr.size] at hs this; omega)).mono ?_); rintro e w3 ⟨p3, rfl, t3, u3⟩)))
      have U3 := Lib.hid (bmore (bmore (by first | assumption | exact bdn _ _ | exact bd _ | exact Below.refl _ _) u2) u3)
      have T2 := Lib.hid (t2.below u3)
      have T3 := Lib.hid t3
      have c03 := bcellAt U3.out c01
      clear t2 u2 t3 u3 c01 cl1 cr1
      obtain rfl : po = none := by have := TO.out; rw [HF.out] at this; simpa [IsTU] using this
      go_wp2_with fail
      refine (glueU T2.out T3.out (by have := Z2.out; have := Z3.out; simp only [Tr.size] at hs; omega)).mono ?_
      rintro e w4 ⟨p4, rfl, t4, u4⟩
      have HU4 := Lib.hid u4
      have HT4 := Lib.hid t4
      clear u4 t4
      go_wp2_with fail
      go_ret
      exact ⟨_, rfl, HT4.out, (HU.out.trans (U3.out.mono HU.out.size)).trans (HU4.out.mono (Nat.le_trans HU.out.size U3.out.size))⟩
    | node fl fk fx fr =>
      rw [Tr.common, hf]
      simp only
      have HF := Lib.hid hf
      clear hf
      go_enter Try.func97, Try.ntmps97
      go_wp2_with fail
      refine (splitU nk (.node bl bk bv br) _ _ HB.out (by omega)).mono ?_
      rintro e w1 ⟨pb, po, pa, rfl, tb, to, ta, u1⟩
      have c01 := bcellAt u1 c0
      have cl1 := bcellAt u1 cl
      have cr1 := bcellAt u1 cr
      have TB := Lib.hid tb
      have TO := Lib.hid to
      have TA := Lib.hid ta
      have HU := Lib.hid u1
      clear tb to ta u1 c0 cl cr
      go_wp2_with fail
      have hk : ∀ w' : World, Below w1.heap.size w1 w' → w'.cell? ⟨b, 1, none⟩ = some (.pointer vl) ∧ w'.cell? ⟨b, 2, none⟩ = some (.pointer vr) ∧ Below w1.heap.size w1 w' := fun w' hb => ⟨bcellAt hb cl1, bcellAt hb cr1, hb⟩
      have HK := Lib.hid hk
      clear hk
      go_region_held3 (fun w' => w'.cell? ⟨b, 1, none⟩ = some (.pointer vl) ∧ w'.cell? ⟨b, 2, none⟩ = some (.pointer vr) ∧ Below w1.heap.size w1 w') ((refine HK.out _ ?_; first | exact bdd _ _ | exact bd _ | exact (bmore (by first | assumption | exact bdn _ _ | exact bd _ | exact Below.refl _ _) u2) | exact (bmore (bmore (by first | assumption | exact bdn _ _ | exact bd _ | exact Below.refl _ _) u2) u3)))
        ((first
          | ((with_reducible refine (IL.out _ _ _ _ (HL.out.below (bmore HU.out (by first | assumption | exact bdn _ _ | exact bd _ | exact Below.refl _ _))) (TB.out.below (by first | assumption | exact bdn _ _ | exact bd _ | exact Below.refl _ _)) (by have := ZS.out; simp only [Tr.size] at hs this; omega)).mono ?_); rintro e w2 ⟨p2, rfl, t2, u2⟩)
          | ((with_reducible refine (IR.out _ _ _ _ (HR.out.below (bmore HU.out (bmore (by first | assumption | exact bdn _ _ | exact bd _ | exact Below.refl _ _) u2))) (TA.out.below (bmore (by first | assumption | exact bdn _ _ | exact bd _ | exact Below.refl _ _) u2)) (by have := ZS.out; simp only [Tr.size] at hs this; omega)).mono ?_); rintro e w3 ⟨p3, rfl, t3, u3⟩)))
      have U3 := Lib.hid (bmore (bmore (by first | assumption | exact bdn _ _ | exact bd _ | exact Below.refl _ _) u2) u3)
      have T2 := Lib.hid (t2.below u3)
      have T3 := Lib.hid t3
      have c03 := bcellAt U3.out c01
      clear t2 u2 t3 u3 c01 cl1 cr1
      obtain ⟨fb, rfl⟩ : ∃ fb, po = some ⟨fb, 0, none⟩ := by
        have := TO.out
        rw [HF.out] at this
        obtain ⟨fb, _, _, hv, _⟩ := this
        exact ⟨fb, by simpa using hv⟩
      go_wp2_with fail
      refine (joinU nk () T2.out T3.out (by have := Z2.out; have := Z3.out; simp only [Tr.size] at hs; omega)).mono ?_
      rintro e w4 ⟨p4, rfl, t4, u4⟩
      have HU4 := Lib.hid u4
      have HT4 := Lib.hid t4
      clear u4 t4
      go_wp2_with fail
      go_ret
      exact ⟨_, rfl, HT4.out, (HU.out.trans (U3.out.mono HU.out.size)).trans (HU4.out.mono (Nat.le_trans HU.out.size U3.out.size))⟩

set_option maxRecDepth 100000 in
set_option maxHeartbeats 3200000 in
theorem minusU : ∀ (x y : Tr Int Unit) (w : World) (vx vy : Value) (hx : IsTU w vx x) (hy : IsTU w vy y) (hs : x.size + y.size < 500000),
    Calls Try.prog 98 #[vx, vy] w (MadeU (Tr.minus x y) w) := by
  intro x
  induction x with
  | nil =>
    intro y w vx vy hx hy hs
    obtain rfl := hx
    obtain ⟨vy, rfl⟩ := hy.shape
    rw [Tr.minus]
    go_enter Try.func98, Try.ntmps98
    go_wp2_with fail
    go_ret
    exact ⟨_, rfl, rfl, Below.refl _ _⟩
  | node nl nk nx nr ihl ihr =>
    intro y w vx vy hx hy hs
    have H0 := Lib.hid hx
    obtain ⟨b, vl, vr, rfl, hb, hll, hrr⟩ := hx
    obtain ⟨vl, rfl⟩ := hll.shape
    obtain ⟨vr, rfl⟩ := hrr.shape
    have HL := Lib.hid hll
    have HR := Lib.hid hrr
    have IL := Lib.hid ihl
    have IR := Lib.hid ihr
    obtain ⟨c0, cl, cr, cs, ch⟩ := nodeCU (x := nx) hb
    clear hb hll hrr ihl ihr cs ch
    cases y with
    | nil =>
      obtain rfl := hy
      rw [Tr.minus]
      go_enter Try.func98, Try.ntmps98
      go_wp2_with fail
      go_ret
      exact ⟨_, rfl, H0.out, Below.refl _ _⟩
    | node bl bk bv br =>
    have HB := Lib.hid hy
    obtain ⟨by0, _, _, hvy, _⟩ := hy
    subst hvy
    have ZS := Lib.hid (Tr.size_split (.node bl bk bv br) nk)
    have Z2 := Lib.hid (Tr.size_minus nl (Tr.splitB (.node bl bk bv br) nk))
    have Z3 := Lib.hid (Tr.size_minus nr (Tr.splitA (.node bl bk bv br) nk))
    cases hf : Tr.find (.node bl bk bv br) nk with
    | nil =>
      rw [Tr.minus, hf]
      simp only
      have HF := Lib.hid hf
      clear hf
      go_enter Try.func98, Try.ntmps98
      go_wp2_with fail
      refine (splitU nk (.node bl bk bv br) _ _ HB.out (by omega)).mono ?_
      rintro e w1 ⟨pb, po, pa, rfl, tb, to, ta, u1⟩
      have c01 := bcellAt u1 c0
      have cl1 := bcellAt u1 cl
      have cr1 := bcellAt u1 cr
      have TB := Lib.hid tb
      have TO := Lib.hid to
      have TA := Lib.hid ta
      have HU := Lib.hid u1
      clear tb to ta u1 c0 cl cr
      go_wp2_with fail
      have hk : ∀ w' : World, Below w1.heap.size w1 w' → w'.cell? ⟨b, 1, none⟩ = some (.pointer vl) ∧ w'.cell? ⟨b, 2, none⟩ = some (.pointer vr) ∧ Below w1.heap.size w1 w' := fun w' hb => ⟨bcellAt hb cl1, bcellAt hb cr1, hb⟩
      have HK := Lib.hid hk
      clear hk
      go_region_held3 (fun w' => w'.cell? ⟨b, 1, none⟩ = some (.pointer vl) ∧ w'.cell? ⟨b, 2, none⟩ = some (.pointer vr) ∧ Below w1.heap.size w1 w') ((refine HK.out _ ?_; first | exact bdd _ _ | exact bd _ | exact (bmore (by first | assumption | exact bdn _ _ | exact bd _ | exact Below.refl _ _) u2) | exact (bmore (bmore (by first | assumption | exact bdn _ _ | exact bd _ | exact Below.refl _ _) u2) u3)))
        ((first
          | ((with_reducible refine (IL.out _ _ _ _ (HL.out.below (bmore HU.out (by first | assumption | exact bdn _ _ | exact bd _ | exact Below.refl _ _))) (TB.out.below (by first | assumption | exact bdn _ _ | exact bd _ | exact Below.refl _ _)) (by have := ZS.out; simp only [Tr.size] at hs this; omega)).mono ?_); rintro e w2 ⟨p2, rfl, t2, u2⟩)
          | ((with_reducible refine (IR.out _ _ _ _ (HR.out.below (bmore HU.out (bmore (by first | assumption | exact bdn _ _ | exact bd _ | exact Below.refl _ _) u2))) (TA.out.below (bmore (by first | assumption | exact bdn _ _ | exact bd _ | exact Below.refl _ _) u2)) (by have := ZS.out; simp only [Tr.size] at hs this; omega)).mono ?_); rintro e w3 ⟨p3, rfl, t3, u3⟩)))
      have U3 := Lib.hid (bmore (bmore (by first | assumption | exact bdn _ _ | exact bd _ | exact Below.refl _ _) u2) u3)
      have T2 := Lib.hid (t2.below u3)
      have T3 := Lib.hid t3
      have c03 := bcellAt U3.out c01
      clear t2 u2 t3 u3 c01 cl1 cr1
      obtain rfl : po = none := by have := TO.out; rw [HF.out] at this; simpa [IsTU] using this
      go_wp2_with fail
      refine (joinU nk () T2.out T3.out (by have := Z2.out; have := Z3.out; simp only [Tr.size] at hs; omega)).mono ?_
      rintro e w4 ⟨p4, rfl, t4, u4⟩
      have HU4 := Lib.hid u4
      have HT4 := Lib.hid t4
      clear u4 t4
      go_wp2_with fail
      go_ret
      exact ⟨_, rfl, HT4.out, (HU.out.trans (U3.out.mono HU.out.size)).trans (HU4.out.mono (Nat.le_trans HU.out.size U3.out.size))⟩
    | node fl fk fx fr =>
      rw [Tr.minus, hf]
      simp only
      have HF := Lib.hid hf
      clear hf
      go_enter Try.func98, Try.ntmps98
      go_wp2_with fail
      refine (splitU nk (.node bl bk bv br) _ _ HB.out (by omega)).mono ?_
      rintro e w1 ⟨pb, po, pa, rfl, tb, to, ta, u1⟩
      have c01 := bcellAt u1 c0
      have cl1 := bcellAt u1 cl
      have cr1 := bcellAt u1 cr
      have TB := Lib.hid tb
      have TO := Lib.hid to
      have TA := Lib.hid ta
      have HU := Lib.hid u1
      clear tb to ta u1 c0 cl cr
      go_wp2_with fail
      have hk : ∀ w' : World, Below w1.heap.size w1 w' → w'.cell? ⟨b, 1, none⟩ = some (.pointer vl) ∧ w'.cell? ⟨b, 2, none⟩ = some (.pointer vr) ∧ Below w1.heap.size w1 w' := fun w' hb => ⟨bcellAt hb cl1, bcellAt hb cr1, hb⟩
      have HK := Lib.hid hk
      clear hk
      go_region_held3 (fun w' => w'.cell? ⟨b, 1, none⟩ = some (.pointer vl) ∧ w'.cell? ⟨b, 2, none⟩ = some (.pointer vr) ∧ Below w1.heap.size w1 w') ((refine HK.out _ ?_; first | exact bdd _ _ | exact bd _ | exact (bmore (by first | assumption | exact bdn _ _ | exact bd _ | exact Below.refl _ _) u2) | exact (bmore (bmore (by first | assumption | exact bdn _ _ | exact bd _ | exact Below.refl _ _) u2) u3)))
        ((first
          | ((with_reducible refine (IL.out _ _ _ _ (HL.out.below (bmore HU.out (by first | assumption | exact bdn _ _ | exact bd _ | exact Below.refl _ _))) (TB.out.below (by first | assumption | exact bdn _ _ | exact bd _ | exact Below.refl _ _)) (by have := ZS.out; simp only [Tr.size] at hs this; omega)).mono ?_); rintro e w2 ⟨p2, rfl, t2, u2⟩)
          | ((with_reducible refine (IR.out _ _ _ _ (HR.out.below (bmore HU.out (bmore (by first | assumption | exact bdn _ _ | exact bd _ | exact Below.refl _ _) u2))) (TA.out.below (bmore (by first | assumption | exact bdn _ _ | exact bd _ | exact Below.refl _ _) u2)) (by have := ZS.out; simp only [Tr.size] at hs this; omega)).mono ?_); rintro e w3 ⟨p3, rfl, t3, u3⟩)))
      have U3 := Lib.hid (bmore (bmore (by first | assumption | exact bdn _ _ | exact bd _ | exact Below.refl _ _) u2) u3)
      have T2 := Lib.hid (t2.below u3)
      have T3 := Lib.hid t3
      have c03 := bcellAt U3.out c01
      clear t2 u2 t3 u3 c01 cl1 cr1
      obtain ⟨fb, rfl⟩ : ∃ fb, po = some ⟨fb, 0, none⟩ := by
        have := TO.out
        rw [HF.out] at this
        obtain ⟨fb, _, _, hv, _⟩ := this
        exact ⟨fb, by simpa using hv⟩
      go_wp2_with fail
      refine (glueU T2.out T3.out (by have := Z2.out; have := Z3.out; simp only [Tr.size] at hs; omega)).mono ?_
      rintro e w4 ⟨p4, rfl, t4, u4⟩
      have HU4 := Lib.hid u4
      have HT4 := Lib.hid t4
      clear u4 t4
      go_wp2_with fail
      go_ret
      exact ⟨_, rfl, HT4.out, (HU.out.trans (U3.out.mono HU.out.size)).trans (HU4.out.mono (Nat.le_trans HU.out.size U3.out.size))⟩


end Go.Proofs.Ytkobiimkaimbaaa
