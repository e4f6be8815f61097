/-
  A tree in memory (string,int) cut at a key: what stands below it, its own node, what stands above.
-/
import Derived.Handy
import Derived.IntWalk
import Derived.OwnWalk
import Derived.Test.YtkobiimkaimbaaaKPS
import Derived.Test.YtkobiimkaimbaaaKSpl
namespace Go.Proofs.Ytkobiimkaimbaaa
open Go.RowKit
attribute [local go_sem] Oper.semAt_some
set_option linter.unusedVariables false

def SplitsS (t : Tr ByteArray Int) (k : ByteArray) (w : World) (e : Ending) (w' : World) : Prop :=
  ∃ pb po pa, e = .returned (.tuple #[.pointer pb, .pointer po, .pointer pa]) ∧ IsTS w' (.pointer pb) (Tr.splitB t k) ∧ IsTS w' (.pointer po) (Tr.find t k) ∧ IsTS w' (.pointer pa) (Tr.splitA t k) ∧ Below w.heap.size w w'

set_option maxRecDepth 100000 in
set_option maxHeartbeats 1600000 in
theorem splitS (k : ByteArray) : ∀ (t : Tr ByteArray Int) (w : World) (v : Value) (h : IsTS w v t) (hs : t.size < 500000),
    Calls Try.prog 119 #[v, .string k] w (SplitsS t k w) := by
  intro t
  induction t with
  | nil =>
    intro w v h hs
    obtain rfl := h
    go_enter Try.func119, Try.ntmps119
    go_wp2_with fail
    go_returns
    exact ⟨_, _, _, rfl, rfl, rfl, rfl, Below.refl _ _⟩
  | node nl nk nx nr ihl ihr =>
    intro w v h hs
    have H0 := Lib.hid h
    obtain ⟨b, vl, vr, rfl, hb, hll, hrr⟩ := h
    obtain ⟨vl, rfl⟩ := hll.shape
    obtain ⟨vr, rfl⟩ := hrr.shape
    have HL := Lib.hid hll
    have HR := Lib.hid hrr
    have IL := Lib.hid ihl
    have IR := Lib.hid ihr
    have ZL := Lib.hid (Tr.size_split nl k)
    have ZR := Lib.hid (Tr.size_split nr k)
    obtain ⟨c0, cv, cl, cr, cs, ch⟩ := nodeCS hb
    clear hb hll hrr ihl ihr cs ch
    by_cases hA : KOrd.lt k nk = true
    · have HA := Lib.hid hA
      unfold SplitsS
      rw [Tr.splitB, Tr.splitA, Tr.find, if_pos hA, if_pos hA, if_pos hA]
      clear hA
      go_enter Try.func119, Try.ntmps119
      go_wp2_with fail
      refine (cmpLS _ HA.out).mono ?_
      rintro e w0 ⟨rfl, rfl⟩
      go_wp2_with fail
      refine (IL.out _ _ HL.out (by simp only [Tr.size] at hs; omega)).mono ?_
      rintro e w1 ⟨pb, po, pa, rfl, tb, to, ta, u1⟩
      have c01 := bcellAt u1 c0
      have cv1 := bcellAt u1 cv
      have cr1 := bcellAt u1 cr
      have TB := Lib.hid tb
      have TO := Lib.hid to
      have TA := Lib.hid ta
      have HU := Lib.hid u1
      clear tb to ta u1
      go_wp2_with fail
      have hk : ∀ w' : World, Below w1.heap.size w1 w' → w'.cell? ⟨b, 0, none⟩ = some (.string nk) ∧ w'.cell? ⟨b, 1, none⟩ = some (.int .i64 nx) ∧ w'.cell? ⟨b, 3, none⟩ = some (.pointer vr) ∧ Below w1.heap.size w1 w' := fun w' hb => ⟨bcellAt hb c01, bcellAt hb cv1, bcellAt hb cr1, hb⟩
      have HK := Lib.hid hk
      clear hk
      go_region_held3 (fun w' => w'.cell? ⟨b, 0, none⟩ = some (.string nk) ∧ w'.cell? ⟨b, 1, none⟩ = some (.int .i64 nx) ∧ w'.cell? ⟨b, 3, none⟩ = some (.pointer vr) ∧ Below w1.heap.size w1 w') ((refine HK.out _ ?_; first | exact bdd _ _ | exact bd _ | exact (bmore (by first | assumption | exact bdn _ _ | exact bd _ | exact Below.refl _ _) u2)))
        ((first
          | ((with_reducible refine (joinS nk nx (TA.out.below (by first | assumption | exact bdn _ _ | exact bd _ | exact Below.refl _ _)) (HR.out.below (bmore HU.out (by first | assumption | exact bdn _ _ | exact bd _ | exact Below.refl _ _))) (by have := ZL.out; simp only [Tr.size] at hs; omega)).mono ?_); rintro e w2 ⟨p2, rfl, t2, u2⟩)))
      go_wp2_with fail
      go_returns
      exact ⟨_, _, _, rfl, TB.out.below (bmore (by first | assumption | exact bdn _ _ | exact bd _ | exact Below.refl _ _) u2), TO.out.below (bmore (by first | assumption | exact bdn _ _ | exact bd _ | exact Below.refl _ _) u2), t2, HU.out.trans ((bmore (by first | assumption | exact bdn _ _ | exact bd _ | exact Below.refl _ _) u2).mono HU.out.size)⟩
    · by_cases hC : KOrd.lt nk k = true
      · have HC := Lib.hid hC
        unfold SplitsS
        rw [Tr.splitB, Tr.splitA, Tr.find, if_neg hA, if_neg hA, if_neg hA, if_pos hC, if_pos hC, if_pos hC]
        clear hA hC
        go_enter Try.func119, Try.ntmps119
        go_wp2_with fail
        refine (cmpGS _ HC.out).mono ?_
        rintro e w0 ⟨rfl, rfl⟩
        go_wp2_with fail
        refine (IR.out _ _ HR.out (by simp only [Tr.size] at hs; omega)).mono ?_
        rintro e w1 ⟨pb, po, pa, rfl, tb, to, ta, u1⟩
        have c01 := bcellAt u1 c0
        have cv1 := bcellAt u1 cv
        have cl1 := bcellAt u1 cl
        have TB := Lib.hid tb
        have TO := Lib.hid to
        have TA := Lib.hid ta
        have HU := Lib.hid u1
        clear tb to ta u1
        go_wp2_with fail
        have hk : ∀ w' : World, Below w1.heap.size w1 w' → w'.cell? ⟨b, 0, none⟩ = some (.string nk) ∧ w'.cell? ⟨b, 1, none⟩ = some (.int .i64 nx) ∧ w'.cell? ⟨b, 2, none⟩ = some (.pointer vl) ∧ Below w1.heap.size w1 w' := fun w' hb => ⟨bcellAt hb c01, bcellAt hb cv1, bcellAt hb cl1, hb⟩
        have HK := Lib.hid hk
        clear hk
        go_region_held3 (fun w' => w'.cell? ⟨b, 0, none⟩ = some (.string nk) ∧ w'.cell? ⟨b, 1, none⟩ = some (.int .i64 nx) ∧ w'.cell? ⟨b, 2, none⟩ = some (.pointer vl) ∧ Below w1.heap.size w1 w') ((refine HK.out _ ?_; first | exact bdd _ _ | exact bd _ | exact (bmore (by first | assumption | exact bdn _ _ | exact bd _ | exact Below.refl _ _) u2)))
          ((first
            | ((with_reducible refine (joinS nk nx (HL.out.below (bmore HU.out (by first | assumption | exact bdn _ _ | exact bd _ | exact Below.refl _ _))) (TB.out.below (by first | assumption | exact bdn _ _ | exact bd _ | exact Below.refl _ _)) (by have := ZR.out; simp only [Tr.size] at hs; omega)).mono ?_); rintro e w2 ⟨p2, rfl, t2, u2⟩)))
        go_wp2_with fail
        go_returns
        exact ⟨_, _, _, rfl, t2, TO.out.below (bmore (by first | assumption | exact bdn _ _ | exact bd _ | exact Below.refl _ _) u2), TA.out.below (bmore (by first | assumption | exact bdn _ _ | exact bd _ | exact Below.refl _ _) u2), HU.out.trans ((bmore (by first | assumption | exact bdn _ _ | exact bd _ | exact Below.refl _ _) u2).mono HU.out.size)⟩

      · have e : k = nk := KOrd.tri (by simpa using hA) (by simpa using hC)
        unfold SplitsS
        rw [Tr.splitB, Tr.splitA, Tr.find, if_neg hA, if_neg hA, if_neg hA, if_neg hC, if_neg hC, if_neg hC]
        clear hA hC
        subst e
        go_enter Try.func119, Try.ntmps119
        go_wp2_with fail
        refine (cmpES _ _).mono ?_
        rintro e w0 ⟨rfl, rfl⟩
        go_wp2_with fail
        go_quiet (fail)
        go_wp2_with fail
        go_returns
        exact ⟨_, _, _, rfl, HL.out.below (bdn _ _), H0.out.below (bdn _ _), HR.out.below (bdn _ _), bdn _ _⟩

end Go.Proofs.Ytkobiimkaimbaaa
