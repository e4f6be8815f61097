/-
  What find, put and drop do with a tree in memory (int,int).
-/
import Derived.Test.YtbgnedeeeaapfaaKCI
namespace Go.Proofs.Ytbgnedeeeaapfaa
open Go.RowKit
set_option linter.unusedVariables false
set_option maxRecDepth 100000 in
set_option maxHeartbeats 1600000 in
theorem findI {w : World} {v : Value} {t : Tr Int Int} (k : Int) (h : IsTI w v t) :
    Calls Try.prog 100 #[v, .int .i64 k] w fun e w' => ∃ p, e = .returned (.pointer p) ∧ IsTI w (.pointer p) (Tr.find t k) ∧ w = w' := by
  have H0 := Lib.hid h
  obtain ⟨pv, rfl⟩ := h.shape
  clear h
  go_enter Try.func100, Try.ntmps100
  go_wp2_with fail
  go_loop [0] (fun v => ∃ t', IsTI w v t' ∧ Tr.find t' k = Tr.find t k) (fun v => sizeAtI w v)
  case atStart => exact ⟨t, H0.out, rfl⟩
  case round =>
    obtain ⟨t', ht, he⟩ := hrel
    have HSZ := Lib.hid ht.sizeAt
    cases t' with
    | nil =>
      obtain rfl := ht
      rw [Tr.find] at he
      have HE := Lib.hid he
      clear he
      go_wp2_with fail
      go_ret
      exact ⟨none, rfl, by rw [← HE.out]; rfl, rfl⟩
    | node l k' x r =>
      have HT := Lib.hid ht
      obtain ⟨b, pl, pr, rfl, hb, hl, hr⟩ := ht
      obtain ⟨pll, rfl⟩ := hl.shape
      obtain ⟨plr, rfl⟩ := hr.shape
      obtain ⟨c0, cx, cl, cr, cs, ch⟩ := nodeCI (x := x) hb
      clear hb
      by_cases hA : KOrd.lt k k' = true
      · have HA := Lib.hid hA
        rw [Tr.find, if_pos hA] at he
        have HE := Lib.hid he
        have HS := Lib.hid (show sizeAtI w (.pointer pll) = l.size from hl.sizeAt)
        have HH := Lib.hid hl
        clear hA he hl hr
        go_wp2_with fail
        refine (cmpLI _ HA.out).mono ?_
        rintro e w1 ⟨rfl, rfl⟩
        go_wp2_with fail
        go_round
        case rel => exact ⟨l, HH.out, HE.out⟩
        case measure => rw [HS.out, HSZ.out]; simp only [Tr.size]; omega
      · by_cases hC : KOrd.lt k' k = true
        · have HC := Lib.hid hC
          rw [Tr.find, if_neg hA, if_pos hC] at he
          have HE := Lib.hid he
          have HS := Lib.hid (show sizeAtI w (.pointer plr) = r.size from hr.sizeAt)
          have HH := Lib.hid hr
          clear hA hC he hl hr
          go_wp2_with fail
          refine (cmpGI _ HC.out).mono ?_
          rintro e w1 ⟨rfl, rfl⟩
          go_wp2_with fail
          go_round
          case rel => exact ⟨r, HH.out, HE.out⟩
          case measure => rw [HS.out, HSZ.out]; simp only [Tr.size]; omega
        · rw [Tr.find, if_neg hA, if_neg hC] at he
          have e : k = k' := KOrd.tri (by simpa using hA) (by simpa using hC)
          have HE := Lib.hid he
          clear hA hC he hl hr
          subst e
          go_wp2_with fail
          refine (cmpEI _ _).mono ?_
          rintro e w1 ⟨rfl, rfl⟩
          go_wp2_with fail
          go_ret
          exact ⟨_, rfl, by rw [← HE.out]; exact HT.out, rfl⟩
set_option maxRecDepth 100000 in
set_option maxHeartbeats 1600000 in
theorem putI (k : Int) (x : Int) : ∀ (t : Tr Int Int) (w : World) (v : Value) (h : IsTI w v t) (hs : t.size < 500000),
    Calls Try.prog 98 #[v, .agg #[.int .i64 k, .int .i64 x]] w (MadeI (Tr.put t k x) w) := by
  intro t
  induction t with
  | nil =>
    intro w v h hs
    obtain rfl := h
    have b0 : Below w.heap.size w (w.alloc (.cells #[.int .i64 k, .int .i64 x] 156)) := (Below.refl _ _).alloc (Nat.le_refl _) _
    have z : (w.alloc (.cells #[.int .i64 k, .int .i64 x] 156)).heap[w.heap.size]? = some (Obj.cells #[.int .i64 k, .int .i64 x] 156) := heap_alloc_new w _
    have z0 : (w.alloc (.cells #[.int .i64 k, .int .i64 x] 156)).cell? ⟨w.heap.size, 0, none⟩ = some (.int .i64 k) := cellB z rfl
    have z1 : (w.alloc (.cells #[.int .i64 k, .int .i64 x] 156)).cell? ⟨w.heap.size, 1, none⟩ = some (.int .i64 x) := cellB z rfl
    clear z
    have HB := Lib.hid b0
    clear b0
    go_enter Try.func98, Try.ntmps98
    go_wp2_with fail
    generalize (w.alloc (.cells #[.int .i64 k, .int .i64 x] 156)) = W at *
    refine (growI (l := .nil) (r := .nil) k x rfl rfl (by simp only [Tr.size]; omega)).mono ?_
    rintro e w1 ⟨p1, rfl, t1, u1⟩
    go_wp2_with fail
    go_ret
    exact ⟨_, rfl, t1, HB.out.trans (u1.mono HB.out.size)⟩
  | node nl nk nx nr ihl ihr =>
    intro w v h hs
    have b0 : Below w.heap.size w (w.alloc (.cells #[.int .i64 k, .int .i64 x] 156)) := (Below.refl _ _).alloc (Nat.le_refl _) _
    have z : (w.alloc (.cells #[.int .i64 k, .int .i64 x] 156)).heap[w.heap.size]? = some (Obj.cells #[.int .i64 k, .int .i64 x] 156) := heap_alloc_new w _
    have z0 : (w.alloc (.cells #[.int .i64 k, .int .i64 x] 156)).cell? ⟨w.heap.size, 0, none⟩ = some (.int .i64 k) := cellB z rfl
    have z1 : (w.alloc (.cells #[.int .i64 k, .int .i64 x] 156)).cell? ⟨w.heap.size, 1, none⟩ = some (.int .i64 x) := cellB z rfl
    clear z
    have HB := Lib.hid b0
    have h' := h.below b0
    obtain ⟨b, vl, vr, rfl, hb, hll, hrr⟩ := h'
    obtain ⟨vl, rfl⟩ := hll.shape
    obtain ⟨vr, rfl⟩ := hrr.shape
    have HL := Lib.hid hll
    have HR := Lib.hid hrr
    have IL := Lib.hid ihl
    have IR := Lib.hid ihr
    have ZL := Lib.hid (Tr.size_put_le nl k x)
    have ZR := Lib.hid (Tr.size_put_le nr k x)
    obtain ⟨c0, cx, cl, cr, cs, ch⟩ := nodeCI (x := nx) hb
    clear b0 hb hll hrr ihl ihr h
    by_cases hA : KOrd.lt k nk = true
    · have HA := Lib.hid hA
      rw [Tr.put, if_pos hA]
      clear hA
      go_enter Try.func98, Try.ntmps98
      go_wp2_with fail
      generalize (w.alloc (.cells #[.int .i64 k, .int .i64 x] 156)) = W at *
      go_quiet (exact Calls.quiet_of_same (still_of (cmpLI _ HA.out)))
      go_wp2_with fail
      generalize hW1 : W.drewN nq = W1
      have hw : Below W.heap.size W W1 := by rw [← hW1]; exact bdn _ _
      clear hW1
      replace z0 := bcellAt hw z0
      replace z1 := bcellAt hw z1
      replace c0 := bcellAt hw c0
      replace cx := bcellAt hw cx
      replace cl := bcellAt hw cl
      replace cr := bcellAt hw cr
      clear cs ch
      have HW := Lib.hid hw
      clear hw
      have hk : ∀ w' : World, Below W1.heap.size W1 w' → w'.cell? ⟨w.heap.size, 0, none⟩ = some (.int .i64 k) ∧ w'.cell? ⟨w.heap.size, 1, none⟩ = some (.int .i64 x) ∧ w'.cell? ⟨b, 0, none⟩ = some (.int .i64 nk) ∧ w'.cell? ⟨b, 1, none⟩ = some (.int .i64 nx) ∧ w'.cell? ⟨b, 2, none⟩ = some (.pointer vl) ∧ w'.cell? ⟨b, 3, none⟩ = some (.pointer vr) ∧ Below W1.heap.size W1 w' := fun w' hb => ⟨bcellAt hb z0, bcellAt hb z1, bcellAt hb c0, bcellAt hb cx, bcellAt hb cl, bcellAt hb cr, hb⟩
      have HK := Lib.hid hk
      clear hk
      go_region_held3 (fun w' => w'.cell? ⟨w.heap.size, 0, none⟩ = some (.int .i64 k) ∧ w'.cell? ⟨w.heap.size, 1, none⟩ = some (.int .i64 x) ∧ w'.cell? ⟨b, 0, none⟩ = some (.int .i64 nk) ∧ w'.cell? ⟨b, 1, none⟩ = some (.int .i64 nx) ∧ w'.cell? ⟨b, 2, none⟩ = some (.pointer vl) ∧ w'.cell? ⟨b, 3, none⟩ = some (.pointer vr) ∧ Below W1.heap.size W1 w') ((refine HK.out _ ?_; first | exact bdd _ _ | exact bd _ | exact (bmore (by first | assumption | exact bdn _ _ | exact bd _ | exact Below.refl _ _) u1) | exact (bmore (bmore (by first | assumption | exact bdn _ _ | exact bd _ | exact Below.refl _ _) u1) u2) ))
        ((first
          | ((with_reducible refine (IL.out _ _ (HL.out.below (bmore HW.out (by first | assumption | exact bdn _ _ | exact bd _ | exact Below.refl _ _))) (by simp only [Tr.size] at hs; omega)).mono ?_); rintro e w1 ⟨p1, rfl, t1, u1⟩)
          | ((with_reducible refine (balanceI nk nx t1 (HR.out.below (bmore HW.out (bmore (by first | assumption | exact bdn _ _ | exact bd _ | exact Below.refl _ _) u1))) (by have := ZL.out; simp only [Tr.size] at hs; omega)).mono ?_); rintro e w2 ⟨p2, rfl, t2, u2⟩)))
      go_wp2_with fail
      go_ret
      exact ⟨_, rfl, t2, HB.out.trans ((bmore HW.out (bmore (bmore (by first | assumption | exact bdn _ _ | exact bd _ | exact Below.refl _ _) u1) u2)).mono HB.out.size)⟩
    · by_cases hC : KOrd.lt nk k = true
      · have HC := Lib.hid hC
        rw [Tr.put, if_neg hA, if_pos hC]
        clear hC hA
        go_enter Try.func98, Try.ntmps98
        go_wp2_with fail
        generalize (w.alloc (.cells #[.int .i64 k, .int .i64 x] 156)) = W at *
        go_quiet (exact Calls.quiet_of_same (still_of (cmpGI _ HC.out)))
        go_wp2_with fail
        generalize hW1 : W.drewN nq = W1
        have hw : Below W.heap.size W W1 := by rw [← hW1]; exact bdn _ _
        clear hW1
        replace z0 := bcellAt hw z0
        replace z1 := bcellAt hw z1
        replace c0 := bcellAt hw c0
        replace cx := bcellAt hw cx
        replace cl := bcellAt hw cl
        replace cr := bcellAt hw cr
        clear cs ch
        have HW := Lib.hid hw
        clear hw
        have hk : ∀ w' : World, Below W1.heap.size W1 w' → w'.cell? ⟨w.heap.size, 0, none⟩ = some (.int .i64 k) ∧ w'.cell? ⟨w.heap.size, 1, none⟩ = some (.int .i64 x) ∧ w'.cell? ⟨b, 0, none⟩ = some (.int .i64 nk) ∧ w'.cell? ⟨b, 1, none⟩ = some (.int .i64 nx) ∧ w'.cell? ⟨b, 2, none⟩ = some (.pointer vl) ∧ w'.cell? ⟨b, 3, none⟩ = some (.pointer vr) ∧ Below W1.heap.size W1 w' := fun w' hb => ⟨bcellAt hb z0, bcellAt hb z1, bcellAt hb c0, bcellAt hb cx, bcellAt hb cl, bcellAt hb cr, hb⟩
        have HK := Lib.hid hk
        clear hk
        go_region_held3 (fun w' => w'.cell? ⟨w.heap.size, 0, none⟩ = some (.int .i64 k) ∧ w'.cell? ⟨w.heap.size, 1, none⟩ = some (.int .i64 x) ∧ w'.cell? ⟨b, 0, none⟩ = some (.int .i64 nk) ∧ w'.cell? ⟨b, 1, none⟩ = some (.int .i64 nx) ∧ w'.cell? ⟨b, 2, none⟩ = some (.pointer vl) ∧ w'.cell? ⟨b, 3, none⟩ = some (.pointer vr) ∧ Below W1.heap.size W1 w') ((refine HK.out _ ?_; first | exact bdd _ _ | exact bd _ | exact (bmore (by first | assumption | exact bdn _ _ | exact bd _ | exact Below.refl _ _) u1) | exact (bmore (bmore (by first | assumption | exact bdn _ _ | exact bd _ | exact Below.refl _ _) u1) u2) ))
          ((first
            | ((with_reducible refine (IR.out _ _ (HR.out.below (bmore HW.out (by first | assumption | exact bdn _ _ | exact bd _ | exact Below.refl _ _))) (by simp only [Tr.size] at hs; omega)).mono ?_); rintro e w1 ⟨p1, rfl, t1, u1⟩)
            | ((with_reducible refine (balanceI nk nx (HL.out.below (bmore HW.out (bmore (by first | assumption | exact bdn _ _ | exact bd _ | exact Below.refl _ _) u1))) t1 (by have := ZR.out; simp only [Tr.size] at hs; omega)).mono ?_); rintro e w2 ⟨p2, rfl, t2, u2⟩)))
        go_wp2_with fail
        go_ret
        exact ⟨_, rfl, t2, HB.out.trans ((bmore HW.out (bmore (bmore (by first | assumption | exact bdn _ _ | exact bd _ | exact Below.refl _ _) u1) u2)).mono HB.out.size)⟩
      · have e : k = nk := KOrd.tri (by simpa using hA) (by simpa using hC)
        rw [Tr.put, if_neg hA, if_neg hC]
        clear hA hC
        subst e
        go_enter Try.func98, Try.ntmps98
        go_wp2_with fail
        generalize (w.alloc (.cells #[.int .i64 k, .int .i64 x] 156)) = W at *
        go_quiet (exact Calls.quiet_of_same (still_of (cmpEI _ _)))
        go_wp2_with fail
        generalize hW1 : W.drewN nq = W1
        have hw : Below W.heap.size W W1 := by rw [← hW1]; exact bdn _ _
        clear hW1
        replace z0 := bcellAt hw z0
        replace z1 := bcellAt hw z1
        replace c0 := bcellAt hw c0
        replace cx := bcellAt hw cx
        replace cl := bcellAt hw cl
        replace cr := bcellAt hw cr
        clear cs ch
        have HW := Lib.hid hw
        clear hw
        have hk : ∀ w' : World, Below W1.heap.size W1 w' → w'.cell? ⟨w.heap.size, 0, none⟩ = some (.int .i64 k) ∧ w'.cell? ⟨w.heap.size, 1, none⟩ = some (.int .i64 x) ∧ w'.cell? ⟨b, 2, none⟩ = some (.pointer vl) ∧ w'.cell? ⟨b, 3, none⟩ = some (.pointer vr) ∧ Below W1.heap.size W1 w' := fun w' hb => ⟨bcellAt hb z0, bcellAt hb z1, bcellAt hb cl, bcellAt hb cr, hb⟩
        have HK := Lib.hid hk
        clear hk
        go_region_held3 (fun w' => w'.cell? ⟨w.heap.size, 0, none⟩ = some (.int .i64 k) ∧ w'.cell? ⟨w.heap.size, 1, none⟩ = some (.int .i64 x) ∧ w'.cell? ⟨b, 2, none⟩ = some (.pointer vl) ∧ w'.cell? ⟨b, 3, none⟩ = some (.pointer vr) ∧ Below W1.heap.size W1 w') ((refine HK.out _ ?_; first | exact bdd _ _ | exact bd _ | exact (bmore (by first | assumption | exact bdn _ _ | exact bd _ | exact Below.refl _ _) u1) ))
          ((first
            | ((with_reducible refine (growI k x (HL.out.below (bmore HW.out (by first | assumption | exact bdn _ _ | exact bd _ | exact Below.refl _ _))) (HR.out.below (bmore HW.out (by first | assumption | exact bdn _ _ | exact bd _ | exact Below.refl _ _))) (by simp only [Tr.size] at hs; omega)).mono ?_); rintro e w1 ⟨p1, rfl, t1, u1⟩)))
        go_wp2_with fail
        go_ret
        exact ⟨_, rfl, t1, HB.out.trans ((bmore HW.out (bmore (by first | assumption | exact bdn _ _ | exact bd _ | exact Below.refl _ _) u1)).mono HB.out.size)⟩
set_option maxRecDepth 100000 in
set_option maxHeartbeats 1600000 in
theorem dropI (k : Int) : ∀ (t : Tr Int Int) (w : World) (v : Value) (h : IsTI w v t) (hs : t.size < 500000) (hf : Tr.find t k ≠ .nil),
    Calls Try.prog 101 #[v, .int .i64 k] w (MadeI (Tr.drop t k) w) := by
  intro t
  induction t with
  | nil => intro w v h hs hf; exact (hf rfl).elim
  | node nl nk nx nr ihl ihr =>
    intro w v h hs hf
    obtain ⟨b, vl, vr, rfl, hb, hll, hrr⟩ := h
    obtain ⟨vl, rfl⟩ := hll.shape
    obtain ⟨vr, rfl⟩ := hrr.shape
    have HL := Lib.hid hll
    have HR := Lib.hid hrr
    have IL := Lib.hid ihl
    have IR := Lib.hid ihr
    have ZL := Lib.hid (Tr.size_drop_le nl k)
    have ZR := Lib.hid (Tr.size_drop_le nr k)
    obtain ⟨c0, cx, cl, cr, cs, ch⟩ := nodeCI (x := nx) hb
    clear hb hll hrr ihl ihr
    by_cases hA : KOrd.lt k nk = true
    · have HA := Lib.hid hA
      rw [Tr.find, if_pos hA] at hf
      have HF := Lib.hid hf
      rw [Tr.drop, if_pos hA]
      clear hA hf
      go_enter Try.func101, Try.ntmps101
      go_wp2_with fail
      refine (cmpLI _ HA.out).mono ?_
      rintro e w0 ⟨rfl, rfl⟩
      go_wp2_with fail
      have hk : ∀ w' : World, Below w.heap.size w w' → w'.cell? ⟨b, 0, none⟩ = some (.int .i64 nk) ∧ w'.cell? ⟨b, 1, none⟩ = some (.int .i64 nx) ∧ w'.cell? ⟨b, 2, none⟩ = some (.pointer vl) ∧ w'.cell? ⟨b, 3, none⟩ = some (.pointer vr) ∧ Below w.heap.size w w' := fun w' hb => ⟨bcellAt hb c0, bcellAt hb cx, bcellAt hb cl, bcellAt hb cr, hb⟩
      have HK := Lib.hid hk
      clear hk
      go_region_held3 (fun w' => w'.cell? ⟨b, 0, none⟩ = some (.int .i64 nk) ∧ w'.cell? ⟨b, 1, none⟩ = some (.int .i64 nx) ∧ w'.cell? ⟨b, 2, none⟩ = some (.pointer vl) ∧ w'.cell? ⟨b, 3, none⟩ = some (.pointer vr) ∧ Below w.heap.size w w') ((refine HK.out _ ?_; first | exact bdd _ _ | exact bd _ | exact (bmore (by first | assumption | exact bdn _ _ | exact bd _ | exact Below.refl _ _) u1) | exact (bmore (bmore (by first | assumption | exact bdn _ _ | exact bd _ | exact Below.refl _ _) u1) u2) ))
        ((first
          | ((with_reducible refine (IL.out _ _ (HL.out.below (by first | assumption | exact bdn _ _ | exact bd _ | exact Below.refl _ _)) (by simp only [Tr.size] at hs; omega) HF.out).mono ?_); rintro e w1 ⟨p1, rfl, t1, u1⟩)
          | ((with_reducible refine (balanceI nk nx t1 (HR.out.below (bmore (by first | assumption | exact bdn _ _ | exact bd _ | exact Below.refl _ _) u1)) (by have := ZL.out; simp only [Tr.size] at hs; omega)).mono ?_); rintro e w2 ⟨p2, rfl, t2, u2⟩)))
      go_wp2_with fail
      go_ret
      exact ⟨_, rfl, t2, (bmore (bmore (by first | assumption | exact bdn _ _ | exact bd _ | exact Below.refl _ _) u1) u2)⟩
    · by_cases hC : KOrd.lt nk k = true
      · have HC := Lib.hid hC
        rw [Tr.find, if_neg hA, if_pos hC] at hf
        have HF := Lib.hid hf
        rw [Tr.drop, if_neg hA, if_pos hC]
        clear hA hC hf
        go_enter Try.func101, Try.ntmps101
        go_wp2_with fail
        refine (cmpGI _ HC.out).mono ?_
        rintro e w0 ⟨rfl, rfl⟩
        go_wp2_with fail
        have hk : ∀ w' : World, Below w.heap.size w w' → w'.cell? ⟨b, 0, none⟩ = some (.int .i64 nk) ∧ w'.cell? ⟨b, 1, none⟩ = some (.int .i64 nx) ∧ w'.cell? ⟨b, 2, none⟩ = some (.pointer vl) ∧ w'.cell? ⟨b, 3, none⟩ = some (.pointer vr) ∧ Below w.heap.size w w' := fun w' hb => ⟨bcellAt hb c0, bcellAt hb cx, bcellAt hb cl, bcellAt hb cr, hb⟩
        have HK := Lib.hid hk
        clear hk
        go_region_held3 (fun w' => w'.cell? ⟨b, 0, none⟩ = some (.int .i64 nk) ∧ w'.cell? ⟨b, 1, none⟩ = some (.int .i64 nx) ∧ w'.cell? ⟨b, 2, none⟩ = some (.pointer vl) ∧ w'.cell? ⟨b, 3, none⟩ = some (.pointer vr) ∧ Below w.heap.size w w') ((refine HK.out _ ?_; first | exact bdd _ _ | exact bd _ | exact (bmore (by first | assumption | exact bdn _ _ | exact bd _ | exact Below.refl _ _) u1) | exact (bmore (bmore (by first | assumption | exact bdn _ _ | exact bd _ | exact Below.refl _ _) u1) u2) ))
          ((first
            | ((with_reducible refine (IR.out _ _ (HR.out.below (by first | assumption | exact bdn _ _ | exact bd _ | exact Below.refl _ _)) (by simp only [Tr.size] at hs; omega) HF.out).mono ?_); rintro e w1 ⟨p1, rfl, t1, u1⟩)
            | ((with_reducible refine (balanceI nk nx (HL.out.below (bmore (by first | assumption | exact bdn _ _ | exact bd _ | exact Below.refl _ _) u1)) t1 (by have := ZR.out; simp only [Tr.size] at hs; omega)).mono ?_); rintro e w2 ⟨p2, rfl, t2, u2⟩)))
        go_wp2_with fail
        go_ret
        exact ⟨_, rfl, t2, (bmore (bmore (by first | assumption | exact bdn _ _ | exact bd _ | exact Below.refl _ _) u1) u2)⟩
      · have e : k = nk := KOrd.tri (by simpa using hA) (by simpa using hC)
        rw [Tr.drop, if_neg hA, if_neg hC]
        clear hA hC hf
        subst e
        go_enter Try.func101, Try.ntmps101
        go_wp2_with fail
        refine (cmpEI _ _).mono ?_
        rintro e w0 ⟨rfl, rfl⟩
        go_wp2_with fail
        have hk : ∀ w' : World, Below w.heap.size w w' → w'.cell? ⟨b, 2, none⟩ = some (.pointer vl) ∧ w'.cell? ⟨b, 3, none⟩ = some (.pointer vr) ∧ Below w.heap.size w w' := fun w' hb => ⟨bcellAt hb cl, bcellAt hb cr, hb⟩
        have HK := Lib.hid hk
        clear hk
        go_region_held3 (fun w' => w'.cell? ⟨b, 2, none⟩ = some (.pointer vl) ∧ w'.cell? ⟨b, 3, none⟩ = some (.pointer vr) ∧ Below w.heap.size w w') ((refine HK.out _ ?_; first | exact bdd _ _ | exact bd _ | exact (bmore (by first | assumption | exact bdn _ _ | exact bd _ | exact Below.refl _ _) u1) ))
          ((first
            | ((with_reducible refine (glueI (HL.out.below (by first | assumption | exact bdn _ _ | exact bd _ | exact Below.refl _ _)) (HR.out.below (by first | assumption | exact bdn _ _ | exact bd _ | exact Below.refl _ _)) (by simp only [Tr.size] at hs; omega)).mono ?_); rintro e w1 ⟨p1, rfl, t1, u1⟩)))
        go_wp2_with fail
        go_ret
        exact ⟨_, rfl, t1, (bmore (by first | assumption | exact bdn _ _ | exact bd _ | exact Below.refl _ _) u1)⟩
end Go.Proofs.Ytbgnedeeeaapfaa
