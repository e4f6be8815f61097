/-
  The two turns of a tree in memory (int64,Map[int,int]), and balance.
-/
import Derived.Test.YtbgnedeeeaapfaaKTL
namespace Go.Proofs.Ytbgnedeeeaapfaa
open Go.RowKit
set_option linter.unusedVariables false
theorem IsTL.drewN {w : World} {v : Value} {t : Tr Int (Option Addr)} (h : IsTL w v t) (n : Nat) : IsTL (w.drewN n) v t := IsTL.hold (w := w) (w' := w.drewN n) (fun b cs hb => hb) h
set_option maxRecDepth 100000 in
set_option maxHeartbeats 1600000 in
theorem turnRL {w : World} {vl vr : Value} {l r : Tr Int (Option Addr)} (k : Int) (x : Option Addr) (hl : IsTL w vl l) (hr : IsTL w vr r) (hs : l.size + r.size < 900000) (hne : 0 < l.height) :
    Calls Try.prog 114 #[vl, .agg #[.int .i64 k, .pointer x], vr] w (MadeL (Tr.turnR l k x r) w) := by
  obtain ⟨vl', rfl⟩ := hl.shape
  obtain ⟨vr', rfl⟩ := hr.shape
  cases l with
  | nil => simp [Tr.height] at hne
  | node nl nk nx nr =>
    obtain ⟨b, vnl, vnr, hbv, hb, hnl, hnr⟩ := hl
    obtain rfl : vl' = some ⟨b, 0, none⟩ := by simpa using hbv
    clear hbv
    obtain ⟨vnl, rfl⟩ := hnl.shape
    obtain ⟨vnr, rfl⟩ := hnr.shape
    have b0 : Below w.heap.size w (w.alloc (.cells #[.int .i64 k, .pointer x] 145)) := (Below.refl _ _).alloc (Nat.le_refl _) _
    have z : (w.alloc (.cells #[.int .i64 k, .pointer x] 145)).heap[w.heap.size]? = some (Obj.cells #[.int .i64 k, .pointer x] 145) := heap_alloc_new w _
    have z0 : (w.alloc (.cells #[.int .i64 k, .pointer x] 145)).cell? ⟨w.heap.size, 0, none⟩ = some (.int .i64 k) := cellB z rfl
    have z1 : (w.alloc (.cells #[.int .i64 k, .pointer x] 145)).cell? ⟨w.heap.size, 1, none⟩ = some (.pointer x) := cellB z rfl
    clear z
    have hll := hnl.below b0
    have hlr := hnr.below b0
    have hr' := hr.below b0
    have hb' := (Hold.below b0) _ _ hb
    clear hb hnl hnr hr
    obtain ⟨c0, cx, cl, cr, cs, ch⟩ := nodeCL (x := nx) hb'
    clear hb'
    by_cases hh : nl.height < nr.height
    · cases nr with
      | nil => simp [Tr.height] at hh
      | node il ik ix ir =>
        have hd : decide (nl.height < (Tr.node il ik ix ir).height) = true := by simpa using hh
        have HD := Lib.hid hh
        have hin' := hlr
        obtain ⟨c, vil, vir, hcv, hc, hil, hir⟩ := hlr
        obtain rfl : vnr = some ⟨c, 0, none⟩ := by simpa using hcv
        clear hcv
        obtain ⟨vil, rfl⟩ := hil.shape
        obtain ⟨vir, rfl⟩ := hir.shape
        obtain ⟨ic0, icx, icl, icr, ics, ich⟩ := nodeCL (x := ix) hc
        have eqv : Tr.turnR (Tr.node nl nk nx (Tr.node il ik ix ir)) k x (r) = Tr.node (Tr.node nl nk nx il) ik ix (Tr.node ir k x r) := Tr.turnR_in HD.out
        rw [eqv]
        clear hh eqv hc
        go_enter Try.func114, Try.ntmps114
        go_wp2_with fail
        generalize (w.alloc (.cells #[.int .i64 k, .pointer x] 145)) = W at *
        go_quiet (first
          | exact Calls.quiet_of_same (still_of (heightL (hin'.drewN _)))
          | exact Calls.quiet_of_same (still_of (heightL (hll.drewN _))))
        go_wp2_with fail
        have hd2 := Lib.hid hd
        clear hd hin'
        have HNO := Lib.hid hll
        have HIL := Lib.hid hil
        have HIR := Lib.hid hir
        have HOT := Lib.hid hr'
        clear hll hil hir hr'
        have hk : ∀ w' : World, Below W.heap.size W w' → w'.cell? ⟨w.heap.size, 0, none⟩ = some (.int .i64 k) ∧ w'.cell? ⟨w.heap.size, 1, none⟩ = some (.pointer x) ∧ w'.cell? ⟨b, 0, none⟩ = some (.int .i64 nk) ∧ w'.cell? ⟨b, 1, none⟩ = some (.pointer nx) ∧ w'.cell? ⟨b, 2, none⟩ = some (.pointer vnl) ∧ w'.cell? ⟨c, 0, none⟩ = some (.int .i64 ik) ∧ w'.cell? ⟨c, 1, none⟩ = some (.pointer ix) ∧ w'.cell? ⟨c, 2, none⟩ = some (.pointer vil) ∧ w'.cell? ⟨c, 3, none⟩ = some (.pointer vir) ∧ Below W.heap.size W w' := fun w' hb => ⟨bcellAt hb z0, bcellAt hb z1, bcellAt hb c0, bcellAt hb cx, bcellAt hb cl, bcellAt hb ic0, bcellAt hb icx, bcellAt hb icl, bcellAt hb icr, hb⟩
        have HK := Lib.hid hk
        clear hk
        go_region_held3 (fun w' => w'.cell? ⟨w.heap.size, 0, none⟩ = some (.int .i64 k) ∧ w'.cell? ⟨w.heap.size, 1, none⟩ = some (.pointer x) ∧ w'.cell? ⟨b, 0, none⟩ = some (.int .i64 nk) ∧ w'.cell? ⟨b, 1, none⟩ = some (.pointer nx) ∧ w'.cell? ⟨b, 2, none⟩ = some (.pointer vnl) ∧ w'.cell? ⟨c, 0, none⟩ = some (.int .i64 ik) ∧ w'.cell? ⟨c, 1, none⟩ = some (.pointer ix) ∧ w'.cell? ⟨c, 2, none⟩ = some (.pointer vil) ∧ w'.cell? ⟨c, 3, none⟩ = some (.pointer vir) ∧ Below W.heap.size W w') ((refine HK.out _ ?_; first | exact bdd _ _ | exact bd _ | exact (bmore (by first | assumption | exact bdn _ _ | exact bd _ | exact Below.refl _ _) u1) | exact (bmore (bmore (by first | assumption | exact bdn _ _ | exact bd _ | exact Below.refl _ _) u1) u2) | exact (bmore (bmore (bmore (by first | assumption | exact bdn _ _ | exact bd _ | exact Below.refl _ _) u1) u2) u3) ))
          ((first
            | ((with_reducible refine (growL nk nx (HNO.out.below (by first | assumption | exact bdn _ _ | exact bd _ | exact Below.refl _ _)) (HIL.out.below (by first | assumption | exact bdn _ _ | exact bd _ | exact Below.refl _ _)) (by simp only [Tr.size] at hs ⊢; omega)).mono ?_); rintro e w1 ⟨p1, rfl, t1, u1⟩)
            | ((with_reducible refine (growL k x (HIR.out.below (bmore (by first | assumption | exact bdn _ _ | exact bd _ | exact Below.refl _ _) u1)) (HOT.out.below (bmore (by first | assumption | exact bdn _ _ | exact bd _ | exact Below.refl _ _) u1)) (by simp only [Tr.size] at hs ⊢; omega)).mono ?_); rintro e w2 ⟨p2, rfl, t2, u2⟩)
            | ((with_reducible refine (growL ik ix (t1.below u2) t2 (by simp only [Tr.size] at hs ⊢; omega)).mono ?_); rintro e w3 ⟨p3, rfl, t3, u3⟩)))
        go_wp2_with fail
        go_ret
        exact ⟨_, rfl, t3, b0.trans (((bmore (bmore (bmore (by first | assumption | exact bdn _ _ | exact bd _ | exact Below.refl _ _) u1) u2) u3)).mono b0.size)⟩
    · have hd : decide (nl.height < nr.height) = false := by simpa using hh
      have HD := Lib.hid hh
      have eqv : Tr.turnR (Tr.node nl nk nx nr) k x (r) = Tr.node nl nk nx (Tr.node nr k x r) := Tr.turnR_out HD.out
      rw [eqv]
      clear hh eqv
      go_enter Try.func114, Try.ntmps114
      go_wp2_with fail
      generalize (w.alloc (.cells #[.int .i64 k, .pointer x] 145)) = W at *
      go_quiet (first
        | exact Calls.quiet_of_same (still_of (heightL (hlr.drewN _)))
        | exact Calls.quiet_of_same (still_of (heightL (hll.drewN _))))
      go_wp2_with fail
      have hd2 := Lib.hid hd
      clear hd
      have HNL := Lib.hid hll
      have HNR := Lib.hid hlr
      have HOT := Lib.hid hr'
      clear hll hlr hr'
      have hk : ∀ w' : World, Below W.heap.size W w' → w'.cell? ⟨w.heap.size, 0, none⟩ = some (.int .i64 k) ∧ w'.cell? ⟨w.heap.size, 1, none⟩ = some (.pointer x) ∧ w'.cell? ⟨b, 0, none⟩ = some (.int .i64 nk) ∧ w'.cell? ⟨b, 1, none⟩ = some (.pointer nx) ∧ w'.cell? ⟨b, 2, none⟩ = some (.pointer vnl) ∧ Below W.heap.size W w' := fun w' hb => ⟨bcellAt hb z0, bcellAt hb z1, bcellAt hb c0, bcellAt hb cx, bcellAt hb cl, hb⟩
      have HK := Lib.hid hk
      clear hk
      go_region_held3 (fun w' => w'.cell? ⟨w.heap.size, 0, none⟩ = some (.int .i64 k) ∧ w'.cell? ⟨w.heap.size, 1, none⟩ = some (.pointer x) ∧ w'.cell? ⟨b, 0, none⟩ = some (.int .i64 nk) ∧ w'.cell? ⟨b, 1, none⟩ = some (.pointer nx) ∧ w'.cell? ⟨b, 2, none⟩ = some (.pointer vnl) ∧ Below W.heap.size W w') ((refine HK.out _ ?_; first | exact bdd _ _ | exact bd _ | exact (bmore (by first | assumption | exact bdn _ _ | exact bd _ | exact Below.refl _ _) u1) | exact (bmore (bmore (by first | assumption | exact bdn _ _ | exact bd _ | exact Below.refl _ _) u1) u2) ))
        ((first
          | ((with_reducible refine (growL k x (HNR.out.below (by first | assumption | exact bdn _ _ | exact bd _ | exact Below.refl _ _)) (HOT.out.below (by first | assumption | exact bdn _ _ | exact bd _ | exact Below.refl _ _)) (by simp only [Tr.size] at hs ⊢; omega)).mono ?_); rintro e w1 ⟨p1, rfl, t1, u1⟩)
          | ((with_reducible refine (growL nk nx (HNL.out.below (bmore (by first | assumption | exact bdn _ _ | exact bd _ | exact Below.refl _ _) u1)) t1 (by simp only [Tr.size] at hs ⊢; omega)).mono ?_); rintro e w2 ⟨p2, rfl, t2, u2⟩)))
      go_wp2_with fail
      go_ret
      exact ⟨_, rfl, t2, b0.trans (((bmore (bmore (by first | assumption | exact bdn _ _ | exact bd _ | exact Below.refl _ _) u1) u2)).mono b0.size)⟩
set_option maxRecDepth 100000 in
set_option maxHeartbeats 1600000 in
theorem turnLL {w : World} {vl vr : Value} {l r : Tr Int (Option Addr)} (k : Int) (x : Option Addr) (hl : IsTL w vl l) (hr : IsTL w vr r) (hs : l.size + r.size < 900000) (hne : 0 < r.height) :
    Calls Try.prog 115 #[vl, .agg #[.int .i64 k, .pointer x], vr] w (MadeL (Tr.turnL l k x r) w) := by
  obtain ⟨vl', rfl⟩ := hl.shape
  obtain ⟨vr', rfl⟩ := hr.shape
  cases r with
  | nil => simp [Tr.height] at hne
  | node nl nk nx nr =>
    obtain ⟨b, vnl, vnr, hbv, hb, hnl, hnr⟩ := hr
    obtain rfl : vr' = some ⟨b, 0, none⟩ := by simpa using hbv
    clear hbv
    obtain ⟨vnl, rfl⟩ := hnl.shape
    obtain ⟨vnr, rfl⟩ := hnr.shape
    have b0 : Below w.heap.size w (w.alloc (.cells #[.int .i64 k, .pointer x] 145)) := (Below.refl _ _).alloc (Nat.le_refl _) _
    have z : (w.alloc (.cells #[.int .i64 k, .pointer x] 145)).heap[w.heap.size]? = some (Obj.cells #[.int .i64 k, .pointer x] 145) := heap_alloc_new w _
    have z0 : (w.alloc (.cells #[.int .i64 k, .pointer x] 145)).cell? ⟨w.heap.size, 0, none⟩ = some (.int .i64 k) := cellB z rfl
    have z1 : (w.alloc (.cells #[.int .i64 k, .pointer x] 145)).cell? ⟨w.heap.size, 1, none⟩ = some (.pointer x) := cellB z rfl
    clear z
    have hrl := hnl.below b0
    have hrr := hnr.below b0
    have hl' := hl.below b0
    have hb' := (Hold.below b0) _ _ hb
    clear hb hnl hnr hl
    obtain ⟨c0, cx, cl, cr, cs, ch⟩ := nodeCL (x := nx) hb'
    clear hb'
    by_cases hh : nr.height < nl.height
    · cases nl with
      | nil => simp [Tr.height] at hh
      | node il ik ix ir =>
        have hd : decide (nr.height < (Tr.node il ik ix ir).height) = true := by simpa using hh
        have HD := Lib.hid hh
        have hin' := hrl
        obtain ⟨c, vil, vir, hcv, hc, hil, hir⟩ := hrl
        obtain rfl : vnl = some ⟨c, 0, none⟩ := by simpa using hcv
        clear hcv
        obtain ⟨vil, rfl⟩ := hil.shape
        obtain ⟨vir, rfl⟩ := hir.shape
        obtain ⟨ic0, icx, icl, icr, ics, ich⟩ := nodeCL (x := ix) hc
        have eqv : Tr.turnL (l) k x (Tr.node (Tr.node il ik ix ir) nk nx nr) = Tr.node (Tr.node l k x il) ik ix (Tr.node ir nk nx nr) := Tr.turnL_in HD.out
        rw [eqv]
        clear hh eqv hc
        go_enter Try.func115, Try.ntmps115
        go_wp2_with fail
        generalize (w.alloc (.cells #[.int .i64 k, .pointer x] 145)) = W at *
        go_quiet (first
          | exact Calls.quiet_of_same (still_of (heightL (hin'.drewN _)))
          | exact Calls.quiet_of_same (still_of (heightL (hrr.drewN _))))
        go_wp2_with fail
        have hd2 := Lib.hid hd
        clear hd hin'
        have HNO := Lib.hid hrr
        have HIL := Lib.hid hil
        have HIR := Lib.hid hir
        have HOT := Lib.hid hl'
        clear hrr hil hir hl'
        have hk : ∀ w' : World, Below W.heap.size W w' → w'.cell? ⟨w.heap.size, 0, none⟩ = some (.int .i64 k) ∧ w'.cell? ⟨w.heap.size, 1, none⟩ = some (.pointer x) ∧ w'.cell? ⟨b, 0, none⟩ = some (.int .i64 nk) ∧ w'.cell? ⟨b, 1, none⟩ = some (.pointer nx) ∧ w'.cell? ⟨b, 3, none⟩ = some (.pointer vnr) ∧ w'.cell? ⟨c, 0, none⟩ = some (.int .i64 ik) ∧ w'.cell? ⟨c, 1, none⟩ = some (.pointer ix) ∧ w'.cell? ⟨c, 2, none⟩ = some (.pointer vil) ∧ w'.cell? ⟨c, 3, none⟩ = some (.pointer vir) ∧ Below W.heap.size W w' := fun w' hb => ⟨bcellAt hb z0, bcellAt hb z1, bcellAt hb c0, bcellAt hb cx, bcellAt hb cr, bcellAt hb ic0, bcellAt hb icx, bcellAt hb icl, bcellAt hb icr, hb⟩
        have HK := Lib.hid hk
        clear hk
        go_region_held3 (fun w' => w'.cell? ⟨w.heap.size, 0, none⟩ = some (.int .i64 k) ∧ w'.cell? ⟨w.heap.size, 1, none⟩ = some (.pointer x) ∧ w'.cell? ⟨b, 0, none⟩ = some (.int .i64 nk) ∧ w'.cell? ⟨b, 1, none⟩ = some (.pointer nx) ∧ w'.cell? ⟨b, 3, none⟩ = some (.pointer vnr) ∧ w'.cell? ⟨c, 0, none⟩ = some (.int .i64 ik) ∧ w'.cell? ⟨c, 1, none⟩ = some (.pointer ix) ∧ w'.cell? ⟨c, 2, none⟩ = some (.pointer vil) ∧ w'.cell? ⟨c, 3, none⟩ = some (.pointer vir) ∧ Below W.heap.size W w') ((refine HK.out _ ?_; first | exact bdd _ _ | exact bd _ | exact (bmore (by first | assumption | exact bdn _ _ | exact bd _ | exact Below.refl _ _) u1) | exact (bmore (bmore (by first | assumption | exact bdn _ _ | exact bd _ | exact Below.refl _ _) u1) u2) | exact (bmore (bmore (bmore (by first | assumption | exact bdn _ _ | exact bd _ | exact Below.refl _ _) u1) u2) u3) ))
          ((first
            | ((with_reducible refine (growL k x (HOT.out.below (by first | assumption | exact bdn _ _ | exact bd _ | exact Below.refl _ _)) (HIL.out.below (by first | assumption | exact bdn _ _ | exact bd _ | exact Below.refl _ _)) (by simp only [Tr.size] at hs ⊢; omega)).mono ?_); rintro e w1 ⟨p1, rfl, t1, u1⟩)
            | ((with_reducible refine (growL nk nx (HIR.out.below (bmore (by first | assumption | exact bdn _ _ | exact bd _ | exact Below.refl _ _) u1)) (HNO.out.below (bmore (by first | assumption | exact bdn _ _ | exact bd _ | exact Below.refl _ _) u1)) (by simp only [Tr.size] at hs ⊢; omega)).mono ?_); rintro e w2 ⟨p2, rfl, t2, u2⟩)
            | ((with_reducible refine (growL ik ix (t1.below u2) t2 (by simp only [Tr.size] at hs ⊢; omega)).mono ?_); rintro e w3 ⟨p3, rfl, t3, u3⟩)))
        go_wp2_with fail
        go_ret
        exact ⟨_, rfl, t3, b0.trans (((bmore (bmore (bmore (by first | assumption | exact bdn _ _ | exact bd _ | exact Below.refl _ _) u1) u2) u3)).mono b0.size)⟩
    · have hd : decide (nr.height < nl.height) = false := by simpa using hh
      have HD := Lib.hid hh
      have eqv : Tr.turnL (l) k x (Tr.node nl nk nx nr) = Tr.node (Tr.node l k x nl) nk nx nr := Tr.turnL_out HD.out
      rw [eqv]
      clear hh eqv
      go_enter Try.func115, Try.ntmps115
      go_wp2_with fail
      generalize (w.alloc (.cells #[.int .i64 k, .pointer x] 145)) = W at *
      go_quiet (first
        | exact Calls.quiet_of_same (still_of (heightL (hrr.drewN _)))
        | exact Calls.quiet_of_same (still_of (heightL (hrl.drewN _))))
      go_wp2_with fail
      have hd2 := Lib.hid hd
      clear hd
      have HNL := Lib.hid hrl
      have HNR := Lib.hid hrr
      have HOT := Lib.hid hl'
      clear hrl hrr hl'
      have hk : ∀ w' : World, Below W.heap.size W w' → w'.cell? ⟨w.heap.size, 0, none⟩ = some (.int .i64 k) ∧ w'.cell? ⟨w.heap.size, 1, none⟩ = some (.pointer x) ∧ w'.cell? ⟨b, 0, none⟩ = some (.int .i64 nk) ∧ w'.cell? ⟨b, 1, none⟩ = some (.pointer nx) ∧ w'.cell? ⟨b, 3, none⟩ = some (.pointer vnr) ∧ Below W.heap.size W w' := fun w' hb => ⟨bcellAt hb z0, bcellAt hb z1, bcellAt hb c0, bcellAt hb cx, bcellAt hb cr, hb⟩
      have HK := Lib.hid hk
      clear hk
      go_region_held3 (fun w' => w'.cell? ⟨w.heap.size, 0, none⟩ = some (.int .i64 k) ∧ w'.cell? ⟨w.heap.size, 1, none⟩ = some (.pointer x) ∧ w'.cell? ⟨b, 0, none⟩ = some (.int .i64 nk) ∧ w'.cell? ⟨b, 1, none⟩ = some (.pointer nx) ∧ w'.cell? ⟨b, 3, none⟩ = some (.pointer vnr) ∧ Below W.heap.size W w') ((refine HK.out _ ?_; first | exact bdd _ _ | exact bd _ | exact (bmore (by first | assumption | exact bdn _ _ | exact bd _ | exact Below.refl _ _) u1) | exact (bmore (bmore (by first | assumption | exact bdn _ _ | exact bd _ | exact Below.refl _ _) u1) u2) ))
        ((first
          | ((with_reducible refine (growL k x (HOT.out.below (by first | assumption | exact bdn _ _ | exact bd _ | exact Below.refl _ _)) (HNL.out.below (by first | assumption | exact bdn _ _ | exact bd _ | exact Below.refl _ _)) (by simp only [Tr.size] at hs ⊢; omega)).mono ?_); rintro e w1 ⟨p1, rfl, t1, u1⟩)
          | ((with_reducible refine (growL nk nx t1 (HNR.out.below (bmore (by first | assumption | exact bdn _ _ | exact bd _ | exact Below.refl _ _) u1)) (by simp only [Tr.size] at hs ⊢; omega)).mono ?_); rintro e w2 ⟨p2, rfl, t2, u2⟩)))
      go_wp2_with fail
      go_ret
      exact ⟨_, rfl, t2, b0.trans (((bmore (bmore (by first | assumption | exact bdn _ _ | exact bd _ | exact Below.refl _ _) u1) u2)).mono b0.size)⟩
set_option maxRecDepth 100000 in
set_option maxHeartbeats 1600000 in
theorem balanceL {w : World} {vl vr : Value} {l r : Tr Int (Option Addr)} (k : Int) (x : Option Addr) (hl : IsTL w vl l) (hr : IsTL w vr r) (hs : l.size + r.size < 900000) :
    Calls Try.prog 106 #[vl, .agg #[.int .i64 k, .pointer x], vr] w (MadeL (Tr.balance l k x r) w) := by
  obtain ⟨vl', rfl⟩ := hl.shape
  obtain ⟨vr', rfl⟩ := hr.shape
  have h1 := Tr.height_le l
  have h2 := Tr.height_le r
  have b0 : Below w.heap.size w (w.alloc (.cells #[.int .i64 k, .pointer x] 145)) := (Below.refl _ _).alloc (Nat.le_refl _) _
  have z : (w.alloc (.cells #[.int .i64 k, .pointer x] 145)).heap[w.heap.size]? = some (Obj.cells #[.int .i64 k, .pointer x] 145) := heap_alloc_new w _
  have z0 : (w.alloc (.cells #[.int .i64 k, .pointer x] 145)).cell? ⟨w.heap.size, 0, none⟩ = some (.int .i64 k) := cellB z rfl
  have z1 : (w.alloc (.cells #[.int .i64 k, .pointer x] 145)).cell? ⟨w.heap.size, 1, none⟩ = some (.pointer x) := cellB z rfl
  clear z
  have hl' := hl.below b0
  have hr' := hr.below b0
  have HB := Lib.hid b0
  clear hl hr
  by_cases hA : r.height + 1 < l.height
  · have eqv : Tr.balance l k x r = Tr.turnR l k x r := by unfold Tr.balance; rw [if_pos hA]
    rw [eqv]
    clear eqv
    go_enter Try.func106, Try.ntmps106
    go_wp2_with fail
    generalize (w.alloc (.cells #[.int .i64 k, .pointer x] 145)) = W at *
    refine (heightL hl').mono ?_
    rintro e w1 ⟨rfl, rfl⟩
    go_wp2_with fail
    refine (heightL hr').mono ?_
    rintro e w1 ⟨rfl, rfl⟩
    go_wp2_with fail
    refine (turnRL k x hl' hr' hs (by omega)).mono ?_
    rintro e w1 ⟨p1, rfl, t1, u1⟩
    go_wp2_with fail
    go_ret
    exact ⟨_, rfl, t1, HB.out.trans (u1.mono HB.out.size)⟩
  · by_cases hC : l.height + 1 < r.height
    · have eqv : Tr.balance l k x r = Tr.turnL l k x r := by unfold Tr.balance; rw [if_neg hA, if_pos hC]
      rw [eqv]
      clear eqv
      have hA' : ¬ ((r.height : Int) + 1 < (l.height : Int)) := by omega
      go_enter Try.func106, Try.ntmps106
      go_wp2_with fail
      generalize (w.alloc (.cells #[.int .i64 k, .pointer x] 145)) = W at *
      refine (heightL hl').mono ?_
      rintro e w1 ⟨rfl, rfl⟩
      go_wp2_with fail
      refine (heightL hr').mono ?_
      rintro e w1 ⟨rfl, rfl⟩
      go_wp2_with fail
      refine (heightL hr').mono ?_
      rintro e w1 ⟨rfl, rfl⟩
      go_wp2_with fail
      refine (heightL hl').mono ?_
      rintro e w1 ⟨rfl, rfl⟩
      go_wp2_with fail
      refine (turnLL k x hl' hr' hs (by omega)).mono ?_
      rintro e w1 ⟨p1, rfl, t1, u1⟩
      go_wp2_with fail
      go_ret
      exact ⟨_, rfl, t1, HB.out.trans (u1.mono HB.out.size)⟩
    · have eqv : Tr.balance l k x r = Tr.node l k x r := by unfold Tr.balance; rw [if_neg hA, if_neg hC]
      rw [eqv]
      clear eqv
      have hA' : ¬ ((r.height : Int) + 1 < (l.height : Int)) := by omega
      have hC' : ¬ ((l.height : Int) + 1 < (r.height : Int)) := by omega
      go_enter Try.func106, Try.ntmps106
      go_wp2_with fail
      generalize (w.alloc (.cells #[.int .i64 k, .pointer x] 145)) = W at *
      refine (heightL hl').mono ?_
      rintro e w1 ⟨rfl, rfl⟩
      go_wp2_with fail
      refine (heightL hr').mono ?_
      rintro e w1 ⟨rfl, rfl⟩
      go_wp2_with fail
      refine (heightL hr').mono ?_
      rintro e w1 ⟨rfl, rfl⟩
      go_wp2_with fail
      refine (heightL hl').mono ?_
      rintro e w1 ⟨rfl, rfl⟩
      go_wp2_with fail
      refine (growL k x hl' hr' (by omega)).mono ?_
      rintro e w1 ⟨p1, rfl, t1, u1⟩
      go_wp2_with fail
      go_ret
      exact ⟨_, rfl, t1, HB.out.trans (u1.mono HB.out.size)⟩
end Go.Proofs.Ytbgnedeeeaapfaa
