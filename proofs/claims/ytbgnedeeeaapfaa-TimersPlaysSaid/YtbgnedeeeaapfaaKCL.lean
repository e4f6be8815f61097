/-
  The first entry of a tree in memory (int64,Map[int,int]), a tree without it; join and glue.
-/
import Derived.Test.YtbgnedeeeaapfaaKBL
namespace Go.Proofs.Ytbgnedeeeaapfaa
open Go.RowKit
set_option linter.unusedVariables false
theorem cmpLL {a b : Int} (w : World) (h : KOrd.lt a b = true) : Calls Try.prog 104 #[.int .i64 a, .int .i64 b] w fun e w' => e = .returned (.int .i64 (-1)) ∧ w = w' := cmpJ_lt w (of_decide_eq_true h)
theorem cmpGL {a b : Int} (w : World) (h : KOrd.lt b a = true) : Calls Try.prog 104 #[.int .i64 a, .int .i64 b] w fun e w' => e = .returned (.int .i64 1) ∧ w = w' := cmpJ_gt w (of_decide_eq_true h)
theorem cmpEL (a : Int) (w : World) : Calls Try.prog 104 #[.int .i64 a, .int .i64 a] w fun e w' => e = .returned (.int .i64 0) ∧ w = w' := cmpJ_eq a w
/-- The size that stands in a node. -/
def sizeAtL (w : World) (v : Value) : Nat := match v with
  | .pointer (some a) => match w.cell? ⟨a.block, 4, none⟩ with
    | some (.int _ n) => n.toNat
    | _ => 0
  | _ => 0
theorem IsTL.sizeAt {w : World} {v : Value} {t : Tr Int (Option Addr)} (h : IsTL w v t) : sizeAtL w v = t.size := by
  cases t with
  | nil => obtain rfl := h; rfl
  | node l k x r =>
    obtain ⟨b, pl, pr, rfl, hb, _, _⟩ := h
    obtain ⟨c0, cx, cl, cr, cs, ch⟩ := nodeCL (x := x) hb
    simp only [sizeAtL, cs]
    rfl
/-- The block of a tree's first entry. -/
def fbAtL (w : World) : Value → Tr Int (Option Addr) → Nat
  | .pointer (some a), .node (.node p q s t) k x r => match w.cell? ⟨a.block, 2, none⟩ with
    | some v => fbAtL w v (.node p q s t)
    | none => 0
  | .pointer (some a), _ => a.block
  | _, _ => 0
theorem fbAtL_nil {w : World} {b : Nat} {k : Int} {x : Option Addr} {r : Tr Int (Option Addr)} : fbAtL w (.pointer (some ⟨b, 0, none⟩)) (.node .nil k x r) = b := by
  simp [fbAtL]
theorem fbAtL_node {w : World} {b : Nat} {pl : Value} {k q : Int} {x s : Option Addr} {r p t : Tr Int (Option Addr)} (h : w.cell? ⟨b, 2, none⟩ = some pl) : fbAtL w (.pointer (some ⟨b, 0, none⟩)) (.node (.node p q s t) k x r) = fbAtL w pl (.node p q s t) := by
  simp [fbAtL, h]
theorem fbAtL_cells {w : World} : ∀ {l : Tr Int (Option Addr)} {k : Int} {x : Option Addr} {r : Tr Int (Option Addr)} {v : Value}, IsTL w v (.node l k x r) → w.cell? ⟨fbAtL w v (Tr.node l k x r), 0, none⟩ = some (.int .i64 (Tr.firstOf l k x).1) ∧ w.cell? ⟨fbAtL w v (Tr.node l k x r), 1, none⟩ = some (.pointer (Tr.firstOf l k x).2) := by
  intro l
  induction l with
  | nil =>
    intro k x r v h
    obtain ⟨b, pl, pr, rfl, hb, _, _⟩ := h
    obtain ⟨c0, cx, cl, cr, cs, ch⟩ := nodeCL (x := x) hb
    rw [fbAtL_nil]
    exact ⟨c0, cx⟩
  | node p q s t ih _ =>
    intro k x r v h
    obtain ⟨b, pl, pr, rfl, hb, hl, _⟩ := h
    obtain ⟨c0, cx, cl, cr, cs, ch⟩ := nodeCL (x := x) hb
    rw [fbAtL_node cl]
    exact ih hl
set_option maxRecDepth 100000 in
set_option maxHeartbeats 800000 in
theorem firstL {w w1 : World} {v : Value} {l r : Tr Int (Option Addr)} {k : Int} {x : Option Addr} (h : IsTL w v (.node l k x r)) (hw : Below w.heap.size w w1) {FB : Nat} (hf : fbAtL w v (.node l k x r) = FB) :
    Calls Try.prog 124 #[v] w1 fun e w' => e = .returned (.pointer (some ⟨FB, 0, none⟩)) ∧ w1 = w' := by
  have HW := Lib.hid hw
  have HF := Lib.hid hf
  have H0 := Lib.hid h
  obtain ⟨pv, rfl⟩ := h.shape
  clear hw hf h
  go_enter Try.func124, Try.ntmps124
  go_wp2_with fail
  go_loop [0] (fun v => ∃ l k x r, IsTL w v (.node l k x r) ∧ fbAtL w v (.node l k x r) = FB) (fun v => sizeAtL w v)
  case atStart => exact ⟨l, k, x, r, H0.out, HF.out⟩
  case round =>
    obtain ⟨l', k', x', r', hl', hf'⟩ := hrel
    have HF' := Lib.hid hf'
    have HT := Lib.hid hl'
    clear hf'
    obtain ⟨b, pl, pr, rfl, hb, hll, hrr⟩ := hl'
    obtain ⟨pl, rfl⟩ := hll.shape
    have hb1 := Hold.below HW.out _ _ hb
    obtain ⟨c0, cx, cl, cr, cs, ch⟩ := nodeCL (x := x') hb1
    obtain ⟨dc0, dcx, dcl, dcr, dcs, dch⟩ := nodeCL (x := x') hb
    have DL := Lib.hid dcl
    clear dc0 dcx dcl dcr dcs dch hb hb1
    cases l' with
    | nil =>
      obtain rfl : pl = none := by simpa [IsTL] using hll
      have e2 := HF'.out
      rw [fbAtL_nil] at e2
      subst e2
      clear hrr
      go_wp2_with fail
      go_ret
      exact ⟨rfl, rfl⟩
    | node p q s t =>
      have e2 := HF'.out
      rw [fbAtL_node DL.out] at e2
      have E2 := Lib.hid e2
      have e3 := HT.out.sizeAt
      have e4 := hll.sizeAt
      have E3 := Lib.hid e3
      have E4 := Lib.hid e4
      have HLL := Lib.hid hll
      obtain ⟨b2, _, _, hbv, _⟩ := hll
      obtain rfl : pl = some ⟨b2, 0, none⟩ := by simpa using hbv
      clear e2 e3 e4 hbv
      go_wp2_with fail
      go_round
      case rel => exact ⟨p, q, s, t, HLL.out, E2.out⟩
      case measure => rw [E3.out, E4.out]; simp only [Tr.size]; omega
set_option maxRecDepth 100000 in
set_option maxHeartbeats 1600000 in
theorem dropFirst_allL : ∀ (l : Tr Int (Option Addr)) (w : World) (v : Value) (r : Tr Int (Option Addr)) (k : Int) (x : Option Addr) (h : IsTL w v (.node l k x r)) (hs : l.size + r.size < 800000),
    Calls Try.prog 125 #[v] w (MadeL (Tr.dropFirst (.node l k x r)) w) := by
  intro l
  induction l with
  | nil =>
    intro w v r k x h hs
    obtain ⟨b, pl, pr, rfl, hb, hll, hrr⟩ := h
    obtain rfl : pl = .pointer none := hll
    obtain ⟨pr, rfl⟩ := hrr.shape
    obtain ⟨c0, cx, cl, cr, cs, ch⟩ := nodeCL (x := x) hb
    have HR := Lib.hid hrr
    rw [Tr.dropFirst]
    clear hb hrr
    go_enter Try.func125, Try.ntmps125
    go_wp2_with fail
    go_ret
    exact ⟨_, rfl, HR.out, Below.refl _ _⟩
  | node nl nk nx nr ih _ =>
    intro w v r k x h hs
    obtain ⟨b, pl, pr, rfl, hb, hll, hrr⟩ := h
    obtain ⟨pr, rfl⟩ := hrr.shape
    have HL := Lib.hid hll
    have HR := Lib.hid hrr
    have IH := Lib.hid ih
    obtain ⟨b2, _, _, rfl, _⟩ := hll
    obtain ⟨c0, cx, cl, cr, cs, ch⟩ := nodeCL (x := x) hb
    rw [Tr.dropFirst]
    have hsz : (Tr.dropFirst (.node nl nk nx nr)).size = nl.size + nr.size := Tr.size_dropFirst nl nk nx nr
    have HZ := Lib.hid hsz
    clear hb hrr ih hsz
    go_enter Try.func125, Try.ntmps125
    go_wp2_with fail
    have hk : ∀ w' : World, Below w.heap.size w w' → w'.cell? ⟨b, 0, none⟩ = some (.int .i64 k) ∧ w'.cell? ⟨b, 1, none⟩ = some (.pointer x) ∧ w'.cell? ⟨b, 2, none⟩ = some (.pointer (some ⟨b2, 0, none⟩)) ∧ w'.cell? ⟨b, 3, none⟩ = some (.pointer pr) ∧ Below w.heap.size w w' := fun w' hb => ⟨bcellAt hb c0, bcellAt hb cx, bcellAt hb cl, bcellAt hb cr, hb⟩
    have HK := Lib.hid hk
    clear hk
    go_region_held3 (fun w' => w'.cell? ⟨b, 0, none⟩ = some (.int .i64 k) ∧ w'.cell? ⟨b, 1, none⟩ = some (.pointer x) ∧ w'.cell? ⟨b, 2, none⟩ = some (.pointer (some ⟨b2, 0, none⟩)) ∧ w'.cell? ⟨b, 3, none⟩ = some (.pointer pr) ∧ Below w.heap.size w w') ((refine HK.out _ ?_; first | exact bdd _ _ | exact bd _ | exact (bmore (by first | assumption | exact bdn _ _ | exact bd _ | exact Below.refl _ _) u1) | exact (bmore (bmore (by first | assumption | exact bdn _ _ | exact bd _ | exact Below.refl _ _) u1) u2) ))
      ((first
        | ((with_reducible refine (IH.out _ _ _ _ _ (HL.out.below (by first | assumption | exact bdn _ _ | exact bd _ | exact Below.refl _ _)) (by simp only [Tr.size] at hs ⊢; omega)).mono ?_); rintro e w1 ⟨p1, rfl, t1, u1⟩)
        | ((with_reducible refine (balanceL k x t1 (HR.out.below (bmore (by first | assumption | exact bdn _ _ | exact bd _ | exact Below.refl _ _) u1)) (by rw [HZ.out]; simp only [Tr.size] at hs ⊢; omega)).mono ?_); rintro e w2 ⟨p2, rfl, t2, u2⟩)))
    go_wp2_with fail
    go_ret
    exact ⟨_, rfl, t2, (bmore (bmore (by first | assumption | exact bdn _ _ | exact bd _ | exact Below.refl _ _) u1) u2)⟩
theorem dropFirstL {l : Tr Int (Option Addr)} {w : World} {v : Value} {r : Tr Int (Option Addr)} {k : Int} {x : Option Addr} (h : IsTL w v (.node l k x r)) (hs : l.size + r.size < 800000) :
    Calls Try.prog 125 #[v] w (MadeL (Tr.dropFirst (.node l k x r)) w) := dropFirst_allL l w v r k x h hs
set_option maxRecDepth 100000 in
set_option maxHeartbeats 1600000 in
theorem joinEvenL {w : World} {vl vr : Value} {l r : Tr Int (Option Addr)} (k : Int) (x : Option Addr) (hl : IsTL w vl l) (hr : IsTL w vr r) (hs : l.size + r.size < 700000) (hA : ¬ r.height + 1 < l.height) (hC : ¬ l.height + 1 < r.height) :
    Calls Try.prog 123 #[vl, .agg #[.int .i64 k, .pointer x], vr] w (MadeL (Tr.join l k x r) w) := by
  rw [Tr.join_even k x hA hC]
  obtain ⟨vl', rfl⟩ := hl.shape
  obtain ⟨vr', rfl⟩ := hr.shape
  have h1 := Tr.height_le l
  have h2 := Tr.height_le r
  have b0 : Below w.heap.size w (w.alloc (.cells #[.int .i64 k, .pointer x] 145)) := (Below.refl _ _).alloc (Nat.le_refl _) _
  have z : (w.alloc (.cells #[.int .i64 k, .pointer x] 145)).heap[w.heap.size]? = some (Obj.cells #[.int .i64 k, .pointer x] 145) := heap_alloc_new w _
  have z0 : (w.alloc (.cells #[.int .i64 k, .pointer x] 145)).cell? ⟨w.heap.size, 0, none⟩ = some (.int .i64 k) := cellB z rfl
  have z1 : (w.alloc (.cells #[.int .i64 k, .pointer x] 145)).cell? ⟨w.heap.size, 1, none⟩ = some (.pointer x) := cellB z rfl
  clear z
  have hl' := hl.below b0
  have hr' := hr.below b0
  have HB := Lib.hid b0
  clear hl hr
  have hA' : ¬ ((r.height : Int) + 1 < (l.height : Int)) := by omega
  have hC' : ¬ ((l.height : Int) + 1 < (r.height : Int)) := by omega
  go_enter Try.func123, Try.ntmps123
  go_wp2_with fail
  generalize (w.alloc (.cells #[.int .i64 k, .pointer x] 145)) = W at *
  refine (heightL hl').mono ?_
  rintro e w1 ⟨rfl, rfl⟩
  go_wp2_with fail
  refine (heightL hr').mono ?_
  rintro e w1 ⟨rfl, rfl⟩
  go_wp2_with fail
  refine (heightL hr').mono ?_
  rintro e w1 ⟨rfl, rfl⟩
  go_wp2_with fail
  refine (heightL hl').mono ?_
  rintro e w1 ⟨rfl, rfl⟩
  go_wp2_with fail
  refine (growL k x hl' hr' (by omega)).mono ?_
  rintro e w1 ⟨p1, rfl, t1, u1⟩
  go_wp2_with fail
  go_ret
  exact ⟨_, rfl, t1, HB.out.trans (u1.mono HB.out.size)⟩
set_option maxRecDepth 100000 in
set_option maxHeartbeats 1600000 in
theorem joinLeftL {w : World} {vl vr : Value} {nl nr r : Tr Int (Option Addr)} {nk : Int} {nx : Option Addr} (k : Int) (x : Option Addr) (hl : IsTL w vl (.node nl nk nx nr)) (hr : IsTL w vr r) (hs : (Tr.size (.node nl nk nx nr)) + (Tr.size r) < 700000) (hA : r.height + 1 < (Tr.node nl nk nx nr).height)
    (ih : ∀ (w' : World) (a b : Value), IsTL w' a nr → IsTL w' b r → Calls Try.prog 123 #[a, .agg #[.int .i64 k, .pointer x], b] w' (MadeL (Tr.join nr k x r) w')) :
    Calls Try.prog 123 #[vl, .agg #[.int .i64 k, .pointer x], vr] w (MadeL (Tr.join (.node nl nk nx nr) k x r) w) := by
  rw [Tr.join_left k x hA]
  have IH := Lib.hid ih
  obtain ⟨vl', rfl⟩ := hl.shape
  obtain ⟨vr', rfl⟩ := hr.shape
  have h1 := Tr.height_le (Tr.node nl nk nx nr)
  have h2 := Tr.height_le r
  have b0 : Below w.heap.size w (w.alloc (.cells #[.int .i64 k, .pointer x] 145)) := (Below.refl _ _).alloc (Nat.le_refl _) _
  have z : (w.alloc (.cells #[.int .i64 k, .pointer x] 145)).heap[w.heap.size]? = some (Obj.cells #[.int .i64 k, .pointer x] 145) := heap_alloc_new w _
  have z0 : (w.alloc (.cells #[.int .i64 k, .pointer x] 145)).cell? ⟨w.heap.size, 0, none⟩ = some (.int .i64 k) := cellB z rfl
  have z1 : (w.alloc (.cells #[.int .i64 k, .pointer x] 145)).cell? ⟨w.heap.size, 1, none⟩ = some (.pointer x) := cellB z rfl
  clear z
  have hl' := hl.below b0
  have hr' := hr.below b0
  have HB := Lib.hid b0
  have HND := Lib.hid hl'
  have HOT := Lib.hid hr'
  clear hl hr ih b0
  obtain ⟨b, vnl, vnr, hbv, hb, hnl, hnr⟩ := HND.out
  obtain rfl : vl' = some ⟨b, 0, none⟩ := by simpa using hbv
  clear hbv
  obtain ⟨vnl, rfl⟩ := hnl.shape
  obtain ⟨vnr, rfl⟩ := hnr.shape
  have HNL := Lib.hid hnl
  have HNR := Lib.hid hnr
  obtain ⟨c0, cx, cl, cr, cs, ch⟩ := nodeCL (x := nx) hb
  clear hb hnl hnr
  have hsj : (Tr.join nr k x r).size = _ := Tr.size_join _ _ _ _
  have HSJ := Lib.hid hsj
  clear hsj
  
  go_enter Try.func123, Try.ntmps123
  go_wp2_with fail
  generalize (w.alloc (.cells #[.int .i64 k, .pointer x] 145)) = W at *
  refine (heightL hl').mono ?_
  rintro e w1 ⟨rfl, rfl⟩
  go_wp2_with fail
  refine (heightL hr').mono ?_
  rintro e w1 ⟨rfl, rfl⟩
  go_wp2_with fail
  clear hl' hr'
  have hk : ∀ w' : World, Below W.heap.size W w' → w'.cell? ⟨w.heap.size, 0, none⟩ = some (.int .i64 k) ∧ w'.cell? ⟨w.heap.size, 1, none⟩ = some (.pointer x) ∧ w'.cell? ⟨b, 0, none⟩ = some (.int .i64 nk) ∧ w'.cell? ⟨b, 1, none⟩ = some (.pointer nx) ∧ w'.cell? ⟨b, 2, none⟩ = some (.pointer vnl) ∧ w'.cell? ⟨b, 3, none⟩ = some (.pointer vnr) ∧ Below W.heap.size W w' := fun w' hb => ⟨bcellAt hb z0, bcellAt hb z1, bcellAt hb c0, bcellAt hb cx, bcellAt hb cl, bcellAt hb cr, hb⟩
  have HK := Lib.hid hk
  clear hk
  go_region_held3 (fun w' => w'.cell? ⟨w.heap.size, 0, none⟩ = some (.int .i64 k) ∧ w'.cell? ⟨w.heap.size, 1, none⟩ = some (.pointer x) ∧ w'.cell? ⟨b, 0, none⟩ = some (.int .i64 nk) ∧ w'.cell? ⟨b, 1, none⟩ = some (.pointer nx) ∧ w'.cell? ⟨b, 2, none⟩ = some (.pointer vnl) ∧ w'.cell? ⟨b, 3, none⟩ = some (.pointer vnr) ∧ Below W.heap.size W w') ((refine HK.out _ ?_; first | exact bdd _ _ | exact bd _ | exact (bmore (by first | assumption | exact bdn _ _ | exact bd _ | exact Below.refl _ _) u1) | exact (bmore (bmore (by first | assumption | exact bdn _ _ | exact bd _ | exact Below.refl _ _) u1) u2) ))
    ((first
      | ((with_reducible refine (IH.out _ _ _ (HNR.out.below (by first | assumption | exact bdn _ _ | exact bd _ | exact Below.refl _ _)) (HOT.out.below (by first | assumption | exact bdn _ _ | exact bd _ | exact Below.refl _ _))).mono ?_); rintro e w1 ⟨p1, rfl, t1, u1⟩)
      | ((with_reducible refine (balanceL nk nx (HNL.out.below (bmore (by first | assumption | exact bdn _ _ | exact bd _ | exact Below.refl _ _) u1)) t1 (by rw [HSJ.out]; simp only [Tr.size] at hs ⊢; omega)).mono ?_); rintro e w2 ⟨p2, rfl, t2, u2⟩)))
  go_wp2_with fail
  go_ret
  exact ⟨_, rfl, t2, HB.out.trans (((bmore (bmore (by first | assumption | exact bdn _ _ | exact bd _ | exact Below.refl _ _) u1) u2)).mono HB.out.size)⟩
set_option maxRecDepth 100000 in
set_option maxHeartbeats 1600000 in
theorem joinRightL {w : World} {vl vr : Value} {l nl nr : Tr Int (Option Addr)} {nk : Int} {nx : Option Addr} (k : Int) (x : Option Addr) (hl : IsTL w vl l) (hr : IsTL w vr (.node nl nk nx nr)) (hs : (Tr.size l) + (Tr.size (.node nl nk nx nr)) < 700000) (hA : l.height + 1 < (Tr.node nl nk nx nr).height)
    (ih : ∀ (w' : World) (a b : Value), IsTL w' a l → IsTL w' b nl → Calls Try.prog 123 #[a, .agg #[.int .i64 k, .pointer x], b] w' (MadeL (Tr.join l k x nl) w')) :
    Calls Try.prog 123 #[vl, .agg #[.int .i64 k, .pointer x], vr] w (MadeL (Tr.join l k x (.node nl nk nx nr)) w) := by
  rw [Tr.join_right k x hA]
  have IH := Lib.hid ih
  obtain ⟨vl', rfl⟩ := hl.shape
  obtain ⟨vr', rfl⟩ := hr.shape
  have h1 := Tr.height_le (Tr.node nl nk nx nr)
  have h2 := Tr.height_le l
  have b0 : Below w.heap.size w (w.alloc (.cells #[.int .i64 k, .pointer x] 145)) := (Below.refl _ _).alloc (Nat.le_refl _) _
  have z : (w.alloc (.cells #[.int .i64 k, .pointer x] 145)).heap[w.heap.size]? = some (Obj.cells #[.int .i64 k, .pointer x] 145) := heap_alloc_new w _
  have z0 : (w.alloc (.cells #[.int .i64 k, .pointer x] 145)).cell? ⟨w.heap.size, 0, none⟩ = some (.int .i64 k) := cellB z rfl
  have z1 : (w.alloc (.cells #[.int .i64 k, .pointer x] 145)).cell? ⟨w.heap.size, 1, none⟩ = some (.pointer x) := cellB z rfl
  clear z
  have hl' := hl.below b0
  have hr' := hr.below b0
  have HB := Lib.hid b0
  have HND := Lib.hid hr'
  have HOT := Lib.hid hl'
  clear hl hr ih b0
  obtain ⟨b, vnl, vnr, hbv, hb, hnl, hnr⟩ := HND.out
  obtain rfl : vr' = some ⟨b, 0, none⟩ := by simpa using hbv
  clear hbv
  obtain ⟨vnl, rfl⟩ := hnl.shape
  obtain ⟨vnr, rfl⟩ := hnr.shape
  have HNL := Lib.hid hnl
  have HNR := Lib.hid hnr
  obtain ⟨c0, cx, cl, cr, cs, ch⟩ := nodeCL (x := nx) hb
  clear hb hnl hnr
  have hsj : (Tr.join l k x nl).size = _ := Tr.size_join _ _ _ _
  have HSJ := Lib.hid hsj
  clear hsj
  have hA2 : ¬ ((((Tr.node nl nk nx nr).height : Nat) : Int) + 1 < (l.height : Int)) := by omega
  go_enter Try.func123, Try.ntmps123
  go_wp2_with fail
  generalize (w.alloc (.cells #[.int .i64 k, .pointer x] 145)) = W at *
  refine (heightL hl').mono ?_
  rintro e w1 ⟨rfl, rfl⟩
  go_wp2_with fail
  refine (heightL hr').mono ?_
  rintro e w1 ⟨rfl, rfl⟩
  go_wp2_with fail
  refine (heightL hr').mono ?_
  rintro e w1 ⟨rfl, rfl⟩
  go_wp2_with fail
  refine (heightL hl').mono ?_
  rintro e w1 ⟨rfl, rfl⟩
  go_wp2_with fail
  clear hl' hr'
  have hk : ∀ w' : World, Below W.heap.size W w' → w'.cell? ⟨w.heap.size, 0, none⟩ = some (.int .i64 k) ∧ w'.cell? ⟨w.heap.size, 1, none⟩ = some (.pointer x) ∧ w'.cell? ⟨b, 0, none⟩ = some (.int .i64 nk) ∧ w'.cell? ⟨b, 1, none⟩ = some (.pointer nx) ∧ w'.cell? ⟨b, 2, none⟩ = some (.pointer vnl) ∧ w'.cell? ⟨b, 3, none⟩ = some (.pointer vnr) ∧ Below W.heap.size W w' := fun w' hb => ⟨bcellAt hb z0, bcellAt hb z1, bcellAt hb c0, bcellAt hb cx, bcellAt hb cl, bcellAt hb cr, hb⟩
  have HK := Lib.hid hk
  clear hk
  go_region_held3 (fun w' => w'.cell? ⟨w.heap.size, 0, none⟩ = some (.int .i64 k) ∧ w'.cell? ⟨w.heap.size, 1, none⟩ = some (.pointer x) ∧ w'.cell? ⟨b, 0, none⟩ = some (.int .i64 nk) ∧ w'.cell? ⟨b, 1, none⟩ = some (.pointer nx) ∧ w'.cell? ⟨b, 2, none⟩ = some (.pointer vnl) ∧ w'.cell? ⟨b, 3, none⟩ = some (.pointer vnr) ∧ Below W.heap.size W w') ((refine HK.out _ ?_; first | exact bdd _ _ | exact bd _ | exact (bmore (by first | assumption | exact bdn _ _ | exact bd _ | exact Below.refl _ _) u1) | exact (bmore (bmore (by first | assumption | exact bdn _ _ | exact bd _ | exact Below.refl _ _) u1) u2) ))
    ((first
      | ((with_reducible refine (IH.out _ _ _ (HOT.out.below (by first | assumption | exact bdn _ _ | exact bd _ | exact Below.refl _ _)) (HNL.out.below (by first | assumption | exact bdn _ _ | exact bd _ | exact Below.refl _ _))).mono ?_); rintro e w1 ⟨p1, rfl, t1, u1⟩)
      | ((with_reducible refine (balanceL nk nx t1 (HNR.out.below (bmore (by first | assumption | exact bdn _ _ | exact bd _ | exact Below.refl _ _) u1)) (by rw [HSJ.out]; simp only [Tr.size] at hs ⊢; omega)).mono ?_); rintro e w2 ⟨p2, rfl, t2, u2⟩)))
  go_wp2_with fail
  go_ret
  exact ⟨_, rfl, t2, HB.out.trans (((bmore (bmore (by first | assumption | exact bdn _ _ | exact bd _ | exact Below.refl _ _) u1) u2)).mono HB.out.size)⟩
set_option maxRecDepth 100000 in
set_option maxHeartbeats 1600000 in
theorem join_ofL (n : Nat) : ∀ {w : World} {vl vr : Value} {l r : Tr Int (Option Addr)} (k : Int) (x : Option Addr) (hn : l.size + r.size ≤ n) (hl : IsTL w vl l) (hr : IsTL w vr r) (hs : l.size + r.size < 700000),
    Calls Try.prog 123 #[vl, .agg #[.int .i64 k, .pointer x], vr] w (MadeL (Tr.join l k x r) w) := by
  induction n with
  | zero =>
    intro w vl vr l r k x hn hl hr hs
    cases l with
    | node _ _ _ _ => simp only [Tr.size] at hn; omega
    | nil =>
      cases r with
      | node _ _ _ _ => simp only [Tr.size] at hn; omega
      | nil => exact joinEvenL k x hl hr hs (by simp [Tr.height]) (by simp [Tr.height])
  | succ n ih =>
    intro w vl vr l r k x hn hl hr hs
    by_cases hA : r.height + 1 < l.height
    · cases l with
      | nil => simp [Tr.height] at hA
      | node nl nk nx nr => exact joinLeftL k x hl hr hs hA (fun _ _ _ hl' hr' => ih k x (by simp only [Tr.size] at hn ⊢; omega) hl' hr' (by simp only [Tr.size] at hs ⊢; omega))
    · by_cases hC : l.height + 1 < r.height
      · cases r with
        | nil => simp [Tr.height] at hC
        | node nl nk nx nr => exact joinRightL k x hl hr hs hC (fun _ _ _ hl' hr' => ih k x (by simp only [Tr.size] at hn ⊢; omega) hl' hr' (by simp only [Tr.size] at hs ⊢; omega))
      · exact joinEvenL k x hl hr hs hA hC
theorem joinL {w : World} {vl vr : Value} {l r : Tr Int (Option Addr)} (k : Int) (x : Option Addr) (hl : IsTL w vl l) (hr : IsTL w vr r) (hs : l.size + r.size < 700000) :
    Calls Try.prog 123 #[vl, .agg #[.int .i64 k, .pointer x], vr] w (MadeL (Tr.join l k x r) w) := join_ofL _ k x (Nat.le_refl _) hl hr hs
set_option maxRecDepth 100000 in
set_option maxHeartbeats 1600000 in
theorem glueL {w : World} {vl vr : Value} {l r : Tr Int (Option Addr)} (hl : IsTL w vl l) (hr : IsTL w vr r) (hs : l.size + r.size < 700000) :
    Calls Try.prog 111 #[vl, vr] w (MadeL (Tr.glue l r) w) := by
  obtain ⟨vl', rfl⟩ := hl.shape
  have HL := Lib.hid hl
  cases r with
  | nil =>
    obtain rfl := hr
    rw [Tr.glue]
    clear hl
    go_enter Try.func111, Try.ntmps111
    go_wp2_with fail
    go_ret
    exact ⟨_, rfl, HL.out, Below.refl _ _⟩
  | node nl nk nx nr =>
    rw [Tr.glue]
    have hc := fbAtL_cells hr
    obtain ⟨FB, hf⟩ : ∃ FB, fbAtL w vr (.node nl nk nx nr) = FB := ⟨_, rfl⟩
    rw [hf] at hc
    obtain ⟨c0, cx⟩ := hc
    have HF := Lib.hid hf
    have HR := Lib.hid hr
    obtain ⟨b, _, _, rfl, _⟩ := hr
    have hsz : (Tr.dropFirst (.node nl nk nx nr)).size = nl.size + nr.size := Tr.size_dropFirst nl nk nx nr
    have HZ := Lib.hid hsz
    generalize (Tr.firstOf nl nk nx).1 = fk at *
    generalize (Tr.firstOf nl nk nx).2 = fx at *
    clear hl hf hsz
    go_enter Try.func111, Try.ntmps111
    go_wp2_with fail
    have hk : ∀ w' : World, Below w.heap.size w w' → w'.cell? ⟨FB, 0, none⟩ = some (.int .i64 fk) ∧ w'.cell? ⟨FB, 1, none⟩ = some (.pointer fx) ∧ Below w.heap.size w w' := fun w' hb => ⟨bcellAt hb c0, bcellAt hb cx, hb⟩
    have HK := Lib.hid hk
    clear hk
    go_region_held3 (fun w' => w'.cell? ⟨FB, 0, none⟩ = some (.int .i64 fk) ∧ w'.cell? ⟨FB, 1, none⟩ = some (.pointer fx) ∧ Below w.heap.size w w') ((refine HK.out _ ?_; first | exact bdd _ _ | exact bd _ | exact bdn _ _ | exact bmore (by first | assumption | exact bdn _ _ | exact bd _ | exact Below.refl _ _) u1 | exact bmore (bmore (by first | assumption | exact bdn _ _ | exact bd _ | exact Below.refl _ _) u1) u2))
      ((first
        | ((with_reducible refine (firstL HR.out (by first | assumption | exact bdn _ _ | exact bd _ | exact Below.refl _ _) HF.out).mono ?_); rintro e w3 ⟨rfl, rfl⟩)
        | ((with_reducible refine (dropFirstL (HR.out.below (by first | assumption | exact bdn _ _ | exact bd _ | exact Below.refl _ _)) (by simp only [Tr.size] at hs ⊢; omega)).mono ?_); rintro e w1 ⟨p1, rfl, t1, u1⟩)
        | ((with_reducible refine (joinL fk fx (HL.out.below (bmore (by first | assumption | exact bdn _ _ | exact bd _ | exact Below.refl _ _) u1)) t1 (by rw [HZ.out]; simp only [Tr.size] at hs ⊢; omega)).mono ?_); rintro e w2 ⟨p2, rfl, t2, u2⟩)))
    all_goals
      go_wp2_with fail
      go_ret
      exact ⟨_, rfl, t2, (bmore (bmore (by first | assumption | exact bdn _ _ | exact bd _ | exact Below.refl _ _) u1) u2)⟩
end Go.Proofs.Ytbgnedeeeaapfaa
