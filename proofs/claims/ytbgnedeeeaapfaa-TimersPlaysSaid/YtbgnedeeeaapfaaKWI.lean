/-
  What walk does with a tree in memory (int,int).
-/
import Derived.Test.YtbgnedeeeaapfaaKPI
import Derived.Test.YtbgnedeeeaapfaaKLexIn
namespace Go.Proofs.Ytbgnedeeeaapfaa
open Go.RowKit Go.Shelf
attribute [local go_sem] Oper.semAt_some
set_option linter.unusedVariables false
abbrev encI (x : Int × Int) : Array Value := #[.int .i64 x.1, .int .i64 x.2]
set_option maxRecDepth 100000 in
set_option maxHeartbeats 4000000 in
/-- walk: all entries have come, in order; or a round has said 'no more'. -/
theorem walkI (l : Nat) (w0 : World) (N : Nat) (J Jx : List (Int × Int) → World → Prop) (hJd : ∀ s W, J s W → J s W.drew)
    (hY : ∀ m pre x W, J pre W → pre.length < N → YieldAt Fence.wide m Try.prog l (encI x) W fun e W' =>
      (e = .returned (.bool true) ∧ J (pre ++ [x]) W' ∧ Below w0.heap.size W W') ∨ (e = .returned (.bool false) ∧ Jx (pre ++ [x]) W')) (T : Tr Int Int) :
    ∀ (n : Nat) (v : Value) (pre : List (Int × Int)) (W : World), IsTI w0 v T → Below w0.heap.size w0 W → J pre W → pre.length + T.toL.length ≤ N →
      CallsIn Fence.wide n Try.prog 92 #[v, .func (.yield l) #[] #[]] W fun e W' => (e = .returned (.bool true) ∧ J (pre ++ T.toL) W' ∧ Below w0.heap.size W W') ∨ (e = .returned (.bool false) ∧ ∃ q, q <+: T.toL ∧ Jx (pre ++ q) W') := by
  induction T with
  | nil =>
    intro n v pre W ht hW hJ _
    obtain rfl := ht
    refine callsIn_of_wp Try.func92 rfl trivial ?_ rfl
    simp only [Try.ntmps92, List.size_toArray, List.length_cons, List.length_nil, Nat.reduceAdd, Nat.reduceSub, Array.replicate_succ, Array.replicate_zero, List.push_toArray, List.append_toArray, List.nil_append, List.cons_append]
    gi_wp2
    refine wpIn_region_any (by kernel_rfl) ?_
    change wpAnyIn _ _ _ _ _ _ _ _ _ W.drew
    refine lexIn_one (i := 0) rfl (by kernel_rfl) (fun K hK => ?_)
    unfold Turn
    go_simp
    first | refine hK _ _ ?_ | refine ⟨trivial, hK _ _ ?_⟩ | refine ⟨fun _ _ => trivial, hK _ _ ?_⟩ | refine ⟨fun _ h => (by cases h), hK _ _ ?_⟩
    clear hK K
    refine lexIn_one (i := 1) rfl (by kernel_rfl) (fun K hK => ?_)
    unfold Turn
    go_simp
    first | refine hK _ _ ?_ | refine ⟨trivial, hK _ _ ?_⟩ | refine ⟨fun _ _ => trivial, hK _ _ ?_⟩ | refine ⟨fun _ h => (by cases h), hK _ _ ?_⟩
    clear hK K
    refine lexIn_one (i := 2) rfl (by kernel_rfl) (fun K hK => ?_)
    unfold Turn
    go_simp
    first | refine hK _ _ ?_ | refine ⟨trivial, hK _ _ ?_⟩ | refine ⟨fun _ _ => trivial, hK _ _ ?_⟩ | refine ⟨fun _ h => (by cases h), hK _ _ ?_⟩
    clear hK K
    refine lexIn_skip (i := 3) rfl rfl (by kernel_rfl) (by kernel_rfl) (by kernel_rfl) (by kernel_rfl) (fun _ => rfl) rfl (fun _ _ _ h => h) ?_
    refine lexIn_skip (i := 4) rfl rfl (by kernel_rfl) (by kernel_rfl) (by kernel_rfl) (by kernel_rfl) (fun _ => rfl) rfl (fun _ _ _ h => h) ?_
    refine lexIn_skip (i := 5) rfl rfl (by kernel_rfl) (by kernel_rfl) (by kernel_rfl) (by kernel_rfl) (fun _ => rfl) rfl (fun _ _ _ h => h) ?_
    refine lexIn_skip (i := 6) rfl rfl (by kernel_rfl) (by kernel_rfl) (by kernel_rfl) (by kernel_rfl) (fun _ => rfl) rfl (fun _ _ _ h => h) ?_
    refine lexIn_skip (i := 7) rfl rfl (by kernel_rfl) (by kernel_rfl) (by kernel_rfl) (by kernel_rfl) (fun _ => rfl) rfl (fun _ _ _ h => h) ?_
    refine lexIn_one (i := 8) rfl (by kernel_rfl) (fun K hK => ?_)
    unfold Turn
    go_simp
    first | refine hK _ _ ?_ | refine ⟨trivial, hK _ _ ?_⟩ | refine ⟨fun _ _ => trivial, hK _ _ ?_⟩ | refine ⟨fun _ h => (by cases h), hK _ _ ?_⟩
    clear hK K
    refine lexIn_skip (i := 9) rfl rfl (by kernel_rfl) (by kernel_rfl) (by kernel_rfl) (by kernel_rfl) (fun _ => rfl) rfl (fun _ _ _ h => h) ?_
    refine lexIn_skip (i := 10) rfl rfl (by kernel_rfl) (by kernel_rfl) (by kernel_rfl) (by kernel_rfl) (fun _ => rfl) rfl (fun _ _ _ h => h) ?_
    refine lexIn_skip (i := 11) rfl rfl (by kernel_rfl) (by kernel_rfl) (by kernel_rfl) (by kernel_rfl) (fun _ => rfl) rfl (fun _ _ _ h => h) ?_
    refine lexIn_skip (i := 12) rfl rfl (by kernel_rfl) (by kernel_rfl) (by kernel_rfl) (by kernel_rfl) (fun _ => rfl) rfl (fun _ _ _ h => h) ?_
    refine lexIn_skip (i := 13) rfl rfl (by kernel_rfl) (by kernel_rfl) (by kernel_rfl) (by kernel_rfl) (fun _ => rfl) rfl (fun _ _ _ h => h) ?_
    refine lexIn_skip (i := 14) rfl rfl (by kernel_rfl) (by kernel_rfl) (by kernel_rfl) (by kernel_rfl) (fun _ => rfl) rfl (fun _ _ _ h => h) ?_
    refine lexIn_skip (i := 15) rfl rfl (by kernel_rfl) (by kernel_rfl) (by kernel_rfl) (by kernel_rfl) (fun _ => rfl) rfl (fun _ _ _ h => h) ?_
    refine lexIn_skip (i := 16) rfl rfl (by kernel_rfl) (by kernel_rfl) (by kernel_rfl) (by kernel_rfl) (fun _ => rfl) rfl (fun _ _ _ h => h) ?_
    refine lexIn_skip (i := 17) rfl rfl (by kernel_rfl) (by kernel_rfl) (by kernel_rfl) (by kernel_rfl) (fun _ => rfl) rfl (fun _ _ _ h => h) ?_
    refine lexIn_skip (i := 18) rfl rfl (by kernel_rfl) (by kernel_rfl) (by kernel_rfl) (by kernel_rfl) (fun _ => rfl) rfl (fun _ _ _ h => h) ?_
    refine lexIn_skip (i := 19) rfl rfl (by kernel_rfl) (by kernel_rfl) (by kernel_rfl) (by kernel_rfl) (fun _ => rfl) rfl (fun _ _ _ h => h) ?_
    refine lexIn_skip (i := 20) rfl rfl (by kernel_rfl) (by kernel_rfl) (by kernel_rfl) (by kernel_rfl) (fun _ => rfl) rfl (fun _ _ _ h => h) ?_
    refine lexIn_one (i := 21) rfl (by kernel_rfl) (fun K hK => ?_)
    unfold Turn
    go_simp
    first | refine hK _ _ ?_ | refine ⟨trivial, hK _ _ ?_⟩ | refine ⟨fun _ _ => trivial, hK _ _ ?_⟩ | refine ⟨fun _ h => (by cases h), hK _ _ ?_⟩
    clear hK K
    refine lexIn_skip (i := 22) rfl rfl (by kernel_rfl) (by kernel_rfl) (by kernel_rfl) (by kernel_rfl) (fun _ => rfl) rfl (fun _ _ _ h => h) ?_
    refine lexIn_skip (i := 23) rfl rfl (by kernel_rfl) (by kernel_rfl) (by kernel_rfl) (by kernel_rfl) (fun _ => rfl) rfl (fun _ _ _ h => h) ?_
    refine lexIn_skip (i := 24) rfl rfl (by kernel_rfl) (by kernel_rfl) (by kernel_rfl) (by kernel_rfl) (fun _ => rfl) rfl (fun _ _ _ h => h) ?_
    refine lexIn_skip (i := 25) rfl rfl (by kernel_rfl) (by kernel_rfl) (by kernel_rfl) (by kernel_rfl) (fun _ => rfl) rfl (fun _ _ _ h => h) ?_
    refine lexIn_skip (i := 26) rfl rfl (by kernel_rfl) (by kernel_rfl) (by kernel_rfl) (by kernel_rfl) (fun _ => rfl) rfl (fun _ _ _ h => h) ?_
    refine lexIn_skip (i := 27) rfl rfl (by kernel_rfl) (by kernel_rfl) (by kernel_rfl) (by kernel_rfl) (fun _ => rfl) rfl (fun _ _ _ h => h) ?_
    refine lexIn_skip (i := 28) rfl rfl (by kernel_rfl) (by kernel_rfl) (by kernel_rfl) (by kernel_rfl) (fun _ => rfl) rfl (fun _ _ _ h => h) ?_
    refine lexIn_one (i := 29) rfl (by kernel_rfl) (fun K hK => ?_)
    unfold Turn
    go_simp
    first | refine hK _ _ ?_ | refine ⟨trivial, hK _ _ ?_⟩ | refine ⟨fun _ _ => trivial, hK _ _ ?_⟩ | refine ⟨fun _ h => (by cases h), hK _ _ ?_⟩
    clear hK K
    refine lexIn_skip (i := 30) rfl rfl (by kernel_rfl) (by kernel_rfl) (by kernel_rfl) (by kernel_rfl) (fun _ => rfl) rfl (fun _ _ _ h => h) ?_
    refine lexIn_one (i := 31) rfl (by kernel_rfl) (fun K hK => ?_)
    unfold Turn
    go_simp
    first | refine hK _ _ ?_ | refine ⟨trivial, hK _ _ ?_⟩ | refine ⟨fun _ _ => trivial, hK _ _ ?_⟩ | refine ⟨fun _ h => (by cases h), hK _ _ ?_⟩
    clear hK K
    refine lexIn_one (i := 32) rfl (by kernel_rfl) (fun K hK => ?_)
    unfold Turn
    go_simp
    first | refine hK _ _ ?_ | refine ⟨trivial, hK _ _ ?_⟩ | refine ⟨fun _ _ => trivial, hK _ _ ?_⟩ | refine ⟨fun _ h => (by cases h), hK _ _ ?_⟩
    clear hK K
    refine wpAnyIn_done (by kernel_rfl) ?_ _
    gi_wp2
    go_ret
    exact .inl ⟨rfl, by simpa [Tr.toL] using hJd _ _ hJ, ⟨rfl, rfl, rfl, Nat.le_refl _, fun _ _ => rfl⟩⟩
  | node tl k x tr ihl ihr =>
    intro n v pre W ht hW hJ hN
    obtain ⟨b, pl, pr, rfl, hb, hl, hr⟩ := ht
    obtain ⟨pl, rfl⟩ := hl.shape
    obtain ⟨pr, rfl⟩ := hr.shape
    obtain ⟨c0, cx, cl, cr, cs, ch⟩ := nodeCI (x := x) hb
    simp only [Tr.toL, List.length_append, List.length_cons] at hN
    have C := fun (W1 : World) (h : Below w0.heap.size w0 W1) => (⟨bcellAt h c0, bcellAt h cx, bcellAt h cl, bcellAt h cr⟩ : W1.cell? ⟨b, 0, none⟩ = some (.int .i64 k) ∧ W1.cell? ⟨b, 1, none⟩ = some (.int .i64 x) ∧ W1.cell? ⟨b, 2, none⟩ = some (.pointer pl) ∧ W1.cell? ⟨b, 3, none⟩ = some (.pointer pr))
    have HC := Lib.hid C
    have IL := Lib.hid ihl
    have IR := Lib.hid ihr
    have HL := Lib.hid hl
    have HR := Lib.hid hr
    have HY := Lib.hid hY
    have HJD := Lib.hid hJd
    have HJ := Lib.hid hJ
    have HW := Lib.hid hW
    have hd1 : Below w0.heap.size w0 W.drew := hW.trans ⟨rfl, rfl, rfl, Nat.le_refl _, fun _ _ => rfl⟩
    obtain ⟨d0, dx, dl, dr⟩ := C W.drew hd1
    have HD1 := Lib.hid hd1
    clear C ihl ihr hl hr hY hJ hW hJd hb c0 cx cl cr cs ch hd1
    refine callsIn_of_wp Try.func92 rfl trivial ?_ rfl
    simp only [Try.ntmps92, List.size_toArray, List.length_cons, List.length_nil, Nat.reduceAdd, Nat.reduceSub, Array.replicate_succ, Array.replicate_zero, List.push_toArray, List.append_toArray, List.nil_append, List.cons_append]
    gi_wp2
    refine wpIn_region_any (by kernel_rfl) ?_
    change wpAnyIn _ _ _ _ _ _ _ _ _ W.drew
    refine lexIn_one (i := 0) rfl (by kernel_rfl) (fun K hK => ?_)
    unfold Turn
    go_simp
    first | refine hK _ _ ?_ | refine ⟨trivial, hK _ _ ?_⟩ | refine ⟨fun _ _ => trivial, hK _ _ ?_⟩ | refine ⟨fun _ h => (by cases h), hK _ _ ?_⟩
    clear hK K
    refine lexIn_one (i := 1) rfl (by kernel_rfl) (fun K hK => ?_)
    unfold Turn
    go_simp
    first | refine hK _ _ ?_ | refine ⟨trivial, hK _ _ ?_⟩ | refine ⟨fun _ _ => trivial, hK _ _ ?_⟩ | refine ⟨fun _ h => (by cases h), hK _ _ ?_⟩
    clear hK K
    refine lexIn_one (i := 2) rfl (by kernel_rfl) (fun K hK => ?_)
    unfold Turn
    go_simp
    first | refine hK _ _ ?_ | refine ⟨trivial, hK _ _ ?_⟩ | refine ⟨fun _ _ => trivial, hK _ _ ?_⟩ | refine ⟨fun _ h => (by cases h), hK _ _ ?_⟩
    clear hK K
    refine wpAnyIn_take (i := 3) (v := ?v3) rfl rfl (by kernel_rfl) (by kernel_rfl) (by kernel_rfl) (fun _ _ _ h => h) ⟨Or.inl ⟨by kernel_rfl, ?y3⟩, fun _ => rfl⟩ ?_
    case y3 => (intro w; go_simp; first | done | with_reducible rfl)
    refine wpAnyIn_take (i := 7) (v := ?v7) rfl rfl (by kernel_rfl) (by kernel_rfl) (by kernel_rfl) (fun _ _ _ h => h) ⟨Or.inl ⟨by kernel_rfl, ?y7⟩, fun _ => rfl⟩ ?_
    case y7 => (intro w; go_simp; first | done | with_reducible rfl)
    go_simp
    refine lexIn_one (i := 4) rfl (by kernel_rfl) (fun K hK => ?_)
    unfold Turn
    go_simp
    first | refine hK _ _ ?_ | refine ⟨trivial, hK _ _ ?_⟩ | refine ⟨fun _ _ => trivial, hK _ _ ?_⟩ | refine ⟨fun _ h => (by cases h), hK _ _ ?_⟩
    clear hK K
    refine lexIn_one (i := 5) rfl (by kernel_rfl) (fun K hK => ?_)
    unfold Turn
    go_simp
    first | refine hK _ _ ?_ | refine ⟨trivial, hK _ _ ?_⟩ | refine ⟨fun _ _ => trivial, hK _ _ ?_⟩ | refine ⟨fun _ h => (by cases h), hK _ _ ?_⟩
    clear hK K
    refine lexIn_one (i := 6) rfl (by kernel_rfl) (fun K hK => ?_)
    unfold Turn
    go_simp
    first | refine hK _ _ ?_ | refine ⟨trivial, hK _ _ ?_⟩ | refine ⟨fun _ _ => trivial, hK _ _ ?_⟩ | refine ⟨fun _ h => (by cases h), hK _ _ ?_⟩
    clear hK K
    refine lexIn_one (i := 8) rfl (by kernel_rfl) (fun K hK => ?_)
    unfold Turn
    go_simp
    refine ⟨trivial, fun h => (by cases h), (IL.out (n - 1) (.pointer pl) pre W.drew HL.out HD1.out (HJD.out _ _ HJ.out) (by omega)).mono ?_⟩
    rintro e W8 (⟨rfl, hJ1, hb1⟩ | ⟨rfl, q, hq, hx⟩)
    · refine hK _ _ ?_
      clear hK K
      have hw1 : Below w0.heap.size w0 W8 := HD1.out.trans hb1
      obtain ⟨y0, yx, yl, yr⟩ := HC.out W8 hw1
      have HW1 := Lib.hid hw1
      have HB1 := Lib.hid hb1
      obtain ⟨fn, tmps, assign, body, hy, hR⟩ := HY.out (n - 1) _ (k, x) W8 hJ1 (by simp; omega)
      have HRR := Lib.hid hR
      clear d0 dx dl dr hw1 hb1 hJ1 hR
      refine lexIn_one (i := 9) rfl (by kernel_rfl) (fun K hK => ?_)
      unfold Turn
      go_simp
      first | refine hK _ _ ?_ | refine ⟨trivial, hK _ _ ?_⟩ | refine ⟨fun _ _ => trivial, hK _ _ ?_⟩ | refine ⟨fun _ h => (by cases h), hK _ _ ?_⟩
      clear hK K
      refine wpAnyIn_take (i := 10) (v := ?v10) rfl rfl (by kernel_rfl) (by kernel_rfl) (by kernel_rfl) (fun _ _ _ h => h) ⟨Or.inl ⟨by kernel_rfl, ?y10⟩, fun _ => rfl⟩ ?_
      case y10 => (intro w; go_simp; first | done | with_reducible rfl)
      refine wpAnyIn_take (i := 11) (v := ?v11) rfl rfl (by kernel_rfl) (by kernel_rfl) (by kernel_rfl) (fun _ _ _ h => h) ⟨Or.inl ⟨by kernel_rfl, ?y11⟩, fun _ => rfl⟩ ?_
      case y11 => (intro w; go_simp; first | done | with_reducible rfl)
      refine wpAnyIn_take (i := 16) (v := ?v16) rfl rfl (by kernel_rfl) (by kernel_rfl) (by kernel_rfl) (fun _ _ _ h => h) ⟨Or.inl ⟨by kernel_rfl, ?y16⟩, fun _ => rfl⟩ ?_
      case y16 => (intro w; go_simp; first | done | with_reducible rfl)
      refine wpAnyIn_take (i := 12) (v := ?v12) rfl rfl (by kernel_rfl) (by kernel_rfl) (by kernel_rfl) (fun _ _ _ h => h) ⟨Or.inl ⟨by kernel_rfl, ?y12⟩, fun _ => rfl⟩ ?_
      case y12 => (intro w; go_simp; first | done | with_reducible rfl)
      refine wpAnyIn_take (i := 13) (v := ?v13) rfl rfl (by kernel_rfl) (by kernel_rfl) (by kernel_rfl) (fun _ _ _ h => h) ⟨Or.inl ⟨by kernel_rfl, ?y13⟩, fun _ => rfl⟩ ?_
      case y13 => (intro w; go_simp; first | done | with_reducible rfl)
      refine wpAnyIn_take (i := 14) (v := ?v14) rfl rfl (by kernel_rfl) (by kernel_rfl) (by kernel_rfl) (fun _ _ _ h => h) ⟨Or.inl ⟨by kernel_rfl, ?y14⟩, fun _ => rfl⟩ ?_
      case y14 => (intro w; go_simp; first | done | with_reducible rfl)
      refine wpAnyIn_take (i := 17) (v := ?v17) rfl rfl (by kernel_rfl) (by kernel_rfl) (by kernel_rfl) (fun _ _ _ h => h) ⟨Or.inl ⟨by kernel_rfl, ?y17⟩, fun _ => rfl⟩ ?_
      case y17 => (intro w; go_simp; first | done | with_reducible rfl)
      refine wpAnyIn_take (i := 18) (v := ?v18) rfl rfl (by kernel_rfl) (by kernel_rfl) (by kernel_rfl) (fun _ _ _ h => h) ⟨Or.inl ⟨by kernel_rfl, ?y18⟩, fun _ => rfl⟩ ?_
      case y18 => (intro w; go_simp; first | done | with_reducible rfl)
      refine wpAnyIn_take (i := 19) (v := ?v19) rfl rfl (by kernel_rfl) (by kernel_rfl) (by kernel_rfl) (fun _ _ _ h => h) ⟨Or.inl ⟨by kernel_rfl, ?y19⟩, fun _ => rfl⟩ ?_
      case y19 => (intro w; go_simp; first | done | with_reducible rfl)
      go_simp
      refine lexIn_both (i := 15) (j := 20) (vi := .int .i64 k) (vj := .int .i64 x) rfl rfl (by kernel_rfl) (by kernel_rfl) (by kernel_rfl) (by decide) (fun d h => by cases h; decide) (fun K hK => ?_) (fun K hK => ?_) (fun K hK => ?_) (fun K hK => ?_) ?_
      · unfold Turn
        go_simp
        exact hK
      · unfold Turn
        go_simp
        exact hK
      · unfold Turn
        go_simp
        exact hK
      · unfold Turn
        go_simp
        exact hK
      refine lexIn_one (i := 21) rfl (by kernel_rfl) (fun K hK => ?_)
      unfold Turn
      go_simp
      refine ⟨fun h => (by cases h), HRR.out.mono ?_⟩
      rintro e W21 (⟨rfl, hJ2, hb2⟩ | ⟨rfl, hx2⟩)
      · refine hK _ _ ?_
        clear hK K hy y0 yx yl yr
        have hw2 : Below w0.heap.size w0 W21 := HW1.out.trans hb2
        obtain ⟨y0, yx, yl, yr⟩ := HC.out W21 hw2
        have HW2 := Lib.hid hw2
        have HB2 := Lib.hid hb2
        have HJ2 := Lib.hid hJ2
        clear hw2 hb2 hJ2
        refine lexIn_one (i := 22) rfl (by kernel_rfl) (fun K hK => ?_)
        unfold Turn
        go_simp
        first | refine hK _ _ ?_ | refine ⟨trivial, hK _ _ ?_⟩ | refine ⟨fun _ _ => trivial, hK _ _ ?_⟩ | refine ⟨fun _ h => (by cases h), hK _ _ ?_⟩
        clear hK K
        refine lexIn_one (i := 23) rfl (by kernel_rfl) (fun K hK => ?_)
        unfold Turn
        go_simp
        first | refine hK _ _ ?_ | refine ⟨trivial, hK _ _ ?_⟩ | refine ⟨fun _ _ => trivial, hK _ _ ?_⟩ | refine ⟨fun _ h => (by cases h), hK _ _ ?_⟩
        clear hK K
        refine wpAnyIn_take (i := 24) (v := ?v24) rfl rfl (by kernel_rfl) (by kernel_rfl) (by kernel_rfl) (fun _ _ _ h => h) ⟨Or.inl ⟨by kernel_rfl, ?y24⟩, fun _ => rfl⟩ ?_
        case y24 => (intro w; go_simp; first | done | with_reducible rfl)
        refine wpAnyIn_take (i := 28) (v := ?v28) rfl rfl (by kernel_rfl) (by kernel_rfl) (by kernel_rfl) (fun _ _ _ h => h) ⟨Or.inl ⟨by kernel_rfl, ?y28⟩, fun _ => rfl⟩ ?_
        case y28 => (intro w; go_simp; first | done | with_reducible rfl)
        go_simp
        refine lexIn_one (i := 25) rfl (by kernel_rfl) (fun K hK => ?_)
        unfold Turn
        go_simp
        first | refine hK _ _ ?_ | refine ⟨trivial, hK _ _ ?_⟩ | refine ⟨fun _ _ => trivial, hK _ _ ?_⟩ | refine ⟨fun _ h => (by cases h), hK _ _ ?_⟩
        clear hK K
        refine lexIn_one (i := 26) rfl (by kernel_rfl) (fun K hK => ?_)
        unfold Turn
        go_simp
        first | refine hK _ _ ?_ | refine ⟨trivial, hK _ _ ?_⟩ | refine ⟨fun _ _ => trivial, hK _ _ ?_⟩ | refine ⟨fun _ h => (by cases h), hK _ _ ?_⟩
        clear hK K
        refine lexIn_one (i := 27) rfl (by kernel_rfl) (fun K hK => ?_)
        unfold Turn
        go_simp
        first | refine hK _ _ ?_ | refine ⟨trivial, hK _ _ ?_⟩ | refine ⟨fun _ _ => trivial, hK _ _ ?_⟩ | refine ⟨fun _ h => (by cases h), hK _ _ ?_⟩
        clear hK K
        refine lexIn_one (i := 29) rfl (by kernel_rfl) (fun K hK => ?_)
        unfold Turn
        go_simp
        refine ⟨trivial, fun h => (by cases h), (IR.out (n - 1) (.pointer pr) _ W21 HR.out HW2.out HJ2.out (by simp; omega)).mono ?_⟩
        rintro e W29 (⟨rfl, hJ3, hb3⟩ | ⟨rfl, q, hq, hx⟩)
        · refine hK _ _ ?_
          clear hK K
          have HJ3 := Lib.hid hJ3
          have HB3 := Lib.hid hb3
          clear hJ3 hb3
          refine lexIn_one (i := 30) rfl (by kernel_rfl) (fun K hK => ?_)
          unfold Turn
          go_simp
          first | refine hK _ _ ?_ | refine ⟨trivial, hK _ _ ?_⟩ | refine ⟨fun _ _ => trivial, hK _ _ ?_⟩ | refine ⟨fun _ h => (by cases h), hK _ _ ?_⟩
          clear hK K
          refine lexIn_one (i := 31) rfl (by kernel_rfl) (fun K hK => ?_)
          unfold Turn
          go_simp
          first | refine hK _ _ ?_ | refine ⟨trivial, hK _ _ ?_⟩ | refine ⟨fun _ _ => trivial, hK _ _ ?_⟩ | refine ⟨fun _ h => (by cases h), hK _ _ ?_⟩
          clear hK K
          refine lexIn_one (i := 32) rfl (by kernel_rfl) (fun K hK => ?_)
          unfold Turn
          go_simp
          first | refine hK _ _ ?_ | refine ⟨trivial, hK _ _ ?_⟩ | refine ⟨fun _ _ => trivial, hK _ _ ?_⟩ | refine ⟨fun _ h => (by cases h), hK _ _ ?_⟩
          clear hK K
          refine wpAnyIn_done (by kernel_rfl) ?_ _
          gi_wp2
          go_ret
          exact .inl ⟨rfl, by have := HJ3.out; simpa [Tr.toL, List.append_assoc] using this, ((((show Below w0.heap.size W W.drew from ⟨rfl, rfl, rfl, Nat.le_refl _, fun _ _ => rfl⟩).trans HB1.out).trans HB2.out).trans HB3.out)⟩
        · refine hK _ _ ?_
          clear hK K
          have HX := Lib.hid hx
          have HQ := Lib.hid hq
          clear hx hq
          refine lexIn_one (i := 30) rfl (by kernel_rfl) (fun K hK => ?_)
          unfold Turn
          go_simp
          first | refine hK _ _ ?_ | refine ⟨trivial, hK _ _ ?_⟩ | refine ⟨fun _ _ => trivial, hK _ _ ?_⟩ | refine ⟨fun _ h => (by cases h), hK _ _ ?_⟩
          clear hK K
          refine lexIn_one (i := 31) rfl (by kernel_rfl) (fun K hK => ?_)
          unfold Turn
          go_simp
          first | refine hK _ _ ?_ | refine ⟨trivial, hK _ _ ?_⟩ | refine ⟨fun _ _ => trivial, hK _ _ ?_⟩ | refine ⟨fun _ h => (by cases h), hK _ _ ?_⟩
          clear hK K
          refine lexIn_one (i := 32) rfl (by kernel_rfl) (fun K hK => ?_)
          unfold Turn
          go_simp
          first | refine hK _ _ ?_ | refine ⟨trivial, hK _ _ ?_⟩ | refine ⟨fun _ _ => trivial, hK _ _ ?_⟩ | refine ⟨fun _ h => (by cases h), hK _ _ ?_⟩
          clear hK K
          refine wpAnyIn_done (by kernel_rfl) ?_ _
          gi_wp2
          go_ret
          obtain ⟨r, hr'⟩ := HQ.out
          exact .inr ⟨rfl, tl.toL ++ (k, x) :: q, ⟨r, by simp [Tr.toL, ← hr']⟩, by have := HX.out; simpa [List.append_assoc] using this⟩
      · refine hK _ _ ?_
        clear hK K
        have HX := Lib.hid hx2
        clear hx2 hy
        refine lexIn_one (i := 22) rfl (by kernel_rfl) (fun K hK => ?_)
        unfold Turn
        go_simp
        first | refine hK _ _ ?_ | refine ⟨trivial, hK _ _ ?_⟩ | refine ⟨fun _ _ => trivial, hK _ _ ?_⟩ | refine ⟨fun _ h => (by cases h), hK _ _ ?_⟩
        clear hK K
        refine lexIn_one (i := 23) rfl (by kernel_rfl) (fun K hK => ?_)
        unfold Turn
        go_simp
        first | refine hK _ _ ?_ | refine ⟨trivial, hK _ _ ?_⟩ | refine ⟨fun _ _ => trivial, hK _ _ ?_⟩ | refine ⟨fun _ h => (by cases h), hK _ _ ?_⟩
        clear hK K
        refine lexIn_skip (i := 24) rfl rfl (by kernel_rfl) (by kernel_rfl) (by kernel_rfl) (by kernel_rfl) (fun _ => rfl) rfl (fun _ _ _ h => h) ?_
        refine lexIn_skip (i := 25) rfl rfl (by kernel_rfl) (by kernel_rfl) (by kernel_rfl) (by kernel_rfl) (fun _ => rfl) rfl (fun _ _ _ h => h) ?_
        refine lexIn_skip (i := 26) rfl rfl (by kernel_rfl) (by kernel_rfl) (by kernel_rfl) (by kernel_rfl) (fun _ => rfl) rfl (fun _ _ _ h => h) ?_
        refine lexIn_skip (i := 27) rfl rfl (by kernel_rfl) (by kernel_rfl) (by kernel_rfl) (by kernel_rfl) (fun _ => rfl) rfl (fun _ _ _ h => h) ?_
        refine lexIn_skip (i := 28) rfl rfl (by kernel_rfl) (by kernel_rfl) (by kernel_rfl) (by kernel_rfl) (fun _ => rfl) rfl (fun _ _ _ h => h) ?_
        refine lexIn_one (i := 29) rfl (by kernel_rfl) (fun K hK => ?_)
        unfold Turn
        go_simp
        first | refine hK _ _ ?_ | refine ⟨trivial, hK _ _ ?_⟩ | refine ⟨fun _ _ => trivial, hK _ _ ?_⟩ | refine ⟨fun _ h => (by cases h), hK _ _ ?_⟩
        clear hK K
        refine lexIn_one (i := 30) rfl (by kernel_rfl) (fun K hK => ?_)
        unfold Turn
        go_simp
        first | refine hK _ _ ?_ | refine ⟨trivial, hK _ _ ?_⟩ | refine ⟨fun _ _ => trivial, hK _ _ ?_⟩ | refine ⟨fun _ h => (by cases h), hK _ _ ?_⟩
        clear hK K
        refine lexIn_one (i := 31) rfl (by kernel_rfl) (fun K hK => ?_)
        unfold Turn
        go_simp
        first | refine hK _ _ ?_ | refine ⟨trivial, hK _ _ ?_⟩ | refine ⟨fun _ _ => trivial, hK _ _ ?_⟩ | refine ⟨fun _ h => (by cases h), hK _ _ ?_⟩
        clear hK K
        refine lexIn_one (i := 32) rfl (by kernel_rfl) (fun K hK => ?_)
        unfold Turn
        go_simp
        first | refine hK _ _ ?_ | refine ⟨trivial, hK _ _ ?_⟩ | refine ⟨fun _ _ => trivial, hK _ _ ?_⟩ | refine ⟨fun _ h => (by cases h), hK _ _ ?_⟩
        clear hK K
        refine wpAnyIn_done (by kernel_rfl) ?_ _
        gi_wp2
        go_ret
        exact .inr ⟨rfl, tl.toL ++ [(k, x)], ⟨tr.toL, by simp [Tr.toL]⟩, by have := HX.out; simpa [List.append_assoc] using this⟩
    · refine hK _ _ ?_
      clear hK K
      have HX := Lib.hid hx
      have HQ := Lib.hid hq
      clear hx hq
      refine lexIn_one (i := 9) rfl (by kernel_rfl) (fun K hK => ?_)
      unfold Turn
      go_simp
      first | refine hK _ _ ?_ | refine ⟨trivial, hK _ _ ?_⟩ | refine ⟨fun _ _ => trivial, hK _ _ ?_⟩ | refine ⟨fun _ h => (by cases h), hK _ _ ?_⟩
      clear hK K
      refine lexIn_skip (i := 10) rfl rfl (by kernel_rfl) (by kernel_rfl) (by kernel_rfl) (by kernel_rfl) (fun _ => rfl) rfl (fun _ _ _ h => h) ?_
      refine lexIn_skip (i := 11) rfl rfl (by kernel_rfl) (by kernel_rfl) (by kernel_rfl) (by kernel_rfl) (fun _ => rfl) rfl (fun _ _ _ h => h) ?_
      refine lexIn_skip (i := 12) rfl rfl (by kernel_rfl) (by kernel_rfl) (by kernel_rfl) (by kernel_rfl) (fun _ => rfl) rfl (fun _ _ _ h => h) ?_
      refine lexIn_skip (i := 13) rfl rfl (by kernel_rfl) (by kernel_rfl) (by kernel_rfl) (by kernel_rfl) (fun _ => rfl) rfl (fun _ _ _ h => h) ?_
      refine lexIn_skip (i := 14) rfl rfl (by kernel_rfl) (by kernel_rfl) (by kernel_rfl) (by kernel_rfl) (fun _ => rfl) rfl (fun _ _ _ h => h) ?_
      refine lexIn_skip (i := 15) rfl rfl (by kernel_rfl) (by kernel_rfl) (by kernel_rfl) (by kernel_rfl) (fun _ => rfl) rfl (fun _ _ _ h => h) ?_
      refine lexIn_skip (i := 16) rfl rfl (by kernel_rfl) (by kernel_rfl) (by kernel_rfl) (by kernel_rfl) (fun _ => rfl) rfl (fun _ _ _ h => h) ?_
      refine lexIn_skip (i := 17) rfl rfl (by kernel_rfl) (by kernel_rfl) (by kernel_rfl) (by kernel_rfl) (fun _ => rfl) rfl (fun _ _ _ h => h) ?_
      refine lexIn_skip (i := 18) rfl rfl (by kernel_rfl) (by kernel_rfl) (by kernel_rfl) (by kernel_rfl) (fun _ => rfl) rfl (fun _ _ _ h => h) ?_
      refine lexIn_skip (i := 19) rfl rfl (by kernel_rfl) (by kernel_rfl) (by kernel_rfl) (by kernel_rfl) (fun _ => rfl) rfl (fun _ _ _ h => h) ?_
      refine lexIn_skip (i := 20) rfl rfl (by kernel_rfl) (by kernel_rfl) (by kernel_rfl) (by kernel_rfl) (fun _ => rfl) rfl (fun _ _ _ h => h) ?_
      refine lexIn_one (i := 21) rfl (by kernel_rfl) (fun K hK => ?_)
      unfold Turn
      go_simp
      first | refine hK _ _ ?_ | refine ⟨trivial, hK _ _ ?_⟩ | refine ⟨fun _ _ => trivial, hK _ _ ?_⟩ | refine ⟨fun _ h => (by cases h), hK _ _ ?_⟩
      clear hK K
      refine lexIn_one (i := 22) rfl (by kernel_rfl) (fun K hK => ?_)
      unfold Turn
      go_simp
      first | refine hK _ _ ?_ | refine ⟨trivial, hK _ _ ?_⟩ | refine ⟨fun _ _ => trivial, hK _ _ ?_⟩ | refine ⟨fun _ h => (by cases h), hK _ _ ?_⟩
      clear hK K
      refine lexIn_one (i := 23) rfl (by kernel_rfl) (fun K hK => ?_)
      unfold Turn
      go_simp
      first | refine hK _ _ ?_ | refine ⟨trivial, hK _ _ ?_⟩ | refine ⟨fun _ _ => trivial, hK _ _ ?_⟩ | refine ⟨fun _ h => (by cases h), hK _ _ ?_⟩
      clear hK K
      refine lexIn_skip (i := 24) rfl rfl (by kernel_rfl) (by kernel_rfl) (by kernel_rfl) (by kernel_rfl) (fun _ => rfl) rfl (fun _ _ _ h => h) ?_
      refine lexIn_skip (i := 25) rfl rfl (by kernel_rfl) (by kernel_rfl) (by kernel_rfl) (by kernel_rfl) (fun _ => rfl) rfl (fun _ _ _ h => h) ?_
      refine lexIn_skip (i := 26) rfl rfl (by kernel_rfl) (by kernel_rfl) (by kernel_rfl) (by kernel_rfl) (fun _ => rfl) rfl (fun _ _ _ h => h) ?_
      refine lexIn_skip (i := 27) rfl rfl (by kernel_rfl) (by kernel_rfl) (by kernel_rfl) (by kernel_rfl) (fun _ => rfl) rfl (fun _ _ _ h => h) ?_
      refine lexIn_skip (i := 28) rfl rfl (by kernel_rfl) (by kernel_rfl) (by kernel_rfl) (by kernel_rfl) (fun _ => rfl) rfl (fun _ _ _ h => h) ?_
      refine lexIn_one (i := 29) rfl (by kernel_rfl) (fun K hK => ?_)
      unfold Turn
      go_simp
      first | refine hK _ _ ?_ | refine ⟨trivial, hK _ _ ?_⟩ | refine ⟨fun _ _ => trivial, hK _ _ ?_⟩ | refine ⟨fun _ h => (by cases h), hK _ _ ?_⟩
      clear hK K
      refine lexIn_one (i := 30) rfl (by kernel_rfl) (fun K hK => ?_)
      unfold Turn
      go_simp
      first | refine hK _ _ ?_ | refine ⟨trivial, hK _ _ ?_⟩ | refine ⟨fun _ _ => trivial, hK _ _ ?_⟩ | refine ⟨fun _ h => (by cases h), hK _ _ ?_⟩
      clear hK K
      refine lexIn_one (i := 31) rfl (by kernel_rfl) (fun K hK => ?_)
      unfold Turn
      go_simp
      first | refine hK _ _ ?_ | refine ⟨trivial, hK _ _ ?_⟩ | refine ⟨fun _ _ => trivial, hK _ _ ?_⟩ | refine ⟨fun _ h => (by cases h), hK _ _ ?_⟩
      clear hK K
      refine lexIn_one (i := 32) rfl (by kernel_rfl) (fun K hK => ?_)
      unfold Turn
      go_simp
      first | refine hK _ _ ?_ | refine ⟨trivial, hK _ _ ?_⟩ | refine ⟨fun _ _ => trivial, hK _ _ ?_⟩ | refine ⟨fun _ h => (by cases h), hK _ _ ?_⟩
      clear hK K
      refine wpAnyIn_done (by kernel_rfl) ?_ _
      gi_wp2
      go_ret
      exact .inr ⟨rfl, q, HQ.out.trans (by simp [Tr.toL]), HX.out⟩
end Go.Proofs.Ytbgnedeeeaapfaa
