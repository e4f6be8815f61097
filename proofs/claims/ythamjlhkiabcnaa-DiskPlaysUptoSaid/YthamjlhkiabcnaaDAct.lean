/-
  What the law's act does: one act on both disks.
-/
import Derived.Test.YthamjlhkiabcnaaDTells
namespace Go.Proofs.Ythamjlhkiabcnaa
open Go.RowKit

section
variable {w w' : World} {B a b : Nat} {S T : Nat → Prop} {d d0 d' : Dk}
theorem pair_step1 (hr : IsRef w B b T d0) (ha : ∀ k, S k → ¬ T k) (hB : B ≤ w.heap.size) (hS : ∀ k, S k → B ≤ k) (ht : Turned w B a S d' w') : ∃ S', IsDisk w' B a S' d' ∧ IsRef w' B b T d0 ∧ (∀ k, S' k → ¬ T k) ∧ Below B w w' ∧ Touch S w w' := by
  obtain ⟨S', h1, h2, h3⟩ := ht
  refine ⟨S', h1, hr.keep h3 fun k hk hs => ha k hs hk, fun k hk hT => ?_, h3.below hB hS, h3⟩
  rcases h2 k hk with e | e
  · exact ha k e hT
  · have := (hr.lt k hT).2; omega
theorem pair_step2 (hd : IsDisk w B a S d0) (ha : ∀ k, S k → ¬ T k) (hB : B ≤ w.heap.size) (hT : ∀ k, T k → B ≤ k) (ht : TurnedR w B b T d' w') : ∃ T', IsDisk w' B a S d0 ∧ IsRef w' B b T' d' ∧ (∀ k, S k → ¬ T' k) ∧ Below B w w' ∧ Touch T w w' := by
  obtain ⟨T', h1, h2, h3⟩ := ht
  refine ⟨T', hd.keep h3 fun k hk hs => ha k hk hs, h1, fun k hk hT' => ?_, h3.below hB hT, h3⟩
  rcases h2 k hT' with e | e
  · exact ha k hk e
  · have := (hd.lt k hk).2; omega

/-- What act answers. -/
def ActPost (w : World) (B : Nat) (d : Dk) (e : Ending) (w' : World) : Prop :=
  ∃ (a' b' : Nat) (S' T' : Nat → Prop) (d' : Dk), e = .returned (.tuple #[.pointer (some ⟨a', 0, none⟩), .pointer (some ⟨b', 0, none⟩), .bool true]) ∧ IsDisk w' B a' S' d' ∧ IsRef w' B b' T' d' ∧ (∀ k, S' k → ¬ T' k) ∧ d'.log.length ≤ d.log.length + 1 ∧ Below B w w'

theorem below_drew' {B : Nat} {w w1 : World} (h : Below B w.drew w1) : Below B w w1 := ⟨h.os, h.tape, h.output, h.size, h.block⟩

theorem below_base {B : Nat} {w w1 : World} (h : Below w.heap.size w w1) (hB : B ≤ w.heap.size) : Below B w w1 := h.mono hB

def BoxAt (n0 : Nat) (k p : Int) (s : ByteArray) (W : World) : Prop := W.cell? ⟨n0, 0, none⟩ = some (.int .i64 k) ∧ W.cell? ⟨n0, 1, none⟩ = some (.int .i64 p) ∧ W.cell? ⟨n0, 2, none⟩ = some (.string s)
theorem BoxAt.keep {n0 : Nat} {k p : Int} {s : ByteArray} {w w' : World} {U : Nat → Prop} (h : BoxAt n0 k p s w) (ht : Touch U w w') (hU : ¬ U n0) : BoxAt n0 k p s w' := by
  obtain ⟨h0, h1, h2⟩ := h
  have hb := ht.block n0 (World.block_lt_of_cell? w _ h0) hU
  exact ⟨(World.cell?_of_block (w := w) (a := ⟨n0, 0, none⟩) hb).trans h0, (World.cell?_of_block (w := w) (a := ⟨n0, 1, none⟩) hb).trans h1, (World.cell?_of_block (w := w) (a := ⟨n0, 2, none⟩) hb).trans h2⟩

theorem run_ret3 {x0 x1 x2 : Value} {fn : Func} {t0 t1 t2 : Tmp} (h : fn.results = #[.tmp t0, .tmp t1, .tmp t2]) (tmps : Array Value) (P : Program) (w : World) (h0 : tmps.getD t0 undef = x0) (h1 : tmps.getD t1 undef = x1) (h2 : tmps.getD t2 undef = x2) : (results fn tmps).run P w = .ok (.tuple #[x0, x1, x2]) w := by
  subst h0; subst h1; subst h2
  simp [results, h, go_sem]

set_option maxRecDepth 20000 in
set_option maxHeartbeats 12800000 in
theorem act_any (hd : IsDisk w B a S d) (hr : IsRef w B b T d) (ha : ∀ k, S k → ¬ T k) (hB : B ≤ w.heap.size) (x : Act3) (hx : ActOk x) (hl : d.log.length < 4294967296) :
    Calls Try.prog 15 #[.pointer (some ⟨a, 0, none⟩), .pointer (some ⟨b, 0, none⟩), .agg #[.int .i64 x.1, .int .i64 x.2.1, .string x.2.2]] w (ActPost w B d) := by
  obtain ⟨xk, xa, xs⟩ := x
  obtain ⟨⟨y0, y1⟩, ⟨y2, y3⟩, y4⟩ := hx
  simp only at y0 y1 y2 y3 y4
  have hba : Below w.heap.size w (w.alloc (.cells #[.int .i64 xk, .int .i64 xa, .string xs] 37)) := (Below.refl _ _).alloc (Nat.le_refl _) _
  have hbox : BoxAt w.heap.size xk xa xs (w.alloc (.cells #[.int .i64 xk, .int .i64 xa, .string xs] 37)) := ⟨cell_new _ _ _ _ _, cell_new _ _ _ _ _, cell_new _ _ _ _ _⟩
  have HD := Lib.hid (hd.below hba)
  have HR := Lib.hid (hr.below hba)
  have HA := Lib.hid ha
  have HSB := Lib.hid fun k hk => (hd.lt k hk).1
  have HTB := Lib.hid fun k hk => (hr.lt k hk).1
  have HSn : Hid (¬ S w.heap.size) := Lib.hid fun h => by have := (hd.lt _ h).2; omega
  have HTn : Hid (¬ T w.heap.size) := Lib.hid fun h => by have := (hr.lt _ h).2; omega
  have hB0 : Below B w (w.alloc (.cells #[.int .i64 xk, .int .i64 xa, .string xs] 37)) := hba.mono hB
  clear hd hr ha hba
  go_enter Try.func15, Try.ntmps15
  obtain ⟨z0, z1, z2⟩ := id hbox
  have HBox := Lib.hid hbox
  have hBW : B ≤ (w.alloc (.cells #[.int .i64 xk, .int .i64 xa, .string xs] 37)).heap.size := Nat.le_trans hB hB0.size
  clear hbox
  by_cases hk1 : xk = 1
  · have e1 : ((xk : Int) == 1) = true := by simp [hk1]
    clear hk1
    go_wp2_with fail
    generalize (w.alloc (.cells #[.int .i64 xk, .int .i64 xa, .string xs] 37)) = W0 at *
    refine lex_start [0, 1, 2, 3, 4, 5, 6, 9, 10, 11, 12, 13, 7, 8, 14, 15, 16, 17, 18] (S := fun W => BoxAt w.heap.size xk xa xs W) (by kernel_rfl) (HBox.out.keep (touch_drew W0 fun _ => False) fun h => h) (fun hS => ?_)
    simp only [inOrder, List.filterMap, List.getElem?_cons_succ, List.getElem?_cons_zero]
    refine lex_take (i := 0) (v := ?_) rfl (by kernel_rfl) (by kernel_rfl) (by kernel_rfl) (by rfl) hS ?_ ?_
    rotate_left
    · ((intro W hW; obtain ⟨k0, k1, k2⟩ := hW; go_simp) <;> with_reducible rfl)
    simp only [Act.put, List.setIfInBounds_toArray, List.set_cons_zero, List.set_cons_succ]
    refine lex_take (i := 1) (v := ?_) rfl (by kernel_rfl) (by kernel_rfl) (by kernel_rfl) (by rfl) hS ?_ ?_
    rotate_left
    · ((intro W hW; obtain ⟨k0, k1, k2⟩ := hW; go_simp) <;> with_reducible rfl)
    simp only [Act.put, List.setIfInBounds_toArray, List.set_cons_zero, List.set_cons_succ]
    refine lex_take (i := 2) (v := ?_) rfl (by kernel_rfl) (by kernel_rfl) (by kernel_rfl) (by rfl) hS ?_ ?_
    rotate_left
    · ((intro W hW; obtain ⟨k0, k1, k2⟩ := hW; go_simp) <;> with_reducible rfl)
    simp only [Act.put, List.setIfInBounds_toArray, List.set_cons_zero, List.set_cons_succ]
    refine lex_take (i := 3) (v := ?_) rfl (by kernel_rfl) (by kernel_rfl) (by kernel_rfl) (by rfl) hS ?_ ?_
    rotate_left
    · ((intro W hW; obtain ⟨k0, k1, k2⟩ := hW; go_simp) <;> with_reducible rfl)
    simp only [Act.put, List.setIfInBounds_toArray, List.set_cons_zero, List.set_cons_succ]
    refine lex_take (i := 4) (v := ?_) rfl (by kernel_rfl) (by kernel_rfl) (by kernel_rfl) (by rfl) hS ?_ ?_
    rotate_left
    · ((intro W hW; obtain ⟨k0, k1, k2⟩ := hW; go_simp) <;> with_reducible rfl)
    simp only [Act.put, List.setIfInBounds_toArray, List.set_cons_zero, List.set_cons_succ]
    refine lex_take (i := 5) (v := ?_) rfl (by kernel_rfl) (by kernel_rfl) (by kernel_rfl) (by rfl) hS ?_ ?_
    rotate_left
    · ((intro W hW; obtain ⟨k0, k1, k2⟩ := hW; go_simp) <;> with_reducible rfl)
    simp only [Act.put, List.setIfInBounds_toArray, List.set_cons_zero, List.set_cons_succ]
    refine lex_take (i := 6) (v := ?_) rfl (by kernel_rfl) (by kernel_rfl) (by kernel_rfl) (by rfl) hS ?_ ?_
    rotate_left
    · ((intro W hW; obtain ⟨k0, k1, k2⟩ := hW; go_simp) <;> with_reducible rfl)
    simp only [Act.put, List.setIfInBounds_toArray, List.set_cons_zero, List.set_cons_succ]
    refine lex_take (i := 9) (v := ?_) rfl (by kernel_rfl) (by kernel_rfl) (by kernel_rfl) (by rfl) hS ?_ ?_
    rotate_left
    · ((intro W hW; obtain ⟨k0, k1, k2⟩ := hW; go_simp) <;> with_reducible rfl)
    simp only [Act.put, List.setIfInBounds_toArray, List.set_cons_zero, List.set_cons_succ]
    refine lex_take (i := 10) (v := ?_) rfl (by kernel_rfl) (by kernel_rfl) (by kernel_rfl) (by rfl) hS ?_ ?_
    rotate_left
    · ((intro W hW; obtain ⟨k0, k1, k2⟩ := hW; go_simp) <;> with_reducible rfl)
    simp only [Act.put, List.setIfInBounds_toArray, List.set_cons_zero, List.set_cons_succ]
    refine lex_take (i := 11) (v := ?_) rfl (by kernel_rfl) (by kernel_rfl) (by kernel_rfl) (by rfl) hS ?_ ?_
    rotate_left
    · ((intro W hW; obtain ⟨k0, k1, k2⟩ := hW; go_simp) <;> with_reducible rfl)
    simp only [Act.put, List.setIfInBounds_toArray, List.set_cons_zero, List.set_cons_succ]
    refine lex_take (i := 12) (v := ?_) rfl (by kernel_rfl) (by kernel_rfl) (by kernel_rfl) (by rfl) hS ?_ ?_
    rotate_left
    · ((intro W hW; obtain ⟨k0, k1, k2⟩ := hW; go_simp) <;> with_reducible rfl)
    simp only [Act.put, List.setIfInBounds_toArray, List.set_cons_zero, List.set_cons_succ]
    refine lex_take (i := 13) (v := ?_) rfl (by kernel_rfl) (by kernel_rfl) (by kernel_rfl) (by rfl) hS ?_ ?_
    rotate_left
    · ((intro W hW; obtain ⟨k0, k1, k2⟩ := hW; go_simp) <;> with_reducible rfl)
    simp only [Act.put, List.setIfInBounds_toArray, List.set_cons_zero, List.set_cons_succ]
    have D1 := HD.out.keep (touch_drew W0 fun _ => False) (fun _ _ h => h)
    have R1 := HR.out.keep (touch_drew W0 fun _ => False) (fun _ _ h => h)
    refine lex_call (i := 7) rfl (by kernel_rfl) (by rfl) ?_ _ (write_any D1 xa xs y4 hl) ?_
    · go_simp
    rintro e u1 ⟨rfl, ht⟩
    obtain ⟨S1, m1, m2, m3, m4, m5⟩ := pair_step1 R1 HA.out hBW HSB.out ht
    have hS1 : BoxAt w.heap.size xk xa xs u1 := hS.keep m5 HSn.out
    refine ⟨_, rfl, fun W => BoxAt w.heap.size xk xa xs W, fun W h => h, hS1, ?_⟩
    simp only [Act.put, List.setIfInBounds_toArray, List.set_cons_zero, List.set_cons_succ]
    refine lex_call (i := 8) rfl (by kernel_rfl) (by rfl) ?_ _ (num_any (d.writeE xa xs) u1) ?_
    · go_simp
    rintro e u2 ⟨rfl, rfl⟩
    refine ⟨_, rfl, fun W => BoxAt w.heap.size xk xa xs W, fun W h => h, hS1, ?_⟩
    simp only [Act.put, List.setIfInBounds_toArray, List.set_cons_zero, List.set_cons_succ]
    refine lex_call (i := 14) rfl (by kernel_rfl) (by rfl) ?_ _ (refWrite_any m2 xa xs y4 hl) ?_
    · go_simp
    rintro e u3 ⟨rfl, ht2⟩
    obtain ⟨T1, n1, n2, n3, n4, n5⟩ := pair_step2 m1 m3 (Nat.le_trans hBW m4.size) HTB.out ht2
    have hS3 : BoxAt w.heap.size xk xa xs u3 := hS1.keep n5 HTn.out
    refine ⟨_, rfl, fun W => BoxAt w.heap.size xk xa xs W, fun W h => h, hS3, ?_⟩
    simp only [Act.put, List.setIfInBounds_toArray, List.set_cons_zero, List.set_cons_succ]
    refine lex_take (i := 15) (v := ?_) rfl (by kernel_rfl) (by kernel_rfl) (by kernel_rfl) (by rfl) hS3 ?_ ?_
    rotate_left
    · ((intro W hW; obtain ⟨k0, k1, k2⟩ := hW; go_simp) <;> with_reducible rfl)
    simp only [Act.put, List.setIfInBounds_toArray, List.set_cons_zero, List.set_cons_succ]
    refine lex_do (i := 16) rfl (by kernel_rfl) (by rfl) (fun K hK => ?_)
    go_simp
    refine hK _ _ ⟨hS3, ?_⟩
    clear hK K
    refine lex_do (i := 17) rfl (by kernel_rfl) (by rfl) (fun K hK => ?_)
    go_simp
    refine hK _ _ ⟨hS3, ?_⟩
    clear hK K
    refine lex_do (i := 18) rfl (by kernel_rfl) (by rfl) (fun K hK => ?_)
    go_simp
    refine hK _ _ ⟨hS3, ?_⟩
    clear hK K
    refine lex_done (by kernel_rfl) ?_
    go_wp2_with fail
    go_ret3
    exact ⟨a, b, S1, T1, d.write xa xs, rfl, n1, n2, n3, write_log d xa xs, hB0.trans ((below_drew' m4).trans n4)⟩
  · have e1 : ((xk : Int) == 1) = false := by simp [hk1]
    clear hk1
    by_cases hk2 : xk = 2
    · have e2 : ((xk : Int) == 2) = true := by simp [hk2]
      clear hk2
      by_cases hn : xa < -1
      · skip
        go_wp2_with fail
        generalize (w.alloc (.cells #[.int .i64 xk, .int .i64 xa, .string xs] 37)) = W0 at *
        refine lex_start [0, 1, 2, 3, 4, 7, 8, 9, 5, 6, 10, 11, 12, 13, 14] (S := fun W => BoxAt w.heap.size xk xa xs W) (by kernel_rfl) (HBox.out.keep (touch_drew W0 fun _ => False) fun h => h) (fun hS => ?_)
        simp only [inOrder, List.filterMap, List.getElem?_cons_succ, List.getElem?_cons_zero]
        refine lex_take (i := 0) (v := ?_) rfl (by kernel_rfl) (by kernel_rfl) (by kernel_rfl) (by rfl) hS ?_ ?_
        rotate_left
        · ((intro W hW; obtain ⟨k0, k1, k2⟩ := hW; go_simp) <;> with_reducible rfl)
        simp only [Act.put, List.setIfInBounds_toArray, List.set_cons_zero, List.set_cons_succ]
        refine lex_take (i := 1) (v := ?_) rfl (by kernel_rfl) (by kernel_rfl) (by kernel_rfl) (by rfl) hS ?_ ?_
        rotate_left
        · ((intro W hW; obtain ⟨k0, k1, k2⟩ := hW; go_simp) <;> with_reducible rfl)
        simp only [Act.put, List.setIfInBounds_toArray, List.set_cons_zero, List.set_cons_succ]
        refine lex_take (i := 2) (v := ?_) rfl (by kernel_rfl) (by kernel_rfl) (by kernel_rfl) (by rfl) hS ?_ ?_
        rotate_left
        · ((intro W hW; obtain ⟨k0, k1, k2⟩ := hW; go_simp) <;> with_reducible rfl)
        simp only [Act.put, List.setIfInBounds_toArray, List.set_cons_zero, List.set_cons_succ]
        refine lex_take (i := 3) (v := ?_) rfl (by kernel_rfl) (by kernel_rfl) (by kernel_rfl) (by rfl) hS ?_ ?_
        rotate_left
        · ((intro W hW; obtain ⟨k0, k1, k2⟩ := hW; go_simp) <;> with_reducible rfl)
        simp only [Act.put, List.setIfInBounds_toArray, List.set_cons_zero, List.set_cons_succ]
        refine lex_take (i := 4) (v := ?_) rfl (by kernel_rfl) (by kernel_rfl) (by kernel_rfl) (by rfl) hS ?_ ?_
        rotate_left
        · ((intro W hW; obtain ⟨k0, k1, k2⟩ := hW; go_simp) <;> with_reducible rfl)
        simp only [Act.put, List.setIfInBounds_toArray, List.set_cons_zero, List.set_cons_succ]
        refine lex_take (i := 7) (v := ?_) rfl (by kernel_rfl) (by kernel_rfl) (by kernel_rfl) (by rfl) hS ?_ ?_
        rotate_left
        · ((intro W hW; obtain ⟨k0, k1, k2⟩ := hW; go_simp) <;> with_reducible rfl)
        simp only [Act.put, List.setIfInBounds_toArray, List.set_cons_zero, List.set_cons_succ]
        refine lex_take (i := 8) (v := ?_) rfl (by kernel_rfl) (by kernel_rfl) (by kernel_rfl) (by rfl) hS ?_ ?_
        rotate_left
        · ((intro W hW; obtain ⟨k0, k1, k2⟩ := hW; go_simp) <;> with_reducible rfl)
        simp only [Act.put, List.setIfInBounds_toArray, List.set_cons_zero, List.set_cons_succ]
        refine lex_take (i := 9) (v := ?_) rfl (by kernel_rfl) (by kernel_rfl) (by kernel_rfl) (by rfl) hS ?_ ?_
        rotate_left
        · ((intro W hW; obtain ⟨k0, k1, k2⟩ := hW; go_simp) <;> with_reducible rfl)
        simp only [Act.put, List.setIfInBounds_toArray, List.set_cons_zero, List.set_cons_succ]
        have D1 := HD.out.keep (touch_drew W0 fun _ => False) (fun _ _ h => h)
        have R1 := HR.out.keep (touch_drew W0 fun _ => False) (fun _ _ h => h)
        refine lex_call (i := 5) rfl (by kernel_rfl) (by rfl) ?_ _ (arm_bad (a := a) xa hn W0.drew) ?_
        · go_simp
        rintro e u1 ⟨rfl, rfl⟩
        refine ⟨_, rfl, fun W => BoxAt w.heap.size xk xa xs W, fun W h => h, hS, ?_⟩
        simp only [Act.put, List.setIfInBounds_toArray, List.set_cons_zero, List.set_cons_succ]
        refine lex_call (i := 6) rfl (by kernel_rfl) (by rfl) ?_ _ (num_any 2 W0.drew) ?_
        · go_simp
        rintro e u2 ⟨rfl, rfl⟩
        refine ⟨_, rfl, fun W => BoxAt w.heap.size xk xa xs W, fun W h => h, hS, ?_⟩
        simp only [Act.put, List.setIfInBounds_toArray, List.set_cons_zero, List.set_cons_succ]
        refine lex_call (i := 10) rfl (by kernel_rfl) (by rfl) ?_ _ (refArm_bad (a := b) xa hn W0.drew) ?_
        · go_simp
        rintro e u3 ⟨rfl, rfl⟩
        refine ⟨_, rfl, fun W => BoxAt w.heap.size xk xa xs W, fun W h => h, hS, ?_⟩
        simp only [Act.put, List.setIfInBounds_toArray, List.set_cons_zero, List.set_cons_succ]
        refine lex_take (i := 11) (v := ?_) rfl (by kernel_rfl) (by kernel_rfl) (by kernel_rfl) (by rfl) hS ?_ ?_
        rotate_left
        · ((intro W hW; obtain ⟨k0, k1, k2⟩ := hW; go_simp) <;> with_reducible rfl)
        simp only [Act.put, List.setIfInBounds_toArray, List.set_cons_zero, List.set_cons_succ]
        refine lex_do (i := 12) rfl (by kernel_rfl) (by rfl) (fun K hK => ?_)
        go_simp
        refine hK _ _ ⟨hS, ?_⟩
        clear hK K
        refine lex_do (i := 13) rfl (by kernel_rfl) (by rfl) (fun K hK => ?_)
        go_simp
        refine hK _ _ ⟨hS, ?_⟩
        clear hK K
        refine lex_do (i := 14) rfl (by kernel_rfl) (by rfl) (fun K hK => ?_)
        go_simp
        refine hK _ _ ⟨hS, ?_⟩
        clear hK K
        refine lex_done (by kernel_rfl) ?_
        go_wp2_with fail
        go_ret3
        exact ⟨a, b, S, T, d, rfl, D1, R1, HA.out, by omega, hB0.drew⟩
      · skip
        go_wp2_with fail
        generalize (w.alloc (.cells #[.int .i64 xk, .int .i64 xa, .string xs] 37)) = W0 at *
        refine lex_start [0, 1, 2, 3, 4, 7, 8, 9, 5, 6, 10, 11, 12, 13, 14] (S := fun W => BoxAt w.heap.size xk xa xs W) (by kernel_rfl) (HBox.out.keep (touch_drew W0 fun _ => False) fun h => h) (fun hS => ?_)
        simp only [inOrder, List.filterMap, List.getElem?_cons_succ, List.getElem?_cons_zero]
        refine lex_take (i := 0) (v := ?_) rfl (by kernel_rfl) (by kernel_rfl) (by kernel_rfl) (by rfl) hS ?_ ?_
        rotate_left
        · ((intro W hW; obtain ⟨k0, k1, k2⟩ := hW; go_simp) <;> with_reducible rfl)
        simp only [Act.put, List.setIfInBounds_toArray, List.set_cons_zero, List.set_cons_succ]
        refine lex_take (i := 1) (v := ?_) rfl (by kernel_rfl) (by kernel_rfl) (by kernel_rfl) (by rfl) hS ?_ ?_
        rotate_left
        · ((intro W hW; obtain ⟨k0, k1, k2⟩ := hW; go_simp) <;> with_reducible rfl)
        simp only [Act.put, List.setIfInBounds_toArray, List.set_cons_zero, List.set_cons_succ]
        refine lex_take (i := 2) (v := ?_) rfl (by kernel_rfl) (by kernel_rfl) (by kernel_rfl) (by rfl) hS ?_ ?_
        rotate_left
        · ((intro W hW; obtain ⟨k0, k1, k2⟩ := hW; go_simp) <;> with_reducible rfl)
        simp only [Act.put, List.setIfInBounds_toArray, List.set_cons_zero, List.set_cons_succ]
        refine lex_take (i := 3) (v := ?_) rfl (by kernel_rfl) (by kernel_rfl) (by kernel_rfl) (by rfl) hS ?_ ?_
        rotate_left
        · ((intro W hW; obtain ⟨k0, k1, k2⟩ := hW; go_simp) <;> with_reducible rfl)
        simp only [Act.put, List.setIfInBounds_toArray, List.set_cons_zero, List.set_cons_succ]
        refine lex_take (i := 4) (v := ?_) rfl (by kernel_rfl) (by kernel_rfl) (by kernel_rfl) (by rfl) hS ?_ ?_
        rotate_left
        · ((intro W hW; obtain ⟨k0, k1, k2⟩ := hW; go_simp) <;> with_reducible rfl)
        simp only [Act.put, List.setIfInBounds_toArray, List.set_cons_zero, List.set_cons_succ]
        refine lex_take (i := 7) (v := ?_) rfl (by kernel_rfl) (by kernel_rfl) (by kernel_rfl) (by rfl) hS ?_ ?_
        rotate_left
        · ((intro W hW; obtain ⟨k0, k1, k2⟩ := hW; go_simp) <;> with_reducible rfl)
        simp only [Act.put, List.setIfInBounds_toArray, List.set_cons_zero, List.set_cons_succ]
        refine lex_take (i := 8) (v := ?_) rfl (by kernel_rfl) (by kernel_rfl) (by kernel_rfl) (by rfl) hS ?_ ?_
        rotate_left
        · ((intro W hW; obtain ⟨k0, k1, k2⟩ := hW; go_simp) <;> with_reducible rfl)
        simp only [Act.put, List.setIfInBounds_toArray, List.set_cons_zero, List.set_cons_succ]
        refine lex_take (i := 9) (v := ?_) rfl (by kernel_rfl) (by kernel_rfl) (by kernel_rfl) (by rfl) hS ?_ ?_
        rotate_left
        · ((intro W hW; obtain ⟨k0, k1, k2⟩ := hW; go_simp) <;> with_reducible rfl)
        simp only [Act.put, List.setIfInBounds_toArray, List.set_cons_zero, List.set_cons_succ]
        have D1 := HD.out.keep (touch_drew W0 fun _ => False) (fun _ _ h => h)
        have R1 := HR.out.keep (touch_drew W0 fun _ => False) (fun _ _ h => h)
        refine lex_call (i := 5) rfl (by kernel_rfl) (by rfl) ?_ _ (arm_ok D1 xa (by omega) (by omega)) ?_
        · go_simp
        rintro e u1 ⟨rfl, ht⟩
        obtain ⟨S1, m1, m2, m3, m4, m5⟩ := pair_step1 R1 HA.out hBW HSB.out ht
        have hS1 : BoxAt w.heap.size xk xa xs u1 := hS.keep m5 HSn.out
        refine ⟨_, rfl, fun W => BoxAt w.heap.size xk xa xs W, fun W h => h, hS1, ?_⟩
        simp only [Act.put, List.setIfInBounds_toArray, List.set_cons_zero, List.set_cons_succ]
        refine lex_call (i := 6) rfl (by kernel_rfl) (by rfl) ?_ _ (num_any 0 u1) ?_
        · go_simp
        rintro e u2 ⟨rfl, rfl⟩
        refine ⟨_, rfl, fun W => BoxAt w.heap.size xk xa xs W, fun W h => h, hS1, ?_⟩
        simp only [Act.put, List.setIfInBounds_toArray, List.set_cons_zero, List.set_cons_succ]
        refine lex_call (i := 10) rfl (by kernel_rfl) (by rfl) ?_ _ (refArm_ok m2 xa (by omega) (by omega)) ?_
        · go_simp
        rintro e u3 ⟨rfl, ht2⟩
        obtain ⟨T1, n1, n2, n3, n4, n5⟩ := pair_step2 m1 m3 (Nat.le_trans hBW m4.size) HTB.out ht2
        have hS3 : BoxAt w.heap.size xk xa xs u3 := hS1.keep n5 HTn.out
        refine ⟨_, rfl, fun W => BoxAt w.heap.size xk xa xs W, fun W h => h, hS3, ?_⟩
        simp only [Act.put, List.setIfInBounds_toArray, List.set_cons_zero, List.set_cons_succ]
        refine lex_take (i := 11) (v := ?_) rfl (by kernel_rfl) (by kernel_rfl) (by kernel_rfl) (by rfl) hS3 ?_ ?_
        rotate_left
        · ((intro W hW; obtain ⟨k0, k1, k2⟩ := hW; go_simp) <;> with_reducible rfl)
        simp only [Act.put, List.setIfInBounds_toArray, List.set_cons_zero, List.set_cons_succ]
        refine lex_do (i := 12) rfl (by kernel_rfl) (by rfl) (fun K hK => ?_)
        go_simp
        refine hK _ _ ⟨hS3, ?_⟩
        clear hK K
        refine lex_do (i := 13) rfl (by kernel_rfl) (by rfl) (fun K hK => ?_)
        go_simp
        refine hK _ _ ⟨hS3, ?_⟩
        clear hK K
        refine lex_do (i := 14) rfl (by kernel_rfl) (by rfl) (fun K hK => ?_)
        go_simp
        refine hK _ _ ⟨hS3, ?_⟩
        clear hK K
        refine lex_done (by kernel_rfl) ?_
        go_wp2_with fail
        go_ret3
        exact ⟨a, b, S1, T1, { d with left := xa }, rfl, n1, n2, n3, Nat.le_succ _, hB0.trans ((below_drew' m4).trans n4)⟩
    · have e2 : ((xk : Int) == 2) = false := by simp [hk2]
      clear hk2
      by_cases hk3 : xk = 3
      · have e3 : ((xk : Int) == 3) = true := by simp [hk3]
        clear hk3
        go_wp2_with fail
        generalize (w.alloc (.cells #[.int .i64 xk, .int .i64 xa, .string xs] 37)) = W0 at *
        refine (start_any HD.out).mono ?_
        rintro e u1 ⟨rfl, ht⟩
        obtain ⟨S1, m1, m2, m3, m4, m5⟩ := pair_step1 HR.out HA.out hBW HSB.out ht
        have M1 := Lib.hid m1
        have M2 := Lib.hid m2
        have M3 := Lib.hid m3
        clear m1 m2 m3 m5 ht
        go_wp2_with fail
        refine (refStart_any M2.out).mono ?_
        rintro e u2 ⟨rfl, ht⟩
        obtain ⟨T1, n1, n2, n3, n4, n5⟩ := pair_step2 M1.out M3.out (Nat.le_trans hBW m4.size) HTB.out ht
        have N1 := Lib.hid n1
        have N2 := Lib.hid n2
        have N3 := Lib.hid n3
        clear n1 n2 n3 n5 ht
        go_wp2_with fail
        go_ret3
        exact ⟨a, b, S1, T1, _, rfl, N1.out, N2.out, N3.out, Nat.le_succ _, hB0.trans (m4.trans n4)⟩
      · have e3 : ((xk : Int) == 3) = false := by simp [hk3]
        clear hk3
        by_cases hk4 : xk = 4
        · have e4 : ((xk : Int) == 4) = true := by simp [hk4]
          clear hk4
          by_cases hc : xa < 0 ∨ (d.log.length : Int) < xa
          · have Hc := Lib.hid hc
            clear hc
            go_wp2_with fail
            generalize (w.alloc (.cells #[.int .i64 xk, .int .i64 xa, .string xs] 37)) = W0 at *
            refine (cut_arg HD.out xa Hc.out).mono ?_
            rintro e u1 ⟨rfl, rfl⟩
            go_wp2_with fail
            refine (refCut_arg HR.out xa Hc.out).mono ?_
            rintro e u1 ⟨rfl, rfl⟩
            go_wp2_with fail
            refine (num_any _ _).mono ?_
            rintro e u1 ⟨rfl, rfl⟩
            go_wp2_with fail
            go_ret3
            exact ⟨a, b, S, T, d, rfl, HD.out, HR.out, HA.out, by omega, hB0⟩
          · obtain ⟨m, rfl⟩ := Int.eq_ofNat_of_zero_le (show 0 ≤ xa by omega)
            have hm : m ≤ d.log.length := by omega
            clear hc
            go_wp2_with fail
            generalize (w.alloc (.cells #[.int .i64 xk, .int .i64 (m : Int), .string xs] 37)) = W0 at *
            refine (cut_ok HD.out m hm hBW).mono ?_
            rintro e u1 ⟨c, S1, rfl, hc, hcs, hb1⟩
            have C1 := Lib.hid hc
            have D1 := Lib.hid (HD.out.below hb1)
            have R1 := Lib.hid (HR.out.below hb1)
            have y1 := cell_later hb1 z1
            clear hc
            go_wp2_with fail
            refine (refCut_ok R1.out m hm (Nat.le_trans hBW hb1.size)).mono ?_
            rintro e u2 ⟨x, T1, rfl, hx, hxs, hb2⟩
            have X2 := Lib.hid hx
            have C2 := Lib.hid (C1.out.below hb2)
            have D2 := Lib.hid (D1.out.below hb2)
            have R2 := Lib.hid (R1.out.below hb2)
            have HDis : Hid (∀ q, S1 q → ¬ T1 q) := Lib.hid fun q h1 h2 => by have := (C1.out.lt q h1).2; have := hxs q h2; omega
            have hqp : Hid (∀ p : Option Addr, True) := Lib.hid fun _ => trivial
            clear hx hcs hxs
            go_wp2_with fail
            refine (num_any _ _).mono ?_
            rintro e u3 ⟨rfl, rfl⟩
            go_wp2_with fail
            refine (tells_any D2.out R2.out).mono ?_
            rintro e u3 ⟨rfl, hb3⟩
            have C3 := Lib.hid (C2.out.below hb3)
            have X3 := Lib.hid (X2.out.below hb3)
            have hbB := (below_base hb1 hBW).trans ((below_base hb2 (Nat.le_trans hBW hb1.size)).trans (below_base hb3 (Nat.le_trans (Nat.le_trans hBW hb1.size) hb2.size)))
            clear C2 X2 D2 R2
            go_wp2_with fail
            go_ret3
            exact ⟨c, x, S1, T1, _, rfl, C3.out, X3.out, HDis.out, by rw [d.played_log, List.length_take]; omega, hB0.trans hbB⟩
        · have e4 : ((xk : Int) == 4) = false := by simp [hk4]
          clear hk4
          by_cases hk5 : xk = 5
          · have e5 : ((xk : Int) == 5) = true := by simp [hk5]
            clear hk5
            go_wp2_with fail
            generalize (w.alloc (.cells #[.int .i64 xk, .int .i64 xa, .string xs] 37)) = W0 at *
            refine (copy_any HD.out hBW).mono ?_
            rintro e u1 ⟨c, S1, rfl, hc, hcs, hb1⟩
            have C1 := Lib.hid hc
            have D1 := Lib.hid (HD.out.below hb1)
            have R1 := Lib.hid (HR.out.below hb1)
            have hdc : Hid (∀ q, S q → ¬ S1 q) := Lib.hid fun q h1 h2 => by have := (HD.out.lt q h1).2; have := hcs q h2; omega
            have hcr : Hid (∀ q, S1 q → ¬ T q) := Lib.hid fun q h1 h2 => by have := (HR.out.lt q h2).2; have := hcs q h1; omega
            have b1 := below_base hb1 hBW
            clear hc hcs
            go_wp2_with fail
            refine (arm_ok D1.out (-1) (by decide) (by decide)).mono ?_
            rintro e u2 ⟨rfl, ht⟩
            obtain ⟨S2, h1, h2, h3⟩ := ht
            have D2 := Lib.hid h1
            have C2 := Lib.hid (C1.out.keep h3 fun q hq hs => hdc.out q hs hq)
            have R2 := Lib.hid (R1.out.keep h3 fun q hq hs => HA.out q hs hq)
            have hdc2 : Hid (∀ q, S2 q → ¬ S1 q) := Lib.hid fun q hq hs => (h2 q hq).elim (fun e => hdc.out q e hs) fun e => by have := (C1.out.lt q hs).2; omega
            have hdr2 : Hid (∀ q, S2 q → ¬ T q) := Lib.hid fun q hq hs => (h2 q hq).elim (fun e => HA.out q e hs) fun e => by have := (R1.out.lt q hs).2; omega
            have b2 := b1.trans (h3.below (Nat.le_trans hBW hb1.size) HSB.out)
            clear h1 h2 h3 hdc
            go_wp2_with fail
            refine (write_any D2.out 0 ⟨#[103, 111, 110, 101]⟩ (by decide) hl).mono ?_
            rintro e u3 ⟨rfl, ht⟩
            obtain ⟨S3, h1, h2, h3⟩ := ht
            have C3 := Lib.hid (C2.out.keep h3 fun q hq hs => hdc2.out q hs hq)
            have R3 := Lib.hid (R2.out.keep h3 fun q hq hs => hdr2.out q hs hq)
            have b3 := b2.trans (h3.below (Nat.le_trans hBW b2.size) fun q hq => (D2.out.lt q hq).1)
            clear h1 h2 h3
            go_wp2_with fail
            go_ret3
            exact ⟨c, b, S1, T, _, rfl, C3.out, R3.out, hcr.out, Nat.le_succ _, hB0.trans b3⟩
          · have e5 : ((xk : Int) == 5) = false := by simp [hk5]
            clear hk5
            go_wp2_with fail
            generalize (w.alloc (.cells #[.int .i64 xk, .int .i64 xa, .string xs] 37)) = W0 at *
            go_ret3
            exact ⟨a, b, S, T, d, rfl, HD.out, HR.out, HA.out, by omega, hB0⟩
end

end Go.Proofs.Ythamjlhkiabcnaa
