/-
  What the law hands to Merge: it counts its calls, and keeps what it was asked for.
-/
import Derived.Test.YtkobiimkaimbaaaKList
import Derived.Test.YtkobiimkaimbaaaKBuilt
import Derived.Maps.AppendAt
import Derived.Laws.OwnMore
import Derived.RangeFuncBox
namespace Go.Proofs.Ytkobiimkaimbaaa
open Go.RowKit
attribute [local go_sem] Oper.semAt_some
set_option linter.unusedVariables false

abbrev IntN : TypeId := 3
abbrev SlI : TypeId := 50
/-- What lies below B stays; so do all blocks but those of ints and of lists of ints. -/
def Fr (B : Nat) (w w' : World) : Prop := Below B w w' ∧ ∀ T, T ≠ IntN → T ≠ SlI → Hold T w w'
theorem Fr.refl (B : Nat) (w : World) : Fr B w w := ⟨Below.refl _ _, fun T _ _ b cs h => h⟩
theorem Fr.trans {B : Nat} {a b c : World} (h : Fr B a b) (k : Fr B b c) : Fr B a c := ⟨h.1.trans k.1, fun T h1 h2 => (h.2 T h1 h2).trans (k.2 T h1 h2)⟩
theorem Fr.of {B : Nat} {w w' : World} (h : Below w.heap.size w w') (hB : B ≤ w.heap.size) : Fr B w w' := ⟨h.mono hB, fun T _ _ => Hold.below h⟩
theorem Fr.size {B : Nat} {w w' : World} (h : Fr B w w') : w.heap.size ≤ w'.heap.size := h.1.size
theorem Fr.setNew {B E o : Nat} {w w' : World} (h : Fr B w w') (hE : w.heap.size ≤ E) (hB : B ≤ E) (v : Value) : Fr B w (w'.setCell ⟨E, o, none⟩ v) :=
  ⟨h.1.setCell (p := ⟨E, o, none⟩) hB v, fun T h1 h2 b cs hb => by
    have := (Array.getElem?_eq_some_iff.1 hb).1
    rw [heap_setCell_other _ _ _ _ (show b ≠ E by omega)]; exact h.2 T h1 h2 b cs hb⟩
theorem Hold.grown {T T' : TypeId} {w w' : World} {row : Option Nat} (hg : w.grownBy w' row) (hr : ∀ k, row = some k → ∃ cs, w.heap[k]? = some (Obj.cells cs T')) (hT : T ≠ T') : Hold T w w' := fun b cs hb => by
  rw [hg.block b (Array.getElem?_eq_some_iff.1 hb).1 (fun e => ?_)]
  · exact hb
  · obtain ⟨cs', h⟩ := hr b e.symm
    rw [hb] at h
    simp only [Option.some.injEq, Obj.cells.injEq] at h
    exact hT h.2.1

theorem ne_row {W : World} {T T' : TypeId} {b : Nat} {cs cs' : Array Value} (h : W.heap[b]? = some (Obj.cells cs T)) (h' : W.heap[b]? = some (Obj.cells cs' T')) (hT : T ≠ T') : False := by
  rw [h] at h'
  simp only [Option.some.injEq, Obj.cells.injEq] at h'
  exact hT h'.2.1
theorem nx_of {v vx vy : Value} {bc n k : Nat} (at5 : v.ownBlock = vx.ownBlock ∨ v.ownBlock = some n) (xc : vx.ownBlock ≠ some bc) (hyx : vy.ownBlock = none ∨ vy.ownBlock ≠ vx.ownBlock) (lt : ∀ j, vy.ownBlock = some j → j < n) (hb : bc < n) (hk : v.ownBlock = some k) :
    k ≠ bc ∧ vy.ownBlock ≠ some k := by
  rcases at5 with h | h
  · rw [hk] at h
    refine ⟨fun e => xc (by rw [← h, e]), fun e => ?_⟩
    rcases hyx with h' | h'
    · rw [h'] at e; cases e
    · exact h' (e.trans h)
  · rw [hk] at h
    have hn : k = n := Option.some.inj h
    refine ⟨by omega, fun e => ?_⟩
    have := lt k e
    omega
/-- What was asked for so far. -/
structure Log (W : World) (B bc bx b3 : Nat) (vx vy : Value) (lg : List (Int × Int)) : Prop where
  c : W.heap[bc]? = some (Obj.cells #[.int .i64 (lg.length : Int)] IntN)
  hx : W.heap[bx]? = some (Obj.cells #[vx] SlI)
  hy : W.heap[b3]? = some (Obj.cells #[vy] SlI)
  gc : B ≤ bc
  gx : B ≤ bx
  gy : B ≤ b3
  xy : bx ≠ b3
  ox : W.ownsRow B IntN 1 vx lg.length (ints (lg.map Prod.fst))
  oy : W.ownsRow B IntN 1 vy lg.length (ints (lg.map Prod.snd))
  xc : vx.ownBlock ≠ some bc
  yc : vy.ownBlock ≠ some bc
  nxy : vx.ownBlock = none ∨ vx.ownBlock ≠ vy.ownBlock
theorem Log.hold {W W' : World} {B bc bx b3 : Nat} {vx vy : Value} {lg : List (Int × Int)} (h : Log W B bc bx b3 vx vy lg) (h1 : Hold IntN W W') (h2 : Hold SlI W W') : Log W' B bc bx b3 vx vy lg :=
  ⟨h1 _ _ h.c, h2 _ _ h.hx, h2 _ _ h.hy, h.gc, h.gx, h.gy, h.xy, own_hold h.ox h1, own_hold h.oy h1, h.xc, h.yc, h.nxy⟩
theorem Log.base {W : World} {B bc bx b3 : Nat} {vx vy : Value} {lg : List (Int × Int)} (h : Log W B bc bx b3 vx vy lg) : B ≤ W.heap.size := Nat.le_trans h.gc (Nat.le_of_lt (Array.getElem?_eq_some_iff.1 h.c).1)
theorem Log.below {W W' : World} {B bc bx b3 : Nat} {vx vy : Value} {lg : List (Int × Int)} (h : Log W B bc bx b3 vx vy lg) (hb : Below W.heap.size W W') : Log W' B bc bx b3 vx vy lg :=
  ⟨Hold.below hb _ _ h.c, Hold.below hb _ _ h.hx, Hold.below hb _ _ h.hy, h.gc, h.gx, h.gy, h.xy, own_hold h.ox (Hold.below hb), own_hold h.oy (Hold.below hb), h.xc, h.yc, h.nxy⟩

abbrev hw (x y : Int) : Int := wrap64 (wrap64 (3 * x) + y)
abbrev HowS (bc bx b3 : Nat) : Value := .func (.func 28) #[] #[.pointer (some ⟨bc, 0, none⟩), .pointer (some ⟨bx, 0, none⟩), .pointer (some ⟨b3, 0, none⟩)]

set_option maxRecDepth 100000 in
set_option maxHeartbeats 3200000 in
theorem howS {W : World} {B bc bx b3 : Nat} {vx vy : Value} {lg : List (Int × Int)} (p q : Int) (h : Log W B bc bx b3 vx vy lg) (hn : lg.length < 1000) :
    Calls Try.prog 28 #[.int .i64 p, .int .i64 q, .pointer (some ⟨bc, 0, none⟩), .pointer (some ⟨bx, 0, none⟩), .pointer (some ⟨b3, 0, none⟩)] W fun e W' =>
      e = .returned (.int .i64 (hw p q)) ∧ (∃ vx' vy', Log W' B bc bx b3 vx' vy' (lg ++ [(p, q)])) ∧ Fr B W W' := by
  obtain ⟨i0, hi0, hz0, hz1, hz2⟩ := info_parts rowI
  obtain ⟨hc, hx, hy, gc, gx, gy, hxy, ox, oy, xc, yc, nxy⟩ := h
  obtain ⟨ax, cx, rfl⟩ := (row_of_own ox).shape
  obtain ⟨ay, cy, rfl⟩ := (row_of_own oy).shape
  have hcx : bc ≠ bx := fun e => by subst e; rw [hc] at hx; simp only [Option.some.injEq, Obj.cells.injEq] at hx; exact absurd hx.2.1 (by decide)
  have hcy : bc ≠ b3 := fun e => by subst e; rw [hc] at hy; simp only [Option.some.injEq, Obj.cells.injEq] at hy; exact absurd hy.2.1 (by decide)
  have lc := (Array.getElem?_eq_some_iff.1 hc).1
  have lx := (Array.getElem?_eq_some_iff.1 hx).1
  have ly := (Array.getElem?_eq_some_iff.1 hy).1
  have kc : W.cell? ⟨bc, 0, none⟩ = some (.int .i64 (lg.length : Int)) := cellB hc rfl
  have fc : W.frozen? ⟨bc, 0, none⟩ = false := frozenB hc
  -- behind the count
  have g1 := grownBy_setCell' W bc (.int .i64 ((lg.length : Int) + 1))
  have hc1 : (W.setCell ⟨bc, 0, none⟩ (.int .i64 ((lg.length : Int) + 1))).heap[bc]? = some (Obj.cells #[.int .i64 ((lg.length : Int) + 1)] IntN) := setCellB hc
  have hx1 : (W.setCell ⟨bc, 0, none⟩ (.int .i64 ((lg.length : Int) + 1))).heap[bx]? = some (Obj.cells #[.slice ax lg.length cx] SlI) := (heap_setCell_other W _ _ _ (fun e => hcx e.symm)).trans hx
  have hy1 : (W.setCell ⟨bc, 0, none⟩ (.int .i64 ((lg.length : Int) + 1))).heap[b3]? = some (Obj.cells #[.slice ay lg.length cy] SlI) := (heap_setCell_other W _ _ _ (fun e => hcy e.symm)).trans hy
  have ox1 := ox.kept g1 (.inr xc)
  have oy1 := oy.kept g1 (.inr yc)
  have fr1 : Fr B W (W.setCell ⟨bc, 0, none⟩ (.int .i64 ((lg.length : Int) + 1))) := ⟨(Below.refl _ _).setCell (p := ⟨bc, 0, none⟩) gc _, fun T h1 _ => Hold.setCell hc (fun e => h1 e.symm)⟩
  have k1 : (W.setCell ⟨bc, 0, none⟩ (.int .i64 ((lg.length : Int) + 1))).cell? ⟨bx, 0, none⟩ = some (.slice ax lg.length cx) := cellB hx1 rfl
  have HC1 := Lib.hid hc1
  have HX1 := Lib.hid hx1
  have HY1 := Lib.hid hy1
  have OX1 := Lib.hid ox1
  have OY1 := Lib.hid oy1
  have FR1 := Lib.hid fr1
  have S1 : (W.setCell ⟨bc, 0, none⟩ (.int .i64 ((lg.length : Int) + 1))).heap.size = W.heap.size := by simp
  have HS1 := Lib.hid S1
  clear g1 hc1 hx1 hy1 ox1 oy1 fr1 ox oy S1
  go_enter Try.func28, Try.ntmps28
  have hyx : (Value.slice ay lg.length cy).ownBlock = none ∨ (Value.slice ay lg.length cy).ownBlock ≠ (Value.slice ax lg.length cx).ownBlock := by
    rcases nxy with h | h
    · cases hq : (Value.slice ay lg.length cy).ownBlock with
      | none => exact .inl rfl
      | some k => right; rw [h]; simp
    · exact .inr fun e => h e.symm
  have bA : Below (W.setCell ⟨bc, 0, none⟩ (.int .i64 ((lg.length : Int) + 1))).heap.size (W.setCell ⟨bc, 0, none⟩ (.int .i64 ((lg.length : Int) + 1))) ((W.setCell ⟨bc, 0, none⟩ (.int .i64 ((lg.length : Int) + 1))).alloc (.cells #[.int .i64 p] 3)) := (Below.refl _ _).alloc (Nat.le_refl _) _
  have HCA := Lib.hid (Hold.below bA _ _ HC1.out)
  have HXA := Lib.hid (Hold.below bA _ _ HX1.out)
  have HYA := Lib.hid (Hold.below bA _ _ HY1.out)
  have OXA := Lib.hid (own_hold OX1.out (Hold.below bA))
  have OYA := Lib.hid (own_hold OY1.out (Hold.below bA))
  have FRA := Lib.hid (FR1.out.trans (Fr.of bA (by rw [HS1.out]; omega)))
  have SA : Hid (((W.setCell ⟨bc, 0, none⟩ (.int .i64 ((lg.length : Int) + 1))).alloc (.cells #[.int .i64 p] 3)).heap.size = W.heap.size + 1) := Lib.hid (by simp)
  have XC := Lib.hid xc
  have YC := Lib.hid yc
  have HYX := Lib.hid hyx
  clear bA xc yc nxy hyx hc hx hy
  go_wp2_with (first
    | (at_builtin; (refine wpList_append_own_at _ rfl _ _ 50 rfl B 3 i0 (.int .i64 0) 1 8 Try.underlying50 hi0 hz0 hz1 hz2 rfl (by decide) _ _ _ rfl OXA.out ⟨W.heap.size, 0, none⟩ 1 1 [.int .i64 p] rfl rfl (by have := cell_one_new (W.setCell ⟨bc, 0, none⟩ (.int .i64 ((lg.length : Int) + 1))) (.int .i64 p) 3; rw [HS1.out] at this; exact this) (by simp [Value.oneCell']) (by unfold maxLen; omega) (by omega) (by have := SA.out; omega) ?_); (intro v5 w5 o5 g5 _ at5); (obtain ⟨a5, c5, rfl⟩ := (row_of_own o5).shape); (have hc5 : w5.heap[bc]? = some (Obj.cells #[.int .i64 ((lg.length : Int) + 1)] IntN) := (g5.block bc (by have := SA.out; omega) (fun e => XC.out e.symm)).trans HCA.out); (have hx5 : w5.heap[bx]? = some (Obj.cells #[.slice ax lg.length cx] SlI) := (g5.block bx (by have := SA.out; omega) (fun e => by obtain ⟨_, cs, hcs⟩ := own_type OXA.out e.symm; exact ne_row HXA.out hcs (by decide))).trans HXA.out); (have hy5 : w5.heap[b3]? = some (Obj.cells #[.slice ay lg.length cy] SlI) := (g5.block b3 (by have := SA.out; omega) (fun e => by obtain ⟨_, cs, hcs⟩ := own_type OXA.out e.symm; exact ne_row HYA.out hcs (by decide))).trans HYA.out); (have oy5 := OYA.out.kept g5 HYX.out); (have fr5 := FRA.out.trans ⟨grown_below g5 (by have := SA.out; omega) (fun k e => (own_type OXA.out e).1), fun T h1 _ => Hold.grown g5 (fun k e => by obtain ⟨_, cs, hcs⟩ := own_type OXA.out e; exact ⟨cs, hcs⟩) h1⟩); (have s5 : W.heap.size + 1 ≤ w5.heap.size := by have := g5.size; have := SA.out; omega); (have hx6 : (w5.setCell ⟨bx, 0, none⟩ (.slice a5 (lg.length + 1) c5)).heap[bx]? = some (Obj.cells #[.slice a5 (lg.length + 1) c5] SlI) := setCellB hx5); (have hc6 := (heap_setCell_other w5 ⟨bx, 0, none⟩ bc (.slice a5 (lg.length + 1) c5) hcx).trans hc5); (have hy6 := (heap_setCell_other w5 ⟨bx, 0, none⟩ b3 (.slice a5 (lg.length + 1) c5) (fun e => hxy e.symm)).trans hy5); (have o6 := own_hold o5 (Hold.setCell (o := 0) (v := .slice a5 (lg.length + 1) c5) hx5 (by decide))); (have oy6 := own_hold oy5 (Hold.setCell (o := 0) (v := .slice a5 (lg.length + 1) c5) hx5 (by decide))); (have fr6 : Fr B W (w5.setCell ⟨bx, 0, none⟩ (.slice a5 (lg.length + 1) c5)) := fr5.trans ⟨(Below.refl _ _).setCell (p := ⟨bx, 0, none⟩) gx _, fun T _ h2 => Hold.setCell hx5 (fun e => h2 e.symm)⟩); (have k5 : w5.cell? ⟨bx, 0, none⟩ = some (.slice ax lg.length cx) := cellB hx5 rfl); (have z5 : w5.frozen? ⟨bx, 0, none⟩ = false := frozenB hx5); (have k6 : (w5.setCell ⟨bx, 0, none⟩ (.slice a5 (lg.length + 1) c5)).cell? ⟨b3, 0, none⟩ = some (.slice ay lg.length cy) := cellB hy6 rfl); (have S6 : Hid ((w5.setCell ⟨bx, 0, none⟩ (.slice a5 (lg.length + 1) c5)).heap.size = w5.heap.size) := Lib.hid (by simp)); (have bB : Below (w5.setCell ⟨bx, 0, none⟩ (.slice a5 (lg.length + 1) c5)).heap.size (w5.setCell ⟨bx, 0, none⟩ (.slice a5 (lg.length + 1) c5)) ((w5.setCell ⟨bx, 0, none⟩ (.slice a5 (lg.length + 1) c5)).alloc (.cells #[.int .i64 q] 3)) := (Below.refl _ _).alloc (Nat.le_refl _) _); (have HCB := Lib.hid (Hold.below bB _ _ hc6)); (have HXB := Lib.hid (Hold.below bB _ _ hx6)); (have HYB := Lib.hid (Hold.below bB _ _ hy6)); (have OB := Lib.hid (own_hold o6 (Hold.below bB))); (have OYB := Lib.hid (own_hold oy6 (Hold.below bB))); (have FRB := Lib.hid (fr6.trans (Fr.of bB (by rw [S6.out]; omega)))); (have SB : Hid (((w5.setCell ⟨bx, 0, none⟩ (.slice a5 (lg.length + 1) c5)).alloc (.cells #[.int .i64 q] 3)).heap.size = w5.heap.size + 1) := Lib.hid (by simp)); (have AT5 := Lib.hid at5); (have HS5 := Lib.hid s5); (clear hc5 hx5 hy5 o5 oy5 fr5 at5 g5 hx6 hc6 hy6 o6 oy6 fr6 bB s5))
    | (at_builtin; (have nx : ∀ k, (Value.slice a5 (lg.length + 1) c5).ownBlock = some k → (k ≠ bc ∧ (Value.slice ay lg.length cy).ownBlock ≠ some k) := fun k hk => nx_of AT5.out XC.out HYX.out (fun j hj => (World.ownsRow.lt OYA.out j hj).2) (by have := SA.out; omega) hk); (refine wpList_append_own_at _ rfl _ _ 50 rfl B 3 i0 (.int .i64 0) 1 8 Try.underlying50 hi0 hz0 hz1 hz2 rfl (by decide) _ _ _ rfl OYB.out ⟨w5.heap.size, 0, none⟩ 1 1 [.int .i64 q] rfl rfl (by have := cell_one_new (w5.setCell ⟨bx, 0, none⟩ (.slice a5 (lg.length + 1) c5)) (.int .i64 q) 3; rw [S6.out] at this; exact this) (by simp [Value.oneCell']) (by unfold maxLen; omega) (by omega) (by have := SB.out; have := HS5.out; omega) ?_); (intro v8 w8 o8 g8 _ at8); (obtain ⟨a8, c8, rfl⟩ := (row_of_own o8).shape); (have hc8 : w8.heap[bc]? = some (Obj.cells #[.int .i64 ((lg.length : Int) + 1)] IntN) := (g8.block bc (by have := SB.out; have := HS5.out; omega) (fun e => YC.out e.symm)).trans HCB.out); (have hx8 : w8.heap[bx]? = some (Obj.cells #[.slice a5 (lg.length + 1) c5] SlI) := (g8.block bx (by have := SB.out; have := HS5.out; omega) (fun e => by obtain ⟨_, cs, hcs⟩ := own_type OYB.out e.symm; exact ne_row HXB.out hcs (by decide))).trans HXB.out); (have hy8 : w8.heap[b3]? = some (Obj.cells #[.slice ay lg.length cy] SlI) := (g8.block b3 (by have := SB.out; have := HS5.out; omega) (fun e => by obtain ⟨_, cs, hcs⟩ := own_type OYB.out e.symm; exact ne_row HYB.out hcs (by decide))).trans HYB.out); (have ox8 := OB.out.kept g8 (by cases hq : (Value.slice a5 (lg.length + 1) c5).ownBlock with | none => exact .inl rfl | some k => exact .inr (fun e => (nx k hq).2 e.symm))); (have fr8 := FRB.out.trans ⟨grown_below g8 (by have := SB.out; have := HS5.out; omega) (fun k e => (own_type OYB.out e).1), fun T h1 _ => Hold.grown g8 (fun k e => by obtain ⟨_, cs, hcs⟩ := own_type OYB.out e; exact ⟨cs, hcs⟩) h1⟩); (have k8 : w8.cell? ⟨b3, 0, none⟩ = some (.slice ay lg.length cy) := cellB hy8 rfl); (have z8 : w8.frozen? ⟨b3, 0, none⟩ = false := frozenB hy8); (have HC8 := Lib.hid hc8); (have HX8 := Lib.hid hx8); (have HY8 := Lib.hid hy8); (have OX8 := Lib.hid ox8); (have O8 := Lib.hid o8); (have FR8 := Lib.hid fr8); (have AT8 := Lib.hid at8); (have NX := Lib.hid nx); (have S8 : Hid (w5.heap.size + 1 ≤ w8.heap.size) := Lib.hid (by have := g8.size; have := SB.out; omega)); (clear hc8 hx8 hy8 ox8 o8 fr8 at8 g8 nx)))
  refine bodyPost_ret (v := .int .i64 (hw p q)) (by simp [results, Try.results28, go_sem]) rfl ⟨rfl, ⟨.slice a5 (lg.length + 1) c5, .slice a8 (lg.length + 1) c8, ?_⟩, FR8.out.trans ⟨(Below.refl _ _).setCell (p := ⟨b3, 0, none⟩) gy _, fun T _ h2 => Hold.setCell HY8.out (fun e => h2 e.symm)⟩⟩
  have hl9 : (lg ++ [(p, q)]).length = lg.length + 1 := by simp
  have hI := Hold.setCell (T := IntN) (o := 0) (v := .slice a8 (lg.length + 1) c8) HY8.out (by decide)
  have hx9 := own_hold OX8.out hI
  have hy9 := own_hold O8.out hI
  refine ⟨?_, ?_, setCellB HY8.out, gc, gx, gy, hxy, ?_, ?_, fun e => (NX.out _ e).1 rfl, fun e => ?_, ?_⟩
  · rw [heap_setCell_other w8 _ _ _ hcy, HC8.out, hl9]
    rfl
  · rw [heap_setCell_other w8 _ _ _ hxy]; exact HX8.out
  · rw [hl9]; simpa [ints] using hx9
  · rw [hl9]; simpa [ints] using hy9
  · rcases AT8.out with h | h
    · exact YC.out (h.symm.trans e)
    · rw [h] at e
      have := Option.some.inj e
      have := SB.out
      have := HS5.out
      omega
  · cases hq : (Value.slice a5 (lg.length + 1) c5).ownBlock with
    | none => exact .inl rfl
    | some k =>
      right
      intro e
      rcases AT8.out with h | h
      · exact (NX.out k hq).2 (h.symm.trans e.symm)
      · rw [h] at e
        have h1 := (World.ownsRow.lt OB.out k hq).2
        have h2 := Option.some.inj e
        omega

end Go.Proofs.Ytkobiimkaimbaaa
