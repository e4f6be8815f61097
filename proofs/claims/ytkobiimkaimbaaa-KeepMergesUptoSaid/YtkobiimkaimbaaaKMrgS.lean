/-
  Two trees in memory (string,int) in one, where the law's function is asked for what both have.
-/
import Derived.Test.YtkobiimkaimbaaaKHowS
import Derived.Test.YtkobiimkaimbaaaKMrgP
import Derived.Test.YtkobiimkaimbaaaKSplS
import Derived.Test.YtkobiimkaimbaaaKChain
namespace Go.Proofs.Ytkobiimkaimbaaa
open Go.RowKit
attribute [local go_sem] Oper.semAt_some
set_option linter.unusedVariables false

theorem Fr.nodes {B : Nat} {w w' : World} (h : Fr B w w') : Hold 156 w w' := h.2 _ (by decide) (by decide)
/-- What merge leaves. -/
def Mrg (B bc bx b3 : Nat) (x y : Tr ByteArray Int) (lg : List (Int × Int)) (w : World) (e : Ending) (w' : World) : Prop :=
  ∃ p, e = .returned (.pointer p) ∧ IsTS w' (.pointer p) (Tr.merge hw x y) ∧ (∃ lx ly, Log w' B bc bx b3 lx ly (lg ++ logT x y)) ∧ Fr B w w'

set_option maxRecDepth 100000 in
set_option maxHeartbeats 6400000 in
theorem mergeS (B bc bx b3 : Nat) : ∀ (x y : Tr ByteArray Int) (w : World) (tx ty : Value) (lx ly : Value) (lg : List (Int × Int)) (hx : IsTS w tx x) (hy : IsTS w ty y) (hL : Log w B bc bx b3 lx ly lg) (hs : x.size + y.size < 400000) (hn : lg.length + x.size < 1000),
    Calls Try.prog 91 #[tx, ty, HowS bc bx b3] w (Mrg B bc bx b3 x y lg w) := by
  intro x
  induction x with
  | nil =>
    intro y w tx ty lx ly lg hx hy hL hs hn
    obtain rfl := hx
    have H0 := Lib.hid hy
    have HL0 := Lib.hid hL
    obtain ⟨ty, rfl⟩ := hy.shape
    unfold Mrg
    rw [Tr.merge, logT, List.append_nil]
    clear hL
    go_enter Try.func91, Try.ntmps91
    go_wp2_with fail
    go_ret
    exact ⟨_, rfl, H0.out, ⟨_, _, HL0.out⟩, Fr.refl _ _⟩
  | node nl nk nx nr ihl ihr =>
    intro y w tx ty lx ly lg hx hy hL hs hn
    have H0 := Lib.hid hx
    have HL0 := Lib.hid hL
    obtain ⟨b, vl, vr, rfl, hb, hll, hrr⟩ := hx
    obtain ⟨vl, rfl⟩ := hll.shape
    obtain ⟨vr, rfl⟩ := hrr.shape
    have HL := Lib.hid hll
    have HR := Lib.hid hrr
    have IL := Lib.hid ihl
    have IR := Lib.hid ihr
    obtain ⟨c0, cv, cl, cr, cs, ch⟩ := nodeCS hb
    have HBK := Lib.hid hb
    clear hb hll hrr ihl ihr cs ch hL
    unfold Mrg
    cases y with
    | nil =>
      obtain rfl := hy
      rw [Tr.merge, logT, List.append_nil]
      go_enter Try.func91, Try.ntmps91
      go_wp2_with fail
      go_ret
      exact ⟨_, rfl, H0.out, ⟨_, _, HL0.out⟩, Fr.refl _ _⟩
    | node bl bk bv br =>
    have HB := Lib.hid hy
    obtain ⟨by0, _, _, hvy, _⟩ := hy
    subst hvy
    have ZS := Lib.hid (Tr.size_split (.node bl bk bv br) nk)
    have Z2 := Lib.hid (Tr.size_merge hw nl (Tr.splitB (.node bl bk bv br) nk))
    have Z3 := Lib.hid (Tr.size_merge hw nr (Tr.splitA (.node bl bk bv br) nk))
    have LL := Lib.hid (logT_len nl (Tr.splitB (.node bl bk bv br) nk))
    cases hf : Tr.find (.node bl bk bv br) nk with
    | nil =>
      rw [Tr.merge, hf]
      simp only [Tr.both]
      have HF := Lib.hid hf
      clear hf
      go_enter Try.func91, Try.ntmps91
      go_wp2_with fail
      refine (splitS nk (.node bl bk bv br) _ _ HB.out (by omega)).mono ?_
      rintro e w1 ⟨pb, po, pa, rfl, tb, to, ta, u1⟩
      have cl1 := bcellAt u1 cl
      have TB := Lib.hid tb
      have TO := Lib.hid to
      have TA := Lib.hid ta
      have HU := Lib.hid (Fr.of u1 HL0.out.base)
      have HLG := Lib.hid (HL0.out.below u1)
      have HL1 := Lib.hid (HL.out.below u1)
      clear tb to ta u1 cl
      go_wp2_with fail
      refine (IL.out _ _ _ _ _ _ _ HL1.out TB.out HLG.out (by have := ZS.out; simp only [Tr.size] at hs this; omega) (by simp only [Tr.size] at hn; omega)).mono ?_
      rintro e w2 ⟨p2, rfl, t2, ⟨lx2, ly2, hl2⟩, f2⟩
      have bA : Below w2.heap.size w2 (w2.alloc (.cells #[.string nk, .int .i64 nx] 119)) := (Below.refl _ _).alloc (Nat.le_refl _) _
      have hA : (w2.alloc (.cells #[.string nk, .int .i64 nx] 119)).heap[w2.heap.size]? = some (Obj.cells #[.string nk, .int .i64 nx] 119) := heap_alloc_new w2 _
      have hB2 : B ≤ w2.heap.size := hl2.base
      have F02 := Lib.hid (HU.out.trans f2)
      have HBK2 := Lib.hid (F02.out.2 156 (by decide) (by decide) _ _ HBK.out)
      have FA := Lib.hid (Fr.of bA hB2)
      have TO2w := Lib.hid (TO.out.hold (f2.2 156 (by decide) (by decide)))
      have TO2 := Lib.hid (((TO.out.hold (f2.2 156 (by decide) (by decide)))).below bA)
      have TA2 := Lib.hid (((TA.out.hold (f2.2 156 (by decide) (by decide)))).below bA)
      have HR2 := Lib.hid (((HR.out.hold (F02.out.2 156 (by decide) (by decide)))).below bA)
      have HT2 := Lib.hid (t2.below bA)
      have HLG2 := Lib.hid (hl2.below bA)
      have HA := Lib.hid hA
      have hNB := Hold.below bA _ _ HBK2.out
      have HNB := Lib.hid hNB
      have c02 : w2.cell? ⟨b, 0, none⟩ = some (.string nk) := cellB HBK2.out rfl
      have c12 : w2.cell? ⟨b, 1, none⟩ = some (.int .i64 nx) := cellB HBK2.out rfl
      have HB2 := Lib.hid hB2
      clear t2 bA hA c0 cv cr hl2 f2 hNB hB2
      obtain rfl : po = none := by have := TO.out; rw [HF.out] at this; simpa [IsTS] using this
      go_wp2_with fail
      generalize (w2.alloc (.cells #[.string nk, .int .i64 nx] 119)) = W at *
      generalize w2.heap.size = E at *
      have LEN : Hid ((lg ++ logT nl (Tr.splitB (.node bl bk bv br) nk)).length ≤ lg.length + nl.size) := Lib.hid (by rw [List.length_append]; have := LL.out; omega)
      have HLG3 := HLG2
      have HE3 := HA
      have HNB3 := HNB
      have HR3 := HR2
      have TA3 := TA2
      have HT3 := HT2
      have FR3 := Lib.hid (F02.out.trans FA.out)
      clear c02 c12
      have GB : Hid (B ≤ W.heap.size) := Lib.hid (HLG3.out.base)
      have hk : ∀ w' : World, Fr B W w' → w'.cell? ⟨E, 0, none⟩ = some (.string nk) ∧ w'.cell? ⟨E, 1, none⟩ = some (.int .i64 (nx)) ∧ w'.cell? ⟨b, 3, none⟩ = some (.pointer vr) ∧ Fr B W w' := fun w' hb => ⟨cellB (hb.2 119 (by decide) (by decide) _ _ HE3.out) rfl, cellB (hb.2 119 (by decide) (by decide) _ _ HE3.out) rfl, cellB (hb.2 156 (by decide) (by decide) _ _ HNB3.out) rfl, hb⟩
      have HK := Lib.hid hk
      clear hk
      have z0 : W.cell? ⟨E, 0, none⟩ = some (.string nk) := cellB HE3.out rfl
      have z1 : W.cell? ⟨E, 1, none⟩ = some (.int .i64 (nx)) := cellB HE3.out rfl
      have zr : W.cell? ⟨b, 3, none⟩ = some (.pointer vr) := cellB HNB3.out rfl
      go_region_held3 (fun w' => w'.cell? ⟨E, 0, none⟩ = some (.string nk) ∧ w'.cell? ⟨E, 1, none⟩ = some (.int .i64 (nx)) ∧ w'.cell? ⟨b, 3, none⟩ = some (.pointer vr) ∧ Fr B W w') ((refine HK.out _ ?_; first | exact Fr.of (bdd _ _) GB.out | exact Fr.of (bd _) GB.out | exact (Fr.trans (by first | assumption | exact Fr.of (bdn _ _) (Nat.le_trans GB.out (Nat.le_refl _)) | exact Fr.of (bd _) GB.out | exact Fr.refl _ _) f8) | exact (Fr.trans (Fr.trans (by first | assumption | exact Fr.of (bdn _ _) (Nat.le_trans GB.out (Nat.le_refl _)) | exact Fr.of (bd _) GB.out | exact Fr.refl _ _) f8) (Fr.of u9 (hl8.base)))))
        ((first
          | ((with_reducible refine (IR.out _ _ _ _ _ _ _ (HR3.out.hold (Fr.nodes ((by first | assumption | exact Fr.of (bdn _ _) (Nat.le_trans GB.out (Nat.le_refl _)) | exact Fr.of (bd _) GB.out | exact Fr.refl _ _) : Fr B W _))) (TA3.out.hold (Fr.nodes ((by first | assumption | exact Fr.of (bdn _ _) (Nat.le_trans GB.out (Nat.le_refl _)) | exact Fr.of (bd _) GB.out | exact Fr.refl _ _) : Fr B W _))) (HLG3.out.below (by first | exact bdn _ _ | exact bd _ | exact Below.refl _ _)) (by have := ZS.out; simp only [Tr.size] at hs this; omega) (by have := LEN.out; simp only [Tr.size] at hn; omega)).mono ?_); rintro e w8 ⟨p8, rfl, t8, ⟨lx8, ly8, hl8⟩, f8⟩)
          | ((with_reducible refine (joinS nk (nx) (HT3.out.hold (Fr.nodes (Fr.trans (by first | assumption | exact Fr.of (bdn _ _) (Nat.le_trans GB.out (Nat.le_refl _)) | exact Fr.of (bd _) GB.out | exact Fr.refl _ _) f8 : Fr B W _))) t8 (by have := ZS.out; have := Z2.out; have := Z3.out; simp only [Tr.size] at *; omega)).mono ?_); rintro e w9 ⟨p9, rfl, t9, u9⟩)))
      go_wp2_with fail
      go_ret
      refine ⟨_, rfl, t9, ⟨lx8, ly8, ?_⟩, FR3.out.trans (Fr.trans (Fr.trans (by first | assumption | exact Fr.of (bdn _ _) (Nat.le_trans GB.out (Nat.le_refl _)) | exact Fr.of (bd _) GB.out | exact Fr.refl _ _) f8) (Fr.of u9 (hl8.base)))⟩
      have := hl8.below u9
      rw [show lg ++ logT (Tr.node nl nk nx nr) (Tr.node bl bk bv br) = ((lg ++ logT nl (Tr.splitB (Tr.node bl bk bv br) nk)) ++ logT nr (Tr.splitA (Tr.node bl bk bv br) nk)) by rw [logT, HF.out]; simp]
      exact this

    | node fl fk fx fr =>
      rw [Tr.merge, hf]
      simp only [Tr.both]
      have HF := Lib.hid hf
      clear hf
      go_enter Try.func91, Try.ntmps91
      go_wp2_with fail
      refine (splitS nk (.node bl bk bv br) _ _ HB.out (by omega)).mono ?_
      rintro e w1 ⟨pb, po, pa, rfl, tb, to, ta, u1⟩
      have cl1 := bcellAt u1 cl
      have TB := Lib.hid tb
      have TO := Lib.hid to
      have TA := Lib.hid ta
      have HU := Lib.hid (Fr.of u1 HL0.out.base)
      have HLG := Lib.hid (HL0.out.below u1)
      have HL1 := Lib.hid (HL.out.below u1)
      clear tb to ta u1 cl
      go_wp2_with fail
      refine (IL.out _ _ _ _ _ _ _ HL1.out TB.out HLG.out (by have := ZS.out; simp only [Tr.size] at hs this; omega) (by simp only [Tr.size] at hn; omega)).mono ?_
      rintro e w2 ⟨p2, rfl, t2, ⟨lx2, ly2, hl2⟩, f2⟩
      have bA : Below w2.heap.size w2 (w2.alloc (.cells #[.string nk, .int .i64 nx] 119)) := (Below.refl _ _).alloc (Nat.le_refl _) _
      have hA : (w2.alloc (.cells #[.string nk, .int .i64 nx] 119)).heap[w2.heap.size]? = some (Obj.cells #[.string nk, .int .i64 nx] 119) := heap_alloc_new w2 _
      have hB2 : B ≤ w2.heap.size := hl2.base
      have F02 := Lib.hid (HU.out.trans f2)
      have HBK2 := Lib.hid (F02.out.2 156 (by decide) (by decide) _ _ HBK.out)
      have FA := Lib.hid (Fr.of bA hB2)
      have TO2w := Lib.hid (TO.out.hold (f2.2 156 (by decide) (by decide)))
      have TO2 := Lib.hid (((TO.out.hold (f2.2 156 (by decide) (by decide)))).below bA)
      have TA2 := Lib.hid (((TA.out.hold (f2.2 156 (by decide) (by decide)))).below bA)
      have HR2 := Lib.hid (((HR.out.hold (F02.out.2 156 (by decide) (by decide)))).below bA)
      have HT2 := Lib.hid (t2.below bA)
      have HLG2 := Lib.hid (hl2.below bA)
      have HA := Lib.hid hA
      have hNB := Hold.below bA _ _ HBK2.out
      have HNB := Lib.hid hNB
      have c02 : w2.cell? ⟨b, 0, none⟩ = some (.string nk) := cellB HBK2.out rfl
      have c12 : w2.cell? ⟨b, 1, none⟩ = some (.int .i64 nx) := cellB HBK2.out rfl
      have HB2 := Lib.hid hB2
      clear t2 bA hA c0 cv cr hl2 f2 hNB hB2
      obtain ⟨fb, rfl⟩ : ∃ fb, po = some ⟨fb, 0, none⟩ := by
        have := TO.out
        rw [HF.out] at this
        obtain ⟨fb, _, _, hv, _⟩ := this
        exact ⟨fb, by simpa using hv⟩
      go_wp2_with fail
      generalize hW : (w2.alloc (.cells #[.string nk, .int .i64 nx] 119)) = W at *
      clear hW
      have LEN0 : Hid ((lg ++ logT nl (Tr.splitB (.node bl bk bv br) nk)).length ≤ lg.length + nl.size) := Lib.hid (by rw [List.length_append]; have := LL.out; omega)
      have htf := TO2w.out
      rw [HF.out] at htf
      obtain ⟨fb', vfl, vfr, hfe, hfb, _, _⟩ := htf
      obtain rfl : fb = fb' := by simpa using hfe
      have HFB3 := Lib.hid hfb
      have GB : Hid (B ≤ W.heap.size) := Lib.hid HLG2.out.base
      clear hfe hfb c02 c12
      refine lex_start [0, 1, 2, 3, 4, 5, 6, 7, 8, 9, 10, 11, 12, 13] (S := fun X => Fr B w2 X) (by kernel_rfl) (FA.out.trans (Fr.of (bd _) GB.out)) (fun hS => ?_)
      simp only [inOrder, List.filterMap, List.getElem?_cons_succ, List.getElem?_cons_zero]
      refine lex_take (i := 0) (v := ?_) rfl (by kernel_rfl) (by kernel_rfl) (by kernel_rfl) (by rfl) hS ?_ ?_
      rotate_left
      · ((intro X hX; have p1 := cellB (j := 1) (u := .int .i64 nx) (hX.2 156 (by decide) (by decide) _ _ HBK2.out) rfl; have p2 := cellB (j := 1) (u := .int .i64 fx) (hX.2 156 (by decide) (by decide) _ _ HFB3.out) rfl; clear hX; go_simp) <;> with_reducible rfl)
      simp only [Act.put, List.setIfInBounds_toArray, List.set_cons_zero, List.set_cons_succ]
      refine lex_take (i := 1) (v := ?_) rfl (by kernel_rfl) (by kernel_rfl) (by kernel_rfl) (by rfl) hS ?_ ?_
      rotate_left
      · ((intro X hX; have p1 := cellB (j := 1) (u := .int .i64 nx) (hX.2 156 (by decide) (by decide) _ _ HBK2.out) rfl; have p2 := cellB (j := 1) (u := .int .i64 fx) (hX.2 156 (by decide) (by decide) _ _ HFB3.out) rfl; clear hX; go_simp) <;> with_reducible rfl)
      simp only [Act.put, List.setIfInBounds_toArray, List.set_cons_zero, List.set_cons_succ]
      refine lex_take (i := 2) (v := ?_) rfl (by kernel_rfl) (by kernel_rfl) (by kernel_rfl) (by rfl) hS ?_ ?_
      rotate_left
      · ((intro X hX; have p1 := cellB (j := 1) (u := .int .i64 nx) (hX.2 156 (by decide) (by decide) _ _ HBK2.out) rfl; have p2 := cellB (j := 1) (u := .int .i64 fx) (hX.2 156 (by decide) (by decide) _ _ HFB3.out) rfl; clear hX; go_simp) <;> with_reducible rfl)
      simp only [Act.put, List.setIfInBounds_toArray, List.set_cons_zero, List.set_cons_succ]
      refine lex_take (i := 3) (v := ?_) rfl (by kernel_rfl) (by kernel_rfl) (by kernel_rfl) (by rfl) hS ?_ ?_
      rotate_left
      · ((intro X hX; have p1 := cellB (j := 1) (u := .int .i64 nx) (hX.2 156 (by decide) (by decide) _ _ HBK2.out) rfl; have p2 := cellB (j := 1) (u := .int .i64 fx) (hX.2 156 (by decide) (by decide) _ _ HFB3.out) rfl; clear hX; go_simp) <;> with_reducible rfl)
      simp only [Act.put, List.setIfInBounds_toArray, List.set_cons_zero, List.set_cons_succ]
      refine lex_take (i := 4) (v := ?_) rfl (by kernel_rfl) (by kernel_rfl) (by kernel_rfl) (by rfl) hS ?_ ?_
      rotate_left
      · ((intro X hX; have p1 := cellB (j := 1) (u := .int .i64 nx) (hX.2 156 (by decide) (by decide) _ _ HBK2.out) rfl; have p2 := cellB (j := 1) (u := .int .i64 fx) (hX.2 156 (by decide) (by decide) _ _ HFB3.out) rfl; clear hX; go_simp) <;> with_reducible rfl)
      simp only [Act.put, List.setIfInBounds_toArray, List.set_cons_zero, List.set_cons_succ]
      refine lex_take (i := 5) (v := ?_) rfl (by kernel_rfl) (by kernel_rfl) (by kernel_rfl) (by rfl) hS ?_ ?_
      rotate_left
      · ((intro X hX; have p1 := cellB (j := 1) (u := .int .i64 nx) (hX.2 156 (by decide) (by decide) _ _ HBK2.out) rfl; have p2 := cellB (j := 1) (u := .int .i64 fx) (hX.2 156 (by decide) (by decide) _ _ HFB3.out) rfl; clear hX; go_simp) <;> with_reducible rfl)
      simp only [Act.put, List.setIfInBounds_toArray, List.set_cons_zero, List.set_cons_succ]
      refine lex_take (i := 6) (v := ?_) rfl (by kernel_rfl) (by kernel_rfl) (by kernel_rfl) (by rfl) hS ?_ ?_
      rotate_left
      · ((intro X hX; have p1 := cellB (j := 1) (u := .int .i64 nx) (hX.2 156 (by decide) (by decide) _ _ HBK2.out) rfl; have p2 := cellB (j := 1) (u := .int .i64 fx) (hX.2 156 (by decide) (by decide) _ _ HFB3.out) rfl; clear hX; go_simp) <;> with_reducible rfl)
      simp only [Act.put, List.setIfInBounds_toArray, List.set_cons_zero, List.set_cons_succ]
      refine lex_take (i := 7) (v := ?_) rfl (by kernel_rfl) (by kernel_rfl) (by kernel_rfl) (by rfl) hS ?_ ?_
      rotate_left
      · ((intro X hX; have p1 := cellB (j := 1) (u := .int .i64 nx) (hX.2 156 (by decide) (by decide) _ _ HBK2.out) rfl; have p2 := cellB (j := 1) (u := .int .i64 fx) (hX.2 156 (by decide) (by decide) _ _ HFB3.out) rfl; clear hX; go_simp) <;> with_reducible rfl)
      simp only [Act.put, List.setIfInBounds_toArray, List.set_cons_zero, List.set_cons_succ]
      refine lex_take (i := 8) (v := ?_) rfl (by kernel_rfl) (by kernel_rfl) (by kernel_rfl) (by rfl) hS ?_ ?_
      rotate_left
      · ((intro X hX; have p1 := cellB (j := 1) (u := .int .i64 nx) (hX.2 156 (by decide) (by decide) _ _ HBK2.out) rfl; have p2 := cellB (j := 1) (u := .int .i64 fx) (hX.2 156 (by decide) (by decide) _ _ HFB3.out) rfl; clear hX; go_simp) <;> with_reducible rfl)
      simp only [Act.put, List.setIfInBounds_toArray, List.set_cons_zero, List.set_cons_succ]
      refine lex_take (i := 9) (v := ?_) rfl (by kernel_rfl) (by kernel_rfl) (by kernel_rfl) (by rfl) hS ?_ ?_
      rotate_left
      · ((intro X hX; have p1 := cellB (j := 1) (u := .int .i64 nx) (hX.2 156 (by decide) (by decide) _ _ HBK2.out) rfl; have p2 := cellB (j := 1) (u := .int .i64 fx) (hX.2 156 (by decide) (by decide) _ _ HFB3.out) rfl; clear hX; go_simp) <;> with_reducible rfl)
      simp only [Act.put, List.setIfInBounds_toArray, List.set_cons_zero, List.set_cons_succ]
      refine lex_take (i := 10) (v := ?_) rfl (by kernel_rfl) (by kernel_rfl) (by kernel_rfl) (by rfl) hS ?_ ?_
      rotate_left
      · ((intro X hX; have p1 := cellB (j := 1) (u := .int .i64 nx) (hX.2 156 (by decide) (by decide) _ _ HBK2.out) rfl; have p2 := cellB (j := 1) (u := .int .i64 fx) (hX.2 156 (by decide) (by decide) _ _ HFB3.out) rfl; clear hX; go_simp) <;> with_reducible rfl)
      simp only [Act.put, List.setIfInBounds_toArray, List.set_cons_zero, List.set_cons_succ]
      refine lex_call (i := 11) rfl (by kernel_rfl) (by rfl) ?_ _ (howS nx fx (HLG2.out.below (bd _)) (by have := LEN0.out; simp only [Tr.size] at hn; omega)) ?_
      · go_simp
      rintro e w3 ⟨rfl, ⟨lx3, ly3, hl3⟩, f3⟩
      have hSW : Fr B W w3 := (Fr.of (bd _) GB.out).trans f3
      have hS1 : Fr B w2 w3 := FA.out.trans hSW
      refine ⟨_, rfl, fun X => Fr B w2 X, fun X h => h, hS1, ?_⟩
      simp only [Act.put, List.setIfInBounds_toArray, List.set_cons_zero, List.set_cons_succ]
      have hE3 := hSW.2 119 (by decide) (by decide) _ _ HA.out
      have e1 : w3.cell? ⟨w2.heap.size, 1, none⟩ = some (.int .i64 nx) := cellB hE3 rfl
      have f1 : w3.frozen? ⟨w2.heap.size, 1, none⟩ = false := frozenB hE3
      refine lex_take (i := 12) (v := ?_) rfl (by kernel_rfl) (by kernel_rfl) (by kernel_rfl) (by rfl) hS1 ?_ ?_
      rotate_left
      · ((intro X hX; have p1 := cellB (j := 1) (u := .int .i64 nx) (hX.2 156 (by decide) (by decide) _ _ HBK2.out) rfl; have p2 := cellB (j := 1) (u := .int .i64 fx) (hX.2 156 (by decide) (by decide) _ _ HFB3.out) rfl; clear hX; go_simp) <;> with_reducible rfl)
      simp only [Act.put, List.setIfInBounds_toArray, List.set_cons_zero, List.set_cons_succ]
      refine lex_do (i := 13) rfl (by kernel_rfl) (by rfl) (fun K hK => ?_)
      go_simp
      have hE4 : (w3.setCell ⟨w2.heap.size, 1, none⟩ (.int .i64 (hw nx fx))).heap[w2.heap.size]? = some (Obj.cells #[.string nk, .int .i64 (hw nx fx)] 119) := setCellB (j := 1) (u := .int .i64 (hw nx fx)) hE3
      have hI4 := Hold.setCell (T := IntN) (o := 1) (v := .int .i64 (hw nx fx)) hE3 (by decide)
      have hS4 := Hold.setCell (T := SlI) (o := 1) (v := .int .i64 (hw nx fx)) hE3 (by decide)
      have hN4 := Hold.setCell (T := 156) (o := 1) (v := .int .i64 (hw nx fx)) hE3 (by decide)
      have hF4 : Fr B w2 (w3.setCell ⟨w2.heap.size, 1, none⟩ (.int .i64 (hw nx fx))) := hS1.setNew (Nat.le_refl _) HB2.out (.int .i64 (hw nx fx))
      refine hK _ _ ⟨hF4, ?_⟩
      clear hK K
      refine lex_done (by kernel_rfl) ?_
      have HE3 := Lib.hid hE4
      have HLG3 := Lib.hid (hl3.hold hI4 hS4)
      have HNB3 := Lib.hid (hN4 _ _ (hSW.2 156 (by decide) (by decide) _ _ HNB.out))
      have HR3 := Lib.hid ((HR2.out.hold (hSW.2 156 (by decide) (by decide))).hold hN4)
      have TA3 := Lib.hid ((TA2.out.hold (hSW.2 156 (by decide) (by decide))).hold hN4)
      have HT3 := Lib.hid ((HT2.out.hold (hSW.2 156 (by decide) (by decide))).hold hN4)
      have FR3 := Lib.hid (F02.out.trans hF4)
      have LEN : Hid (((lg ++ logT nl (Tr.splitB (.node bl bk bv br) nk)) ++ [(nx, fx)]).length ≤ lg.length + nl.size + 1) := Lib.hid (by have := LEN0.out; rw [List.length_append]; simp only [List.length_singleton]; omega)
      clear hS hS1 hSW f3 hl3 hE3 e1 f1 hE4 hI4 hS4 hN4 hF4 GB
      generalize (w3.setCell ⟨w2.heap.size, 1, none⟩ (.int .i64 (hw nx fx))) = W4 at *
      generalize w2.heap.size = E at *
      go_wp2_with fail
      have GB : Hid (B ≤ W4.heap.size) := Lib.hid (HLG3.out.base)
      have hk : ∀ w' : World, Fr B W4 w' → w'.cell? ⟨E, 0, none⟩ = some (.string nk) ∧ w'.cell? ⟨E, 1, none⟩ = some (.int .i64 (hw nx fx)) ∧ w'.cell? ⟨b, 3, none⟩ = some (.pointer vr) ∧ Fr B W4 w' := fun w' hb => ⟨cellB (hb.2 119 (by decide) (by decide) _ _ HE3.out) rfl, cellB (hb.2 119 (by decide) (by decide) _ _ HE3.out) rfl, cellB (hb.2 156 (by decide) (by decide) _ _ HNB3.out) rfl, hb⟩
      have HK := Lib.hid hk
      clear hk
      have z0 : W4.cell? ⟨E, 0, none⟩ = some (.string nk) := cellB HE3.out rfl
      have z1 : W4.cell? ⟨E, 1, none⟩ = some (.int .i64 (hw nx fx)) := cellB HE3.out rfl
      have zr : W4.cell? ⟨b, 3, none⟩ = some (.pointer vr) := cellB HNB3.out rfl
      go_region_held3 (fun w' => w'.cell? ⟨E, 0, none⟩ = some (.string nk) ∧ w'.cell? ⟨E, 1, none⟩ = some (.int .i64 (hw nx fx)) ∧ w'.cell? ⟨b, 3, none⟩ = some (.pointer vr) ∧ Fr B W4 w') ((refine HK.out _ ?_; first | exact Fr.of (bdd _ _) GB.out | exact Fr.of (bd _) GB.out | exact (Fr.trans (by first | assumption | exact Fr.of (bdn _ _) (Nat.le_trans GB.out (Nat.le_refl _)) | exact Fr.of (bd _) GB.out | exact Fr.refl _ _) f8) | exact (Fr.trans (Fr.trans (by first | assumption | exact Fr.of (bdn _ _) (Nat.le_trans GB.out (Nat.le_refl _)) | exact Fr.of (bd _) GB.out | exact Fr.refl _ _) f8) (Fr.of u9 (hl8.base)))))
        ((first
          | ((with_reducible refine (IR.out _ _ _ _ _ _ _ (HR3.out.hold (Fr.nodes ((by first | assumption | exact Fr.of (bdn _ _) (Nat.le_trans GB.out (Nat.le_refl _)) | exact Fr.of (bd _) GB.out | exact Fr.refl _ _) : Fr B W4 _))) (TA3.out.hold (Fr.nodes ((by first | assumption | exact Fr.of (bdn _ _) (Nat.le_trans GB.out (Nat.le_refl _)) | exact Fr.of (bd _) GB.out | exact Fr.refl _ _) : Fr B W4 _))) (HLG3.out.below (by first | exact bdn _ _ | exact bd _ | exact Below.refl _ _)) (by have := ZS.out; simp only [Tr.size] at hs this; omega) (by have := LEN.out; simp only [Tr.size] at hn; omega)).mono ?_); rintro e w8 ⟨p8, rfl, t8, ⟨lx8, ly8, hl8⟩, f8⟩)
          | ((with_reducible refine (joinS nk (hw nx fx) (HT3.out.hold (Fr.nodes (Fr.trans (by first | assumption | exact Fr.of (bdn _ _) (Nat.le_trans GB.out (Nat.le_refl _)) | exact Fr.of (bd _) GB.out | exact Fr.refl _ _) f8 : Fr B W4 _))) t8 (by have := ZS.out; have := Z2.out; have := Z3.out; simp only [Tr.size] at *; omega)).mono ?_); rintro e w9 ⟨p9, rfl, t9, u9⟩)))
      go_wp2_with fail
      go_ret
      refine ⟨_, rfl, t9, ⟨lx8, ly8, ?_⟩, FR3.out.trans (Fr.trans (Fr.trans (by first | assumption | exact Fr.of (bdn _ _) (Nat.le_trans GB.out (Nat.le_refl _)) | exact Fr.of (bd _) GB.out | exact Fr.refl _ _) f8) (Fr.of u9 (hl8.base)))⟩
      have := hl8.below u9
      rw [show lg ++ logT (Tr.node nl nk nx nr) (Tr.node bl bk bv br) = (((lg ++ logT nl (Tr.splitB (Tr.node bl bk bv br) nk)) ++ [(nx, fx)]) ++ logT nr (Tr.splitA (Tr.node bl bk bv br) nk)) by rw [logT, HF.out]; simp]
      exact this


end Go.Proofs.Ytkobiimkaimbaaa
