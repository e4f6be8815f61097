/-
  Two trees in memory (int,struct{}) in one.
-/
import Derived.Test.YtkobiimkaimbaaaKAlg
import Derived.Test.YtkobiimkaimbaaaKDU
import Derived.Test.YtkobiimkaimbaaaKChain
namespace Go.Proofs.Ytkobiimkaimbaaa
open Go.RowKit
attribute [local go_sem] Oper.semAt_some
set_option linter.unusedVariables false

abbrev HowU : Value := .func (.func 131) #[] #[]
set_option maxRecDepth 100000 in
set_option maxHeartbeats 800000 in
theorem howU (w : World) : Calls Try.prog 131 #[.agg #[], .agg #[]] w fun e w' => e = .returned (.agg #[]) ∧ Below w.heap.size w w' := by
  go_enter Try.func131, Try.ntmps131
  go_wp2_with fail
  refine bodyPost_ret (v := .agg #[]) (by simp [results, Try.results131, go_sem]) rfl ⟨rfl, (((Below.refl _ _).alloc (Nat.le_refl _) _).alloc (by simp) _).alloc (by simp; omega) _⟩

theorem partEU {w : World} {b : Nat} {cs : Array Value} (hb : w.heap[b]? = some (Obj.cells cs 182)) : Sem.run Try.prog (partAt ⟨b, 0, none⟩ 1 8) w = .ok ⟨b, 1, some 8⟩ w := by
  have h1 : Try.prog.cellsOf 182 = 1 := by kernel_rfl
  have h2 : Try.prog.bytesOf 182 = 16 := by kernel_rfl
  have h3 : byteOfCell Try.prog Try.prog.depth 182 0 = some 0 := by kernel_rfl
  have hs : w.shape? b = some (182, cs.size) := by simp [World.shape?, hb]
  have hn : Sem.run Try.prog (noView ⟨b, 0, none⟩) w = .ok () w := by simp [noView, viewAt, go_sem, hs]
  have hn1 : Sem.run Try.prog (noView ⟨b, 1, none⟩) w = .ok () w := by simp [noView, viewAt, go_sem, hs]
  simp [partAt, byteOf, h1, h2, h3, hs, hn, hn1, go_sem]
abbrev how1 : Unit → Unit → Unit := fun x _ => x
set_option maxRecDepth 100000 in
set_option maxHeartbeats 3200000 in
theorem mergeU : ∀ (x y : Tr Int Unit) (w : World) (vx vy : Value) (hx : IsTU w vx x) (hy : IsTU w vy y) (hs : x.size + y.size < 400000),
    Calls Try.prog 132 #[vx, vy, HowU] w (MadeU (Tr.merge how1 x y) w) := by
  intro x
  induction x with
  | nil =>
    intro y w vx vy hx hy hs
    obtain rfl := hx
    have H0 := Lib.hid hy
    obtain ⟨vy, rfl⟩ := hy.shape
    rw [Tr.merge]
    go_enter Try.func132, Try.ntmps132
    go_wp2_with fail
    go_ret
    exact ⟨_, rfl, H0.out, Below.refl _ _⟩
  | node nl nk nx nr ihl ihr =>
    intro y w vx vy hx hy hs
    have H0 := Lib.hid hx
    obtain ⟨b, vl, vr, rfl, hb, hll, hrr⟩ := hx
    obtain ⟨vl, rfl⟩ := hll.shape
    obtain ⟨vr, rfl⟩ := hrr.shape
    have HL := Lib.hid hll
    have HR := Lib.hid hrr
    have IL := Lib.hid ihl
    have IR := Lib.hid ihr
    obtain ⟨c0, cl, cr, cs, ch⟩ := nodeCU (x := nx) hb
    have HBK := Lib.hid hb
    clear hb hll hrr ihl ihr cs ch
    cases y with
    | nil =>
      obtain rfl := hy
      rw [Tr.merge]
      go_enter Try.func132, Try.ntmps132
      go_wp2_with fail
      go_ret
      exact ⟨_, rfl, H0.out, Below.refl _ _⟩
    | node bl bk bv br =>
    have HB := Lib.hid hy
    obtain ⟨by0, _, _, hvy, _⟩ := hy
    subst hvy
    have ZS := Lib.hid (Tr.size_split (.node bl bk bv br) nk)
    have Z2 := Lib.hid (Tr.size_merge how1 nl (Tr.splitB (.node bl bk bv br) nk))
    have Z3 := Lib.hid (Tr.size_merge how1 nr (Tr.splitA (.node bl bk bv br) nk))
    cases hf : Tr.find (.node bl bk bv br) nk with
    | nil =>
      rw [Tr.merge, hf]
      simp only [Tr.both]
      have HF := Lib.hid hf
      clear hf
      go_enter Try.func132, Try.ntmps132
      go_wp2_with fail
      refine (splitU nk (.node bl bk bv br) _ _ HB.out (by omega)).mono ?_
      rintro e w1 ⟨pb, po, pa, rfl, tb, to, ta, u1⟩
      have cl1 := bcellAt u1 cl
      have TB := Lib.hid tb
      have TO := Lib.hid to
      have TA := Lib.hid ta
      have HU := Lib.hid u1
      clear tb to ta u1 cl
      go_wp2_with fail
      refine (IL.out _ _ _ _ (HL.out.below HU.out) TB.out (by have := ZS.out; simp only [Tr.size] at hs this; omega)).mono ?_
      rintro e w2 ⟨p2, rfl, t2, u2⟩
      have bA : Below w2.heap.size w2 (w2.alloc (.cells #[.int .i64 nk] 182)) := (Below.refl _ _).alloc (Nat.le_refl _) _
      have hA : (w2.alloc (.cells #[.int .i64 nk] 182)).heap[w2.heap.size]? = some (Obj.cells #[.int .i64 nk] 182) := heap_alloc_new w2 _
      have HU2 := Lib.hid ((HU.out.trans (u2.mono HU.out.size)).trans (bA.mono (Nat.le_trans HU.out.size u2.size)))
      have TO2 := Lib.hid ((TO.out.below u2).below bA)
      have TA2 := Lib.hid ((TA.out.below u2).below bA)
      have HT2 := Lib.hid (t2.below bA)
      have HA := Lib.hid hA
      have c02 := bcellAt (HU.out.trans (u2.mono HU.out.size)) c0
      have cr2 := bcellAt HU2.out cr
      have z0 : (w2.alloc (.cells #[.int .i64 nk] 182)).cell? ⟨w2.heap.size, 0, none⟩ = some (.int .i64 nk) := cellB hA rfl
      clear u2 t2 bA hA c0 cr
      obtain rfl : po = none := by have := TO.out; rw [HF.out] at this; simpa [IsTU] using this
      go_wp2_with fail
      generalize (w2.alloc (.cells #[.int .i64 nk] 182)) = W at *
      generalize w2.heap.size = E at *
      have hk : ∀ w' : World, Below W.heap.size W w' → w'.cell? ⟨E, 0, none⟩ = some (.int .i64 nk) ∧ w'.cell? ⟨b, 2, none⟩ = some (.pointer vr) ∧ Below W.heap.size W w' := fun w' hb => ⟨bcellAt hb z0, bcellAt hb cr2, hb⟩
      have HK := Lib.hid hk
      clear hk
      go_region_held3 (fun w' => w'.cell? ⟨E, 0, none⟩ = some (.int .i64 nk) ∧ w'.cell? ⟨b, 2, none⟩ = some (.pointer vr) ∧ Below W.heap.size W w') ((refine HK.out _ ?_; first | exact bdd _ _ | exact bd _ | exact (bmore (by first | assumption | exact bdn _ _ | exact bd _ | exact Below.refl _ _) u3) | exact (bmore (bmore (by first | assumption | exact bdn _ _ | exact bd _ | exact Below.refl _ _) u3) u4)))
        ((first
          | ((with_reducible refine (IR.out _ _ _ _ (HR.out.below (bmore HU2.out (by first | assumption | exact bdn _ _ | exact bd _ | exact Below.refl _ _))) (TA2.out.below (by first | assumption | exact bdn _ _ | exact bd _ | exact Below.refl _ _)) (by have := ZS.out; simp only [Tr.size] at hs this; omega)).mono ?_); rintro e w3 ⟨p3, rfl, t3, u3⟩)
          | ((with_reducible refine (joinU nk () (HT2.out.below (bmore (by first | assumption | exact bdn _ _ | exact bd _ | exact Below.refl _ _) u3)) t3 (by have := ZS.out; have := Z2.out; have := Z3.out; simp only [Tr.size] at *; omega)).mono ?_); rintro e w4 ⟨p4, rfl, t4, u4⟩)))
      go_wp2_with fail
      go_ret
      exact ⟨_, rfl, t4, HU2.out.trans ((bmore (bmore (by first | assumption | exact bdn _ _ | exact bd _ | exact Below.refl _ _) u3) u4).mono HU2.out.size)⟩
    | node fl fk fx fr =>
      rw [Tr.merge, hf]
      simp only [Tr.both]
      have HF := Lib.hid hf
      clear hf
      go_enter Try.func132, Try.ntmps132
      go_wp2_with fail
      refine (splitU nk (.node bl bk bv br) _ _ HB.out (by omega)).mono ?_
      rintro e w1 ⟨pb, po, pa, rfl, tb, to, ta, u1⟩
      have cl1 := bcellAt u1 cl
      have TB := Lib.hid tb
      have TO := Lib.hid to
      have TA := Lib.hid ta
      have HU := Lib.hid u1
      clear tb to ta u1 cl
      go_wp2_with fail
      refine (IL.out _ _ _ _ (HL.out.below HU.out) TB.out (by have := ZS.out; simp only [Tr.size] at hs this; omega)).mono ?_
      rintro e w2 ⟨p2, rfl, t2, u2⟩
      have bA : Below w2.heap.size w2 (w2.alloc (.cells #[.int .i64 nk] 182)) := (Below.refl _ _).alloc (Nat.le_refl _) _
      have hA : (w2.alloc (.cells #[.int .i64 nk] 182)).heap[w2.heap.size]? = some (Obj.cells #[.int .i64 nk] 182) := heap_alloc_new w2 _
      have HU2 := Lib.hid ((HU.out.trans (u2.mono HU.out.size)).trans (bA.mono (Nat.le_trans HU.out.size u2.size)))
      have TO2 := Lib.hid ((TO.out.below u2).below bA)
      have TA2 := Lib.hid ((TA.out.below u2).below bA)
      have HT2 := Lib.hid (t2.below bA)
      have HA := Lib.hid hA
      have c02 := bcellAt (HU.out.trans (u2.mono HU.out.size)) c0
      have cr2 := bcellAt HU2.out cr
      have z0 : (w2.alloc (.cells #[.int .i64 nk] 182)).cell? ⟨w2.heap.size, 0, none⟩ = some (.int .i64 nk) := cellB hA rfl
      clear u2 t2 bA hA c0 cr
      obtain ⟨fb, rfl⟩ : ∃ fb, po = some ⟨fb, 0, none⟩ := by
        have := TO.out
        rw [HF.out] at this
        obtain ⟨fb, _, _, hv, _⟩ := this
        exact ⟨fb, by simpa using hv⟩
      go_wp2_with fail
      generalize (w2.alloc (.cells #[.int .i64 nk] 182)) = W at *
      generalize w2.heap.size = E at *
      have HN1 := Lib.hid (Hold.below HU2.out _ _ HBK.out)
      have htf := TO2.out
      rw [HF.out] at htf
      obtain ⟨fb', vfl, vfr, hfe, hfb, _, _⟩ := htf
      obtain rfl : fb = fb' := by simpa using hfe
      have HN2 := Lib.hid hfb
      clear hfe hfb
      refine lex_start [0, 1, 2, 3, 4, 5, 6, 7, 8, 9, 10, 11, 12, 13] (S := fun X => Below W.heap.size W X) (by kernel_rfl) (bd _) (fun hS => ?_)
      simp only [inOrder, List.filterMap, List.getElem?_cons_succ, List.getElem?_cons_zero]
      refine lex_take (i := 0) (v := ?_) rfl (by kernel_rfl) (by kernel_rfl) (by kernel_rfl) (by rfl) hS ?_ ?_
      rotate_left
      · ((intro X hX; have p1 := partU (Hold.below hX _ _ HN1.out); have p2 := partU (Hold.below hX _ _ HN2.out); have p3 := partEU (Hold.below hX _ _ HA.out); clear hX; go_simp) <;> with_reducible rfl)
      simp only [Act.put, List.setIfInBounds_toArray, List.set_cons_zero, List.set_cons_succ]
      refine lex_take (i := 1) (v := ?_) rfl (by kernel_rfl) (by kernel_rfl) (by kernel_rfl) (by rfl) hS ?_ ?_
      rotate_left
      · ((intro X hX; have p1 := partU (Hold.below hX _ _ HN1.out); have p2 := partU (Hold.below hX _ _ HN2.out); have p3 := partEU (Hold.below hX _ _ HA.out); clear hX; go_simp) <;> with_reducible rfl)
      simp only [Act.put, List.setIfInBounds_toArray, List.set_cons_zero, List.set_cons_succ]
      refine lex_take (i := 2) (v := ?_) rfl (by kernel_rfl) (by kernel_rfl) (by kernel_rfl) (by rfl) hS ?_ ?_
      rotate_left
      · ((intro X hX; have p1 := partU (Hold.below hX _ _ HN1.out); have p2 := partU (Hold.below hX _ _ HN2.out); have p3 := partEU (Hold.below hX _ _ HA.out); clear hX; go_simp) <;> with_reducible rfl)
      simp only [Act.put, List.setIfInBounds_toArray, List.set_cons_zero, List.set_cons_succ]
      refine lex_take (i := 3) (v := ?_) rfl (by kernel_rfl) (by kernel_rfl) (by kernel_rfl) (by rfl) hS ?_ ?_
      rotate_left
      · ((intro X hX; have p1 := partU (Hold.below hX _ _ HN1.out); have p2 := partU (Hold.below hX _ _ HN2.out); have p3 := partEU (Hold.below hX _ _ HA.out); clear hX; go_simp) <;> with_reducible rfl)
      simp only [Act.put, List.setIfInBounds_toArray, List.set_cons_zero, List.set_cons_succ]
      refine lex_take (i := 4) (v := ?_) rfl (by kernel_rfl) (by kernel_rfl) (by kernel_rfl) (by rfl) hS ?_ ?_
      rotate_left
      · ((intro X hX; have p1 := partU (Hold.below hX _ _ HN1.out); have p2 := partU (Hold.below hX _ _ HN2.out); have p3 := partEU (Hold.below hX _ _ HA.out); clear hX; go_simp) <;> with_reducible rfl)
      simp only [Act.put, List.setIfInBounds_toArray, List.set_cons_zero, List.set_cons_succ]
      refine lex_take (i := 5) (v := ?_) rfl (by kernel_rfl) (by kernel_rfl) (by kernel_rfl) (by rfl) hS ?_ ?_
      rotate_left
      · ((intro X hX; have p1 := partU (Hold.below hX _ _ HN1.out); have p2 := partU (Hold.below hX _ _ HN2.out); have p3 := partEU (Hold.below hX _ _ HA.out); clear hX; go_simp) <;> with_reducible rfl)
      simp only [Act.put, List.setIfInBounds_toArray, List.set_cons_zero, List.set_cons_succ]
      refine lex_take (i := 6) (v := ?_) rfl (by kernel_rfl) (by kernel_rfl) (by kernel_rfl) (by rfl) hS ?_ ?_
      rotate_left
      · ((intro X hX; have p1 := partU (Hold.below hX _ _ HN1.out); have p2 := partU (Hold.below hX _ _ HN2.out); have p3 := partEU (Hold.below hX _ _ HA.out); clear hX; go_simp) <;> with_reducible rfl)
      simp only [Act.put, List.setIfInBounds_toArray, List.set_cons_zero, List.set_cons_succ]
      refine lex_take (i := 7) (v := ?_) rfl (by kernel_rfl) (by kernel_rfl) (by kernel_rfl) (by rfl) hS ?_ ?_
      rotate_left
      · ((intro X hX; have p1 := partU (Hold.below hX _ _ HN1.out); have p2 := partU (Hold.below hX _ _ HN2.out); have p3 := partEU (Hold.below hX _ _ HA.out); clear hX; go_simp) <;> with_reducible rfl)
      simp only [Act.put, List.setIfInBounds_toArray, List.set_cons_zero, List.set_cons_succ]
      refine lex_take (i := 8) (v := ?_) rfl (by kernel_rfl) (by kernel_rfl) (by kernel_rfl) (by rfl) hS ?_ ?_
      rotate_left
      · ((intro X hX; have p1 := partU (Hold.below hX _ _ HN1.out); have p2 := partU (Hold.below hX _ _ HN2.out); have p3 := partEU (Hold.below hX _ _ HA.out); clear hX; go_simp) <;> with_reducible rfl)
      simp only [Act.put, List.setIfInBounds_toArray, List.set_cons_zero, List.set_cons_succ]
      refine lex_take (i := 9) (v := ?_) rfl (by kernel_rfl) (by kernel_rfl) (by kernel_rfl) (by rfl) hS ?_ ?_
      rotate_left
      · ((intro X hX; have p1 := partU (Hold.below hX _ _ HN1.out); have p2 := partU (Hold.below hX _ _ HN2.out); have p3 := partEU (Hold.below hX _ _ HA.out); clear hX; go_simp) <;> with_reducible rfl)
      simp only [Act.put, List.setIfInBounds_toArray, List.set_cons_zero, List.set_cons_succ]
      refine lex_take (i := 10) (v := ?_) rfl (by kernel_rfl) (by kernel_rfl) (by kernel_rfl) (by rfl) hS ?_ ?_
      rotate_left
      · ((intro X hX; have p1 := partU (Hold.below hX _ _ HN1.out); have p2 := partU (Hold.below hX _ _ HN2.out); have p3 := partEU (Hold.below hX _ _ HA.out); clear hX; go_simp) <;> with_reducible rfl)
      simp only [Act.put, List.setIfInBounds_toArray, List.set_cons_zero, List.set_cons_succ]
      refine lex_call (i := 11) rfl (by kernel_rfl) (by rfl) ?_ _ (howU _) ?_
      · go_simp
      rintro e w3 ⟨rfl, u3⟩
      have hS1 : Below W.heap.size W w3 := bmore (bd _) u3
      refine ⟨_, rfl, fun X => Below W.heap.size W X, fun X h => h, hS1, ?_⟩
      simp only [Act.put, List.setIfInBounds_toArray, List.set_cons_zero, List.set_cons_succ]
      refine lex_take (i := 12) (v := ?_) rfl (by kernel_rfl) (by kernel_rfl) (by kernel_rfl) (by rfl) hS1 ?_ ?_
      rotate_left
      · ((intro X hX; have p1 := partU (Hold.below hX _ _ HN1.out); have p2 := partU (Hold.below hX _ _ HN2.out); have p3 := partEU (Hold.below hX _ _ HA.out); clear hX; go_simp) <;> with_reducible rfl)
      simp only [Act.put, List.setIfInBounds_toArray, List.set_cons_zero, List.set_cons_succ]
      refine lex_do (i := 13) rfl (by kernel_rfl) (by rfl) (fun K hK => ?_)
      go_simp
      refine hK _ _ ⟨hS1, ?_⟩
      clear hK K
      refine lex_done (by kernel_rfl) ?_
      replace z0 := bcellAt hS1 z0
      replace cr2 := bcellAt hS1 cr2
      have HU3 := Lib.hid (HU2.out.trans (hS1.mono HU2.out.size))
      have TA3 := Lib.hid (TA2.out.below hS1)
      have HT3 := Lib.hid (HT2.out.below hS1)
      clear hS hS1 u3 c02
      go_wp2_with fail
      have hk : ∀ w' : World, Below w3.heap.size w3 w' → w'.cell? ⟨E, 0, none⟩ = some (.int .i64 nk) ∧ w'.cell? ⟨b, 2, none⟩ = some (.pointer vr) ∧ Below w3.heap.size w3 w' := fun w' hb => ⟨bcellAt hb z0, bcellAt hb cr2, hb⟩
      have HK := Lib.hid hk
      clear hk
      go_region_held3 (fun w' => w'.cell? ⟨E, 0, none⟩ = some (.int .i64 nk) ∧ w'.cell? ⟨b, 2, none⟩ = some (.pointer vr) ∧ Below w3.heap.size w3 w') ((refine HK.out _ ?_; first | exact bdd _ _ | exact bd _ | exact (bmore (by first | assumption | exact bdn _ _ | exact bd _ | exact Below.refl _ _) u4) | exact (bmore (bmore (by first | assumption | exact bdn _ _ | exact bd _ | exact Below.refl _ _) u4) u5)))
        ((first
          | ((with_reducible refine (IR.out _ _ _ _ (HR.out.below (bmore HU3.out (by first | assumption | exact bdn _ _ | exact bd _ | exact Below.refl _ _))) (TA3.out.below (by first | assumption | exact bdn _ _ | exact bd _ | exact Below.refl _ _)) (by have := ZS.out; simp only [Tr.size] at hs this; omega)).mono ?_); rintro e w4 ⟨p4, rfl, t4, u4⟩)
          | ((with_reducible refine (joinU nk () (HT3.out.below (bmore (by first | assumption | exact bdn _ _ | exact bd _ | exact Below.refl _ _) u4)) t4 (by have := ZS.out; have := Z2.out; have := Z3.out; simp only [Tr.size] at *; omega)).mono ?_); rintro e w5 ⟨p5, rfl, t5, u5⟩)))
      go_wp2_with fail
      go_ret
      exact ⟨_, rfl, t5, HU3.out.trans ((bmore (bmore (by first | assumption | exact bdn _ _ | exact bd _ | exact Below.refl _ _) u4) u5).mono HU3.out.size)⟩

end Go.Proofs.Ytkobiimkaimbaaa
