/-
  The program's Compare.
-/
import Derived.Test.YtjpembnnelhfkaaDoorTOrd
import Derived.Test.YtjpembnnelhfkaaDoorTNilC
namespace Go.Proofs.YtjpembnnelhfkaaDoor
open Go.RowKit Go.Maps
set_option linter.unusedVariables false

section
variable {B a b : Nat} {v : Value} {p : Pl}
def PCmpC (B a b : Nat) (v : Value) (p : Pl) (t s : Int) (f g : Fo) : Prop := ∀ w : World, IsPool w B a b v p → Calls Tryd.prog 36 #[.pointer (some ⟨a, 0, none⟩), .int .i64 t, .int .i64 s] w fun e w' => e = .returned (.int .i64 (cF f g)) ∧ Below w.heap.size w w'
set_option maxRecDepth 100000 in
set_option maxHeartbeats 12800000 in
theorem pcmp_step (hok : Ok p) {t s : Int} {f g : Fo} (hf : TreeAt p t f) (hg : TreeAt p s g) (ih : ∀ t' s' f' g', TreeAt p t' f' → TreeAt p s' g' → f'.size < f.size → PCmpC B a b v p t' s' f' g') : PCmpC B a b v p t s f g := by
  intro w hp
  obtain ⟨st1, st2⟩ := cmp_step hok hf hg
  have HST1 := Lib.hid st1
  have HST2 := Lib.hid st2
  have LX := Lib.hid (fun (W : World) (h : IsPool W B a b v p) => plook h t)
  have LY := Lib.hid (fun (W : World) (h : IsPool W B a b v p) => plook h s)
  have HP := Lib.hid hp
  have HI := Lib.hid ih
  have HIN : Hid (inP p t = true ∨ inP p t = false) := Lib.hid (by cases inP p t <;> simp)
  clear hp ih st1 st2 hf hg
  generalize atP p t = x at *
  generalize atP p s = y at *
  obtain ⟨x, xs, xd⟩ := x
  obtain ⟨y, ys, yd⟩ := y
  have C1 := Lib.hid (fun W : World => cmpI_any x.kind y.kind W)
  have C2 := Lib.hid (fun W : World => cmpI_any x.frm y.frm W)
  have C3 := Lib.hid (fun W : World => cmpI_any x.to y.to W)
  have C4 := Lib.hid (fun W : World => cmpU_any x.num y.num W)
  have C5 := Lib.hid (fun W : World => cmpS_any x.text y.text W)
  have HOW : Hid (orI [cmpOf x.kind y.kind, cmpOf x.frm y.frm, cmpOf x.to y.to, cmpOf x.num y.num, cmpOf x.text y.text] = own5 x y) := Lib.hid rfl
  simp only at HST1 HST2
  generalize cmpOf x.kind y.kind = c1 at *
  generalize cmpOf x.frm y.frm = c2 at *
  generalize cmpOf x.to y.to = c3 at *
  generalize cmpOf x.num y.num = c4 at *
  generalize cmpOf x.text y.text = c5 at *
  generalize own5 x y = ow at *
  obtain ⟨k1, f1, t1, n1, s1, a1, b1⟩ := x
  obtain ⟨k2, f2, t2, n2, s2, a2, b2⟩ := y
  simp only [madeA] at *
  have hfd := field_node
  go_enter Tryd.func36, Tryd.ntmps36
  go_wp2_with fail
  refine (LX.out _ HP.out).mono ?_
  rintro e w1 ⟨rfl, u1⟩
  have U1 := Lib.hid u1
  clear u1
  go_wp2_with fail
  refine (LY.out _ (HP.out.below U1.out)).mono ?_
  rintro e w2 ⟨rfl, u2⟩
  have U2 := Lib.hid (bmore U1.out u2)
  clear u2
  have bX : Below w2.heap.size w2 ((w2.alloc (.cells #[.int .i64 k1, .int .i64 f1, .int .i64 t1, .int .u64 n1, .string s1, .int .i64 a1, .int .i64 b1] NodeT)).alloc (.cells #[.int .i64 k2, .int .i64 f2, .int .i64 t2, .int .u64 n2, .string s2, .int .i64 a2, .int .i64 b2] NodeT)) := ((Below.refl _ _).alloc (Nat.le_refl _) _).alloc (by simp) _
  have hX : ((w2.alloc (.cells #[.int .i64 k1, .int .i64 f1, .int .i64 t1, .int .u64 n1, .string s1, .int .i64 a1, .int .i64 b1] NodeT)).alloc (.cells #[.int .i64 k2, .int .i64 f2, .int .i64 t2, .int .u64 n2, .string s2, .int .i64 a2, .int .i64 b2] NodeT)).heap[w2.heap.size]? = some (Obj.cells #[.int .i64 k1, .int .i64 f1, .int .i64 t1, .int .u64 n1, .string s1, .int .i64 a1, .int .i64 b1] NodeT) := Hold.below (bZ (w2.alloc (.cells #[.int .i64 k1, .int .i64 f1, .int .i64 t1, .int .u64 n1, .string s1, .int .i64 a1, .int .i64 b1] NodeT)) (.cells #[.int .i64 k2, .int .i64 f2, .int .i64 t2, .int .u64 n2, .string s2, .int .i64 a2, .int .i64 b2] NodeT)) _ _ (heap_alloc_new _ _)
  have hY : ((w2.alloc (.cells #[.int .i64 k1, .int .i64 f1, .int .i64 t1, .int .u64 n1, .string s1, .int .i64 a1, .int .i64 b1] NodeT)).alloc (.cells #[.int .i64 k2, .int .i64 f2, .int .i64 t2, .int .u64 n2, .string s2, .int .i64 a2, .int .i64 b2] NodeT)).heap[w2.heap.size + 1]? = some (Obj.cells #[.int .i64 k2, .int .i64 f2, .int .i64 t2, .int .u64 n2, .string s2, .int .i64 a2, .int .i64 b2] NodeT) := by
    have e : w2.heap.size + 1 = (w2.alloc (.cells #[.int .i64 k1, .int .i64 f1, .int .i64 t1, .int .u64 n1, .string s1, .int .i64 a1, .int .i64 b1] NodeT)).heap.size := by simp
    rw [e]; exact heap_alloc_new _ _
  go_wp2_with fail
  have U3 := Lib.hid (bmore U2.out bX)
  clear bX
  generalize ((w2.alloc (.cells #[.int .i64 k1, .int .i64 f1, .int .i64 t1, .int .u64 n1, .string s1, .int .i64 a1, .int .i64 b1] NodeT)).alloc (.cells #[.int .i64 k2, .int .i64 f2, .int .i64 t2, .int .u64 n2, .string s2, .int .i64 a2, .int .i64 b2] NodeT)) = W at *
  generalize w2.heap.size + 1 = Y at *
  generalize w2.heap.size = X at *
  have x0 := cellB (j := 0) hX rfl
  have x1 := cellB (j := 1) hX rfl
  have x2 := cellB (j := 2) hX rfl
  have x3 := cellB (j := 3) hX rfl
  have x4 := cellB (j := 4) hX rfl
  have x5 := cellB (j := 5) hX rfl
  have x6 := cellB (j := 6) hX rfl
  have y0 := cellB (j := 0) hY rfl
  have y1 := cellB (j := 1) hY rfl
  have y2 := cellB (j := 2) hY rfl
  have y3 := cellB (j := 3) hY rfl
  have y4 := cellB (j := 4) hY rfl
  have y5 := cellB (j := 5) hY rfl
  have y6 := cellB (j := 6) hY rfl
  clear hX hY
  have hk : ∀ V : World, Below W.heap.size W V → V.cell? ⟨X, 0, none⟩ = some (.int .i64 k1) ∧ V.cell? ⟨X, 1, none⟩ = some (.int .i64 f1) ∧ V.cell? ⟨X, 2, none⟩ = some (.int .i64 t1) ∧ V.cell? ⟨X, 3, none⟩ = some (.int .u64 n1) ∧ V.cell? ⟨X, 4, none⟩ = some (.string s1) ∧ V.cell? ⟨X, 5, none⟩ = some (.int .i64 a1) ∧ V.cell? ⟨X, 6, none⟩ = some (.int .i64 b1) ∧ V.cell? ⟨Y, 0, none⟩ = some (.int .i64 k2) ∧ V.cell? ⟨Y, 1, none⟩ = some (.int .i64 f2) ∧ V.cell? ⟨Y, 2, none⟩ = some (.int .i64 t2) ∧ V.cell? ⟨Y, 3, none⟩ = some (.int .u64 n2) ∧ V.cell? ⟨Y, 4, none⟩ = some (.string s2) ∧ V.cell? ⟨Y, 5, none⟩ = some (.int .i64 a2) ∧ V.cell? ⟨Y, 6, none⟩ = some (.int .i64 b2) ∧ Below W.heap.size W V := fun V hb => ⟨bcellAt hb x0, bcellAt hb x1, bcellAt hb x2, bcellAt hb x3, bcellAt hb x4, bcellAt hb x5, bcellAt hb x6, bcellAt hb y0, bcellAt hb y1, bcellAt hb y2, bcellAt hb y3, bcellAt hb y4, bcellAt hb y5, bcellAt hb y6, hb⟩
  have HK := Lib.hid hk
  clear hk
  go_region_held3 (fun w' => w'.cell? ⟨X, 0, none⟩ = some (.int .i64 k1) ∧ w'.cell? ⟨X, 1, none⟩ = some (.int .i64 f1) ∧ w'.cell? ⟨X, 2, none⟩ = some (.int .i64 t1) ∧ w'.cell? ⟨X, 3, none⟩ = some (.int .u64 n1) ∧ w'.cell? ⟨X, 4, none⟩ = some (.string s1) ∧ w'.cell? ⟨X, 5, none⟩ = some (.int .i64 a1) ∧ w'.cell? ⟨X, 6, none⟩ = some (.int .i64 b1) ∧ w'.cell? ⟨Y, 0, none⟩ = some (.int .i64 k2) ∧ w'.cell? ⟨Y, 1, none⟩ = some (.int .i64 f2) ∧ w'.cell? ⟨Y, 2, none⟩ = some (.int .i64 t2) ∧ w'.cell? ⟨Y, 3, none⟩ = some (.int .u64 n2) ∧ w'.cell? ⟨Y, 4, none⟩ = some (.string s2) ∧ w'.cell? ⟨Y, 5, none⟩ = some (.int .i64 a2) ∧ w'.cell? ⟨Y, 6, none⟩ = some (.int .i64 b2) ∧ Below W.heap.size W w') ((refine HK.out _ ?_; repeat' (first | exact Below.refl _ _ | exact bd _ | exact bdn _ _ | refine bAl ?_ _ | refine Below.drew ?_ | (refine bmore ?_ (by assumption)))))
    ((first
      | ((with_reducible refine (C1.out _).mono ?_); rintro e w' ⟨rfl, rfl⟩)
      | ((with_reducible refine (C2.out _).mono ?_); rintro e w' ⟨rfl, rfl⟩)
      | ((with_reducible refine (C3.out _).mono ?_); rintro e w' ⟨rfl, rfl⟩)
      | ((with_reducible refine (C4.out _).mono ?_); rintro e w' ⟨rfl, rfl⟩)
      | ((with_reducible refine (C5.out _).mono ?_); rintro e w' ⟨rfl, rfl⟩)
      | ((with_reducible refine (or_any (l := [c1, c2, c3, c4, c5]) (row5d _ _ _ _ _ _) (by simp)).mono ?_); rintro e w' ⟨rfl, rfl⟩; rw [HOW.out])
      | ((with_reducible refine (or_any (l := [c1, c2, c3, c4, c5]) (row5 _ _ _ _ _ _) (by simp)).mono ?_); rintro e w' ⟨rfl, rfl⟩; rw [HOW.out])))
  have bE : Below W.heap.size W (W.alloc (.cells #[.int .i64 c1, .int .i64 c2, .int .i64 c3, .int .i64 c4, .int .i64 c5] 3)).drew := (bAl (Below.refl _ _) _).drew
  replace x5 := bcellAt bE x5
  replace x6 := bcellAt bE x6
  replace y5 := bcellAt bE y5
  replace y6 := bcellAt bE y6
  have UE := Lib.hid (bmore U3.out bE)
  clear bE x0 x1 x2 x3 x4 y0 y1 y2 y3 y4 HK
  generalize (W.alloc (.cells #[.int .i64 c1, .int .i64 c2, .int .i64 c3, .int .i64 c4, .int .i64 c5] 3)).drew = V at *
  by_cases how : ow = 0
  · obtain ⟨hio, g1, h1, g2, h2, q1, q2, q3, q4, q5, q6, q7, q8, q9, q10⟩ := HST2.out how
    have how' : (ow != 0) = false := by rw [how]; rfl
    clear how HST1 HST2
    by_cases haa : a1 = a2
    · have hne : (a1 != a2) = false := by rw [haa]; simp
      have hz1 := q8 haa
      by_cases hbb : b1 = b2
      · have hne2 : (b1 != b2) = false := by rw [hbb]; simp
        have HC : Hid (cF f g = 0) := Lib.hid (by rw [q6, hz1, if_neg (by simp)]; exact q10 hbb)
        clear q1 q2 q3 q4 q5 q6 q7 q8 q9 q10 hz1 haa hbb hio
        go_wp2_with fail
        go_returns
        exact ⟨by rw [HC.out]; rfl, UE.out⟩
      · have hne2 : (b1 != b2) = true := by rw [bne_iff_ne]; exact hbb
        have hin : inP p t = true := HIN.out.resolve_right (fun h => hbb (q7 h).2.1)
        have HC : Hid (cF f g = cF g2 h2) := Lib.hid (by rw [q6, hz1, if_neg (by simp)])
        have HQ := Lib.hid (HI.out b1 b2 g2 h2 q3 q4 (q5 hin).2 V (HP.out.below UE.out))
        clear q1 q2 q3 q4 q5 q6 q7 q8 q9 q10 hz1 haa hbb hio hin
        go_wp2_with fail
        refine HQ.out.mono ?_
        rintro e w4 ⟨rfl, u4⟩
        have U5 := Lib.hid (bmore UE.out u4)
        clear u4
        go_wp2_with fail
        go_returns
        exact ⟨by rw [HC.out]; rfl, U5.out⟩
    · have hne : (a1 != a2) = true := by rw [bne_iff_ne]; exact haa
      have hin : inP p t = true := HIN.out.resolve_right (fun h => haa (q7 h).1)
      have HC : Hid (cF f g = cF g1 h1) := Lib.hid (by rw [q6, if_pos (q9 haa)])
      have HQ := Lib.hid (HI.out a1 a2 g1 h1 q1 q2 (q5 hin).1 V (HP.out.below UE.out))
      clear q1 q2 q3 q4 q5 q6 q7 q8 q9 q10 haa hio hin
      go_wp2_with fail
      refine HQ.out.mono ?_
      rintro e w4 ⟨rfl, u4⟩
      have U5 := Lib.hid (bmore UE.out u4)
      clear u4
      go_wp2_with fail
      go_returns
      exact ⟨by rw [HC.out]; rfl, U5.out⟩
  · have how' : (ow != 0) = true := by rw [bne_iff_ne]; exact how
    have HC := Lib.hid (HST1.out how)
    clear HST1 HST2
    go_wp2_with fail
    go_returns
    exact ⟨by rw [HC.out]; rfl, UE.out⟩
theorem pcmp_all (hok : Ok p) : ∀ (n : Nat) (f : Fo), f.size ≤ n → ∀ t s g, TreeAt p t f → TreeAt p s g → PCmpC B a b v p t s f g := by
  intro n
  induction n with
  | zero => intro f hf t s g h1 h2; exact pcmp_step hok h1 h2 (fun t' s' f' g' _ _ hl => by omega)
  | succ n ih => intro f hf t s g h1 h2; exact pcmp_step hok h1 h2 (fun t' s' f' g' h3 h4 hl => ih f' (by omega) t' s' g' h3 h4)
theorem pcmp {w : World} (hp : IsPool w B a b v p) {t s : Int} {f g : Fo} (hf : TreeAt p t f) (hg : TreeAt p s g) : Calls Tryd.prog 36 #[.pointer (some ⟨a, 0, none⟩), .int .i64 t, .int .i64 s] w fun e w' => e = .returned (.int .i64 (cF f g)) ∧ Below w.heap.size w w' := pcmp_all hp.ok f.size f (Nat.le_refl _) t s g hf hg w hp
end
end Go.Proofs.YtjpembnnelhfkaaDoor
