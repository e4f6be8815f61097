/-
  The document's own Compare.
-/
import Derived.Test.YtjpembnnelhfkaaDoorTOrd
import Derived.Test.YtjpembnnelhfkaaDoorTRTree
import Derived.RangeFuncBox
namespace Go.Proofs.YtjpembnnelhfkaaDoor
open Go.RowKit Go.Maps
set_option linter.unusedVariables false

theorem rorder (x y : Int) (w : World) : Calls Tryd.prog 70 #[.int .i64 x, .int .i64 y] w fun e w' => e = .returned (.int .i64 (cmpOf x y)) ∧ w = w' := by
  unfold cmpOf
  by_cases h1 : x < y
  · rw [show KOrd.lt x y = true from decide_eq_true h1]
    go_enter Tryd.func70, Tryd.ntmps70
    go_wp2_with fail
    go_returns
    exact ⟨rfl, rfl⟩
  · have h1' : decide (x < y) = false := decide_eq_false h1
    rw [show KOrd.lt x y = false from h1']
    by_cases h2 : y < x
    · rw [show KOrd.lt y x = true from decide_eq_true h2]
      go_enter Tryd.func70, Tryd.ntmps70
      go_wp2_with fail
      go_returns
      exact ⟨rfl, rfl⟩
    · have h2' : decide (y < x) = false := decide_eq_false h2
      rw [show KOrd.lt y x = false from h2']
      go_enter Tryd.func70, Tryd.ntmps70
      go_wp2_with fail
      go_returns
      exact ⟨rfl, rfl⟩
theorem news1 (w : World) (x0 : Value) (T : TypeId) : ∀ j u, [x0][j]? = some u → (w.alloc (.cells #[x0] T)).cell? ((⟨w.heap.size, 0, none⟩ : Addr).add j) = some u := by
  intro j u hj
  have hadd : (⟨w.heap.size, 0, none⟩ : Addr).add j = ⟨w.heap.size, j, none⟩ := by unfold Addr.add; split <;> simp_all
  rw [hadd, World.cell?, heap_alloc_new w _]
  simpa using hj
/-- What a row of one-cell things of the call's own holds, and holds behind a store. -/
theorem own_cell {w : World} {base : Nat} {e : TypeId} {g n c : Nat} {xs : List Value} (h : w.ownsRow base e 1 (.slice (some ⟨g, 0, none⟩) n c) n xs) : (∀ j u, xs[j]? = some u → w.cell? ⟨g, j, none⟩ = some u) ∧ (∀ j, w.frozen? ⟨g, j, none⟩ = false) ∧ (∀ j u, (w.setCell ⟨g, j, none⟩ u).ownsRow base e 1 (.slice (some ⟨g, 0, none⟩) n c) n (xs.set j u)) := by
  obtain ⟨h1, h2⟩ := h
  rcases h2 with ⟨h2, _⟩ | ⟨g', cap, cur, hv, hb, hg, hn, hc, hs, ht⟩
  · cases h2
  · cases hv
    refine ⟨fun j u hj => cellB hg ?_, fun j => frozenB hg, fun j u => ⟨by rw [List.length_set]; exact h1, .inr ⟨g, c, cur.setIfInBounds j u, rfl, hb, setCellB hg, hn, hc, by simp [hs], ?_⟩⟩⟩
    · rw [← ht] at hj
      have hjl := (List.getElem?_eq_some_iff.1 hj).1
      rw [List.getElem?_take_of_lt (by simp at hjl; omega)] at hj
      simpa using hj
    · rw [← ht]
      simp [List.take_set]
theorem cellBB {B : Nat} {w w' : World} {b o : Nat} {u : Value} (h : Below B w w') (hb : b < B) (hc : w.cell? ⟨b, o, none⟩ = some u) : w'.cell? ⟨b, o, none⟩ = some u := by
  rw [cell_of_heap (h.block b hb)]; exact hc
section
variable {B a : Nat} {vl vs vd : Value} {p : Pl}
def RCmpC (B a : Nat) (vl vs vd : Value) (p : Pl) (t s : Int) (f g : Fo) : Prop := ∀ w : World, IsRef w B a vl vs vd p → Calls Tryd.prog 37 #[.pointer (some ⟨a, 0, none⟩), .int .i64 t, .int .i64 s] w fun e w' => e = .returned (.int .i64 (cF f g)) ∧ Below w.heap.size w w'
set_option maxRecDepth 100000 in
set_option maxHeartbeats 51200000 in
theorem rcmp_step (hok : Ok p) {t s : Int} {f g : Fo} (hf : TreeAt p t f) (hg : TreeAt p s g) (ih : ∀ t' s' f' g', TreeAt p t' f' → TreeAt p s' g' → f'.size < f.size → RCmpC B a vl vs vd p t' s' f' g') : RCmpC B a vl vs vd p t s f g := by
  intro w hp
  obtain ⟨i0, hi0, hz0, hz1, hz2⟩ := info_parts rowInt
  obtain ⟨st1, st2⟩ := cmp_step hok hf hg
  have HST1 := Lib.hid st1
  have HST2 := Lib.hid st2
  have LX := Lib.hid (fun (W : World) (h : IsRef W B a vl vs vd p) => rnode h t)
  have LY := Lib.hid (fun (W : World) (h : IsRef W B a vl vs vd p) => rnode h s)
  have HP := Lib.hid hp
  have HI := Lib.hid ih
  have HEQ := Lib.hid (fun (h : t = s) => (show cF f g = 0 from by rw [(hf.same hok hg).2 h]; exact cF_refl g))
  have HOUT : Hid ((inP p t = true → inP p s = false → cF f g = 1) ∧ (inP p t = false → inP p s = true → cF f g = -1) ∧ (inP p t = false → inP p s = false → cF f g = 0)) := Lib.hid (by
    have key : ∀ {x : Int} {u : Fo}, TreeAt p x u → (inP p x = true → ∃ n k r, u = .cons n k r) ∧ (inP p x = false → u = .nil) := fun {x u} hx => by
      rcases hx with ⟨h1, h2, _⟩ | ⟨h1, h2⟩
      · refine ⟨fun _ => ?_, (fun h => by rw [h1] at h; cases h)⟩
        match u, h2 with
        | .cons n k r, _ => exact ⟨n, k, r, rfl⟩
      · exact ⟨(fun h => by rw [h1] at h; cases h), fun _ => h2⟩
    refine ⟨fun h1 h2 => ?_, fun h1 h2 => ?_, fun h1 h2 => ?_⟩
    · obtain ⟨n, k, r, rfl⟩ := (key hf).1 h1
      rw [(key hg).2 h2]; rfl
    · obtain ⟨n, k, r, rfl⟩ := (key hg).1 h2
      rw [(key hf).2 h1]; rfl
    · rw [(key hf).2 h1, (key hg).2 h2]; rfl)
  have HINN := Lib.hid (fun (h : inP p t = true) => h)
  clear hp ih st1 st2 hf hg
  generalize hit : inP p t = it at *
  generalize his : inP p s = is at *
  generalize (atP p t).1 = x at *
  generalize (atP p s).1 = y at *
  have O1 := Lib.hid (fun W : World => rorder x.kind y.kind W)
  have O2 := Lib.hid (fun W : World => rorder x.frm y.frm W)
  have O3 := Lib.hid (fun W : World => rorder x.to y.to W)
  have HOW : Hid (orI [cmpOf x.kind y.kind, cmpOf x.frm y.frm, cmpOf x.to y.to, cmpOf x.num y.num, cmpOf x.text y.text] = own5 x y) := Lib.hid rfl
  have HC4 : Hid (cmpOf x.num y.num = cmpOf x.num y.num) := Lib.hid rfl
  have HC5 : Hid (cmpOf x.text y.text = cmpOf x.text y.text) := Lib.hid rfl
  obtain ⟨k1, f1, t1, n1, s1, a1, b1⟩ := x
  obtain ⟨k2, f2, t2, n2, s2, a2, b2⟩ := y
  simp only [nodeA] at *
  clear HINN
  cases it with
  | false =>
    have HF := Lib.hid HOUT.out.2
    clear HOUT HST1 HST2 HI HEQ O1 O2 O3 HOW HC4 HC5
    go_enter Tryd.func37, Tryd.ntmps37
    go_wp2_with fail
    refine (LX.out _ HP.out).mono ?_
    rintro e w1 ⟨rfl, u1⟩
    have bN := bmore u1 (bZ w1 (.cells #[.int .i64 k1, .int .i64 f1, .int .i64 t1, .int .u64 n1, .string s1, .int .i64 a1, .int .i64 b1] NodeT))
    have HP1 := Lib.hid (HP.out.below bN)
    have HU1 := Lib.hid bN
    clear u1 bN
    go_wp2_with fail
    refine (LY.out _ HP1.out).mono ?_
    rintro e w2 ⟨rfl, u2⟩
    have HU2 := Lib.hid (bmore (bmore HU1.out u2) (bZ w2 (.cells #[.int .i64 k2, .int .i64 f2, .int .i64 t2, .int .u64 n2, .string s2, .int .i64 a2, .int .i64 b2] NodeT)))
    clear u2
    cases is with
    | true =>
      have HF2 := Lib.hid (HF.out.1 (by simp) (by simp))
      go_wp2_with fail
      refine (rorder 0 1 _).mono ?_
      rintro e w3 ⟨rfl, rfl⟩
      go_wp2_with fail
      go_returns
      exact ⟨by rw [HF2.out]; rfl, HU2.out⟩
    | false =>
      have HF2 := Lib.hid (HF.out.2 (by simp) (by simp))
      go_wp2_with fail
      refine (rorder 0 0 _).mono ?_
      rintro e w3 ⟨rfl, rfl⟩
      go_wp2_with fail
      go_returns
      exact ⟨by rw [HF2.out]; rfl, HU2.out⟩
  | true =>
    cases is with
    | false =>
      have HF2 := Lib.hid (HOUT.out.1 (by simp) (by simp))
      clear HOUT HST1 HST2 HI HEQ O1 O2 O3 HOW HC4 HC5
      go_enter Tryd.func37, Tryd.ntmps37
      go_wp2_with fail
      refine (LX.out _ HP.out).mono ?_
      rintro e w1 ⟨rfl, u1⟩
      have bN := bmore u1 (bZ w1 (.cells #[.int .i64 k1, .int .i64 f1, .int .i64 t1, .int .u64 n1, .string s1, .int .i64 a1, .int .i64 b1] NodeT))
      have HP1 := Lib.hid (HP.out.below bN)
      have HU1 := Lib.hid bN
      clear u1 bN
      go_wp2_with fail
      refine (LY.out _ HP1.out).mono ?_
      rintro e w2 ⟨rfl, u2⟩
      have HU2 := Lib.hid (bmore (bmore HU1.out u2) (bZ w2 (.cells #[.int .i64 k2, .int .i64 f2, .int .i64 t2, .int .u64 n2, .string s2, .int .i64 a2, .int .i64 b2] NodeT)))
      clear u2
      go_wp2_with fail
      refine (rorder 1 0 _).mono ?_
      rintro e w3 ⟨rfl, rfl⟩
      go_wp2_with fail
      go_returns
      exact ⟨by rw [HF2.out]; rfl, HU2.out⟩
    | true =>
      clear HOUT
      have HIN : Hid (true = true) := Lib.hid rfl
      by_cases hts : t = s
      · have HF2 := Lib.hid (HEQ.out hts)
        have hts' : (t == s) = true := by rw [beq_iff_eq]; exact hts
        clear hts HST1 HST2 HI HEQ O1 O2 O3 HOW HC4 HC5
        go_enter Tryd.func37, Tryd.ntmps37
        go_wp2_with fail
        refine (LX.out _ HP.out).mono ?_
        rintro e w1 ⟨rfl, u1⟩
        have bN := bmore u1 (bZ w1 (.cells #[.int .i64 k1, .int .i64 f1, .int .i64 t1, .int .u64 n1, .string s1, .int .i64 a1, .int .i64 b1] NodeT))
        have HP1 := Lib.hid (HP.out.below bN)
        have HU1 := Lib.hid bN
        clear u1 bN
        go_wp2_with fail
        refine (LY.out _ HP1.out).mono ?_
        rintro e w2 ⟨rfl, u2⟩
        have HU2 := Lib.hid (bmore (bmore HU1.out u2) (bZ w2 (.cells #[.int .i64 k2, .int .i64 f2, .int .i64 t2, .int .u64 n2, .string s2, .int .i64 a2, .int .i64 b2] NodeT)))
        clear u2
        go_wp2_with fail
        go_returns
        exact ⟨by rw [HF2.out]; rfl, HU2.out⟩
      · have hts' : (t == s) = false := by rw [beq_eq_false_iff_ne]; exact hts
        have HN4 : Hid (n1 = n2 ∨ n1 < n2 ∨ n2 < n1) := Lib.hid (by omega)
        have HS5 : Hid (s1 = s2 ∨ Op.bytesLess s1.toList s2.toList = true ∨ Op.bytesLess s2.toList s1.toList = true) := Lib.hid (by
          cases h1 : Op.bytesLess s1.toList s2.toList with
          | true => exact .inr (.inl rfl)
          | false =>
            cases h2 : Op.bytesLess s2.toList s1.toList with
            | true => exact .inr (.inr rfl)
            | false => exact .inl (toList_inj (bytesLess_tri _ _ h1 h2)))
        clear hts HEQ
        generalize cmpOf k1 k2 = c1 at *
        generalize cmpOf f1 f2 = c2 at *
        generalize cmpOf t1 t2 = c3 at *
        generalize hc4 : cmpOf n1 n2 = c4 at *
        generalize hc5 : cmpOf s1 s2 = c5 at *
        clear HC4 HC5
        have HC4 := Lib.hid hc4
        have HC5 := Lib.hid hc5
        clear hc4 hc5
        generalize own5 ⟨k1, f1, t1, n1, s1, a1, b1⟩ ⟨k2, f2, t2, n2, s2, a2, b2⟩ = ow at *
        go_enter Tryd.func37, Tryd.ntmps37
        go_wp2_with fail
        refine (LX.out _ HP.out).mono ?_
        rintro e w1 ⟨rfl, u1⟩
        have bN := bZ w1 (.cells #[.int .i64 k1, .int .i64 f1, .int .i64 t1, .int .u64 n1, .string s1, .int .i64 a1, .int .i64 b1] NodeT)
        have hX0 : (w1.alloc (.cells #[.int .i64 k1, .int .i64 f1, .int .i64 t1, .int .u64 n1, .string s1, .int .i64 a1, .int .i64 b1] NodeT)).heap[w1.heap.size]? = some (Obj.cells #[.int .i64 k1, .int .i64 f1, .int .i64 t1, .int .u64 n1, .string s1, .int .i64 a1, .int .i64 b1] NodeT) := heap_alloc_new _ _
        have hu := bmore u1 bN
        have HP1 := Lib.hid (HP.out.below hu)
        have HU1 := Lib.hid hu
        have HX0 := Lib.hid hX0
        clear u1 bN hu hX0
        go_wp2_with fail
        refine (LY.out _ HP1.out).mono ?_
        rintro e w2 ⟨rfl, u2⟩
        have bN := bZ w2 (.cells #[.int .i64 k2, .int .i64 f2, .int .i64 t2, .int .u64 n2, .string s2, .int .i64 a2, .int .i64 b2] NodeT)
        have hX := Hold.below (bmore u2 bN) _ _ HX0.out
        have hY : (w2.alloc (.cells #[.int .i64 k2, .int .i64 f2, .int .i64 t2, .int .u64 n2, .string s2, .int .i64 a2, .int .i64 b2] NodeT)).heap[w2.heap.size]? = some (Obj.cells #[.int .i64 k2, .int .i64 f2, .int .i64 t2, .int .u64 n2, .string s2, .int .i64 a2, .int .i64 b2] NodeT) := heap_alloc_new _ _
        have hu := bmore u2 bN
        have HR := Lib.hid (HP1.out.below hu)
        have UE := Lib.hid (bmore HU1.out hu)
        clear u2 bN hu HX0 HP1 HU1 LX LY
        go_wp2_with fail
        generalize (w2.alloc (.cells #[.int .i64 k2, .int .i64 f2, .int .i64 t2, .int .u64 n2, .string s2, .int .i64 a2, .int .i64 b2] NodeT)) = W at *
        generalize w1.heap.size = X at *
        generalize w2.heap.size = Y at *
        have HLTx := Lib.hid (Array.getElem?_eq_some_iff.1 hX).1
        have HLTy := Lib.hid (Array.getElem?_eq_some_iff.1 hY).1
        have x0 := cellB (j := 0) hX rfl
        have x1 := cellB (j := 1) hX rfl
        have x2 := cellB (j := 2) hX rfl
        have x3 := cellB (j := 3) hX rfl
        have x4 := cellB (j := 4) hX rfl
        have x5 := cellB (j := 5) hX rfl
        have x6 := cellB (j := 6) hX rfl
        have y0 := cellB (j := 0) hY rfl
        have y1 := cellB (j := 1) hY rfl
        have y2 := cellB (j := 2) hY rfl
        have y3 := cellB (j := 3) hY rfl
        have y4 := cellB (j := 4) hY rfl
        have y5 := cellB (j := 5) hY rfl
        have y6 := cellB (j := 6) hY rfl
        clear hX hY
        have hk : ∀ V : World, Below W.heap.size W V → V.cell? ⟨X, 0, none⟩ = some (.int .i64 k1) ∧ V.cell? ⟨X, 1, none⟩ = some (.int .i64 f1) ∧ V.cell? ⟨X, 2, none⟩ = some (.int .i64 t1) ∧ V.cell? ⟨X, 3, none⟩ = some (.int .u64 n1) ∧ V.cell? ⟨X, 4, none⟩ = some (.string s1) ∧ V.cell? ⟨X, 5, none⟩ = some (.int .i64 a1) ∧ V.cell? ⟨X, 6, none⟩ = some (.int .i64 b1) ∧ V.cell? ⟨Y, 0, none⟩ = some (.int .i64 k2) ∧ V.cell? ⟨Y, 1, none⟩ = some (.int .i64 f2) ∧ V.cell? ⟨Y, 2, none⟩ = some (.int .i64 t2) ∧ V.cell? ⟨Y, 3, none⟩ = some (.int .u64 n2) ∧ V.cell? ⟨Y, 4, none⟩ = some (.string s2) ∧ V.cell? ⟨Y, 5, none⟩ = some (.int .i64 a2) ∧ V.cell? ⟨Y, 6, none⟩ = some (.int .i64 b2) ∧ Below W.heap.size W V := fun V hb => ⟨bcellAt hb x0, bcellAt hb x1, bcellAt hb x2, bcellAt hb x3, bcellAt hb x4, bcellAt hb x5, bcellAt hb x6, bcellAt hb y0, bcellAt hb y1, bcellAt hb y2, bcellAt hb y3, bcellAt hb y4, bcellAt hb y5, bcellAt hb y6, hb⟩
        have HK := Lib.hid hk
        clear hk
        go_region_held3 (fun w' => w'.cell? ⟨X, 0, none⟩ = some (.int .i64 k1) ∧ w'.cell? ⟨X, 1, none⟩ = some (.int .i64 f1) ∧ w'.cell? ⟨X, 2, none⟩ = some (.int .i64 t1) ∧ w'.cell? ⟨X, 3, none⟩ = some (.int .u64 n1) ∧ w'.cell? ⟨X, 4, none⟩ = some (.string s1) ∧ w'.cell? ⟨X, 5, none⟩ = some (.int .i64 a1) ∧ w'.cell? ⟨X, 6, none⟩ = some (.int .i64 b1) ∧ w'.cell? ⟨Y, 0, none⟩ = some (.int .i64 k2) ∧ w'.cell? ⟨Y, 1, none⟩ = some (.int .i64 f2) ∧ w'.cell? ⟨Y, 2, none⟩ = some (.int .i64 t2) ∧ w'.cell? ⟨Y, 3, none⟩ = some (.int .u64 n2) ∧ w'.cell? ⟨Y, 4, none⟩ = some (.string s2) ∧ w'.cell? ⟨Y, 5, none⟩ = some (.int .i64 a2) ∧ w'.cell? ⟨Y, 6, none⟩ = some (.int .i64 b2) ∧ Below W.heap.size W w') ((refine HK.out _ ?_; repeat' (first | exact Below.refl _ _ | exact bd _ | exact bdn _ _ | refine bAl ?_ _ | refine Below.drew ?_ | (refine bmore ?_ (by assumption)))))
          ((first
            | ((with_reducible refine (O1.out _).mono ?_); rintro e w' ⟨rfl, rfl⟩)
            | ((with_reducible refine (O2.out _).mono ?_); rintro e w' ⟨rfl, rfl⟩)
            | ((with_reducible refine (O3.out _).mono ?_); rintro e w' ⟨rfl, rfl⟩)))
        have hV : Below W.heap.size W (W.alloc (.cells #[.int .i64 c1, .int .i64 c2, .int .i64 c3] 3)).drew := (bAl (Below.refl _ _) _).drew
        have HO3 : (W.alloc (.cells #[.int .i64 c1, .int .i64 c2, .int .i64 c3] 3)).drew.ownsRow W.heap.size IntT 1 (.slice (some ⟨W.heap.size, 0, none⟩) 3 3) 3 [.int .i64 c1, .int .i64 c2, .int .i64 c3] := ⟨rfl, .inr ⟨W.heap.size, 3, #[.int .i64 c1, .int .i64 c2, .int .i64 c3], rfl, Nat.le_refl _, heap_alloc_new _ _, by decide, by decide, rfl, rfl⟩⟩
        replace x0 := bcellAt hV x0
        replace x1 := bcellAt hV x1
        replace x2 := bcellAt hV x2
        replace x3 := bcellAt hV x3
        replace x4 := bcellAt hV x4
        replace x5 := bcellAt hV x5
        replace x6 := bcellAt hV x6
        replace y0 := bcellAt hV y0
        replace y1 := bcellAt hV y1
        replace y2 := bcellAt hV y2
        replace y3 := bcellAt hV y3
        replace y4 := bcellAt hV y4
        replace y5 := bcellAt hV y5
        replace y6 := bcellAt hV y6
        have HU := Lib.hid hV
        have HSB : Hid (W.heap.size = W.heap.size) := Lib.hid rfl
        clear hV HK O1 O2 O3
        generalize (W.alloc (.cells #[.int .i64 c1, .int .i64 c2, .int .i64 c3] 3)).drew = V0 at *
        rcases HN4.out with hn | hn | hn
        · rcases HS5.out with hs | hs | hs
          · have g4 : (n1 != n2) = false := by rw [hn]; simp
            have v4 : c4 = 0 := by rw [← HC4.out, hn]; exact cmpOf_cmp.refl _
            have g5 : (s1.toList == s2.toList) = true := by rw [hs]; simp
            have v5 : c5 = 0 := by rw [← HC5.out, hs]; exact cmpOf_cmp.refl _
            clear hn hs
            have HO : Hid (V0.ownsRow W.heap.size IntT 1 (.slice (some ⟨W.heap.size, 0, none⟩) 3 3) 3 [.int .i64 c1, .int .i64 c2, .int .i64 c3]) := HO3
            have HL : Hid (orI [c1, c2, c3] = ow) := Lib.hid (by rw [← HOW.out, v4, v5]; (try simp [orI]))
            have HCE := Lib.hid (fun (j : Nat) (u : Value) (h : (ints [c1, c2, c3])[j]? = some u) => (own_cell HO.out).1 j u h)
            have HLE : Hid (([c1, c2, c3] : List Int).length = 3) := Lib.hid rfl
            clear v4 v5 HC4 HC5 HOW
            generalize hls : [c1, c2, c3] = ls at *
            clear hls
            go_wp2_with fail
            go_loop [14] (fun v => ∃ q : Nat, v = .int .i64 (q : Int) ∧ q ≤ 3 ∧ orI (ls.drop q) = ow) (fun v => 3 - (intOf v).toNat)
            case atStart => exact ⟨0, rfl, by omega, HL.out⟩
            case round =>
              obtain ⟨q, rfl, hq, ho⟩ := hrel
              by_cases hlt : q < 3
              · have hlq : q < ls.length := by rw [HLE.out]; exact hlt
                have z0 := HCE.out q _ (ints_at ls q hlq)
                have hd := orI_drop ls q hlq
                rw [ho] at hd
                have HD := Lib.hid hd
                clear hd ho HCE
                generalize ls[q] = z at *
                have hk0 : (0 : Int) ≤ (q : Int) := by omega
                have hk1 : (q : Int) < 3 := by omega
                by_cases hz : z = 0
                · have hz1 : (z != 0) = false := by rw [hz]; rfl
                  have HE : Hid (orI (ls.drop (q + 1)) = ow) := Lib.hid (by have := HD.out; rw [if_pos hz] at this; exact this.symm)
                  clear hz HD
                  go_wp2_with fail
                  go_round
                  case rel => exact ⟨q + 1, by go_num, by omega, HE.out⟩
                  case measure => simp [intOf]; omega
                · have hz1 : (z != 0) = true := by rw [bne_iff_ne]; exact hz
                  have HE : Hid (ow = z) := Lib.hid (by have := HD.out; rwa [if_neg hz] at this)
                  have hne : ow ≠ 0 := by rw [HE.out]; exact hz
                  have HFG := Lib.hid (HST1.out hne)
                  clear hz HD hne
                  go_wp2_with fail
                  go_returns
                  exact ⟨by rw [HFG.out, HE.out]; rfl, bmore UE.out HU.out⟩
              · have hq' : q = 3 := by omega
                have h0 : ow = 0 := by rw [← ho, hq', ← HLE.out, List.drop_length]; rfl
                have hk1 : ¬ ((q : Int) < 3) := by omega
                obtain ⟨_, u1, v1, u2, v2, r1, r2, r3, r4, r5, r6, _⟩ := HST2.out h0
                have HQ1 := Lib.hid (HI.out a1 a2 u1 v1 r1 r2 (r5 HIN.out).1 V0 (HR.out.below HU.out))
                have HQ2 := Lib.hid (fun (V : World) (hV : Below V0.heap.size V0 V) => HI.out b1 b2 u2 v2 r3 r4 (r5 HIN.out).2 V (HR.out.below (bmore HU.out hV)))
                have HFG := Lib.hid r6
                clear r1 r2 r3 r4 r5 r6 h0 ho hlt HCE HL HLE
                generalize cF u1 v1 = d1 at *
                generalize cF u2 v2 = d2 at *
                go_wp2_with fail
                refine HQ1.out.mono ?_
                rintro e w9 ⟨rfl, u9⟩
                have HU9 := Lib.hid (bmore HU.out u9)
                have HU9' := Lib.hid u9
                replace x6 := bcellAt u9 x6
                replace y6 := bcellAt u9 y6
                clear u9 x0 x1 x2 x3 x4 x5 y0 y1 y2 y3 y4 y5
                by_cases hd : d1 = 0
                · have hd1 : (d1 != 0) = false := by rw [hd]; rfl
                  have HF2 : Hid (cF f g = d2) := Lib.hid (by rw [HFG.out, if_neg (by simp [hd])])
                  clear hd
                  go_wp2_with fail
                  refine (HQ2.out _ HU9'.out).mono ?_
                  rintro e w10 ⟨rfl, u10⟩
                  have HU10 := Lib.hid (bmore UE.out (bmore HU9.out u10))
                  clear u10
                  go_wp2_with fail
                  go_returns
                  exact ⟨by rw [HF2.out]; rfl, HU10.out⟩
                · have hd1 : (d1 != 0) = true := by rw [bne_iff_ne]; exact hd
                  have HF2 : Hid (cF f g = d1) := Lib.hid (by rw [HFG.out, if_pos hd])
                  clear hd
                  go_wp2_with fail
                  go_returns
                  exact ⟨by rw [HF2.out]; rfl, bmore UE.out HU9.out⟩
          · have g4 : (n1 != n2) = false := by rw [hn]; simp
            have v4 : c4 = 0 := by rw [← HC4.out, hn]; exact cmpOf_cmp.refl _
            have g5 : (s1.toList == s2.toList) = false := ne_bytes (fun e => by rw [e, bytesLess_irr] at hs; cases hs)
            have g5' : Op.bytesLess s1.toList s2.toList = true := hs
            have v5 : c5 = -1 := by rw [← HC5.out]; unfold cmpOf; rw [show KOrd.lt s1 s2 = true from hs]; rfl
            clear hn hs
            have HO : Hid (V0.ownsRow W.heap.size IntT 1 (.slice (some ⟨W.heap.size, 0, none⟩) 3 3) 3 [.int .i64 c1, .int .i64 c2, .int .i64 c3]) := HO3
            go_wp2_with (at_builtin; refine wpList_append_at _ rfl _ _ 41 rfl W.heap.size IntT i0 (.int .i64 0) 1 8 Tryd.underlying41 hi0 hz0 hz1 hz2 rfl (by decide) (.slice (some ⟨W.heap.size, 0, none⟩) 3 3) 3 [.int .i64 c1, .int .i64 c2, .int .i64 c3] rfl (HO.out.alloc _) ⟨V0.heap.size, 0, none⟩ 1 1 [.int .i64 1] rfl (by decide) rfl (news1 V0 _ _) (by simp [Value.oneCell']) (by unfold maxLen; omega) (by omega) (by have h := HU.out.size; (try simp); (try omega)) ?_)
            intro v3 w3 o3 q3 p3
            obtain ⟨g3, e3, rfl⟩ := ownsRow_succ o3
            try simp only [Nat.reduceAdd]
            have hu3 : Below W.heap.size V0 w3 := ((bZ V0 _).mono HU.out.size).grown q3 (by have h := HU.out.size; (try simp); (try omega)) (fun k e => by cases e; exact (own_type HO.out rfl).1)
            have HU3 := Lib.hid (HU.out.trans (hu3.mono (Nat.le_refl _)))
            have HO3' := Lib.hid (show w3.ownsRow W.heap.size IntT 1 (.slice (some ⟨g3, 0, none⟩) 4 e3) 4 [.int .i64 c1, .int .i64 c2, .int .i64 c3, .int .i64 1] from o3)
            replace x0 := cellBB hu3 HLTx.out x0
            replace x1 := cellBB hu3 HLTx.out x1
            replace x2 := cellBB hu3 HLTx.out x2
            replace x3 := cellBB hu3 HLTx.out x3
            replace x4 := cellBB hu3 HLTx.out x4
            replace x5 := cellBB hu3 HLTx.out x5
            replace x6 := cellBB hu3 HLTx.out x6
            replace y0 := cellBB hu3 HLTy.out y0
            replace y1 := cellBB hu3 HLTy.out y1
            replace y2 := cellBB hu3 HLTy.out y2
            replace y3 := cellBB hu3 HLTy.out y3
            replace y4 := cellBB hu3 HLTy.out y4
            replace y5 := cellBB hu3 HLTy.out y5
            replace y6 := cellBB hu3 HLTy.out y6
            clear hu3 o3 q3 p3 HU HO
            have HU := HU3
            have HO := HO3'
            clear HU3 HO3'
            have oc := own_cell HO.out
            have z0 := oc.1 3 _ rfl
            have z1 := oc.2.1 3
            have HO2 := Lib.hid (show (w3.setCell ⟨g3, 3, none⟩ (.int .i64 (-1))).ownsRow W.heap.size IntT 1 (.slice (some ⟨g3, 0, none⟩) 4 e3) 4 [.int .i64 c1, .int .i64 c2, .int .i64 c3, .int .i64 (-1)] from oc.2.2 3 (.int .i64 (-1)))
            have hus : Below W.heap.size w3 (w3.setCell ⟨g3, 3, none⟩ (.int .i64 (-1))) := (Below.refl W.heap.size w3).setCell (p := ⟨g3, 3, none⟩) (own_type HO.out rfl).1 _
            have HUs := Lib.hid (HU.out.trans (hus.mono (Nat.le_refl _)))
            clear oc
            have x0' := cellBB hus HLTx.out x0
            have x1' := cellBB hus HLTx.out x1
            have x2' := cellBB hus HLTx.out x2
            have x3' := cellBB hus HLTx.out x3
            have x4' := cellBB hus HLTx.out x4
            have x5' := cellBB hus HLTx.out x5
            have x6' := cellBB hus HLTx.out x6
            have y0' := cellBB hus HLTy.out y0
            have y1' := cellBB hus HLTy.out y1
            have y2' := cellBB hus HLTy.out y2
            have y3' := cellBB hus HLTy.out y3
            have y4' := cellBB hus HLTy.out y4
            have y5' := cellBB hus HLTy.out y5
            have y6' := cellBB hus HLTy.out y6
            clear hus HU HO
            have HU := HUs
            have HO := HO2
            clear HUs HO2
            have HL : Hid (orI [c1, c2, c3, -1] = ow) := Lib.hid (by rw [← HOW.out, v4, v5]; (try simp [orI]))
            have HCE := Lib.hid (fun (j : Nat) (u : Value) (h : (ints [c1, c2, c3, -1])[j]? = some u) => (own_cell HO.out).1 j u h)
            have HLE : Hid (([c1, c2, c3, -1] : List Int).length = 4) := Lib.hid rfl
            clear v4 v5 HC4 HC5 HOW
            generalize hls : [c1, c2, c3, -1] = ls at *
            clear hls
            go_wp2_with fail
            replace x0 := x0'
            replace x1 := x1'
            replace x2 := x2'
            replace x3 := x3'
            replace x4 := x4'
            replace x5 := x5'
            replace x6 := x6'
            replace y0 := y0'
            replace y1 := y1'
            replace y2 := y2'
            replace y3 := y3'
            replace y4 := y4'
            replace y5 := y5'
            replace y6 := y6'
            clear z0 z1 x0' x1' x2' x3' x4' x5' x6' y0' y1' y2' y3' y4' y5' y6'
            generalize (w3.setCell ⟨g3, 3, none⟩ (.int .i64 (-1))) = wz at *
            go_loop [14] (fun v => ∃ q : Nat, v = .int .i64 (q : Int) ∧ q ≤ 4 ∧ orI (ls.drop q) = ow) (fun v => 4 - (intOf v).toNat)
            case atStart => exact ⟨0, rfl, by omega, HL.out⟩
            case round =>
              obtain ⟨q, rfl, hq, ho⟩ := hrel
              by_cases hlt : q < 4
              · have hlq : q < ls.length := by rw [HLE.out]; exact hlt
                have z0 := HCE.out q _ (ints_at ls q hlq)
                have hd := orI_drop ls q hlq
                rw [ho] at hd
                have HD := Lib.hid hd
                clear hd ho HCE
                generalize ls[q] = z at *
                have hk0 : (0 : Int) ≤ (q : Int) := by omega
                have hk1 : (q : Int) < 4 := by omega
                by_cases hz : z = 0
                · have hz1 : (z != 0) = false := by rw [hz]; rfl
                  have HE : Hid (orI (ls.drop (q + 1)) = ow) := Lib.hid (by have := HD.out; rw [if_pos hz] at this; exact this.symm)
                  clear hz HD
                  go_wp2_with fail
                  go_round
                  case rel => exact ⟨q + 1, by go_num, by omega, HE.out⟩
                  case measure => simp [intOf]; omega
                · have hz1 : (z != 0) = true := by rw [bne_iff_ne]; exact hz
                  have HE : Hid (ow = z) := Lib.hid (by have := HD.out; rwa [if_neg hz] at this)
                  have hne : ow ≠ 0 := by rw [HE.out]; exact hz
                  have HFG := Lib.hid (HST1.out hne)
                  clear hz HD hne
                  go_wp2_with fail
                  go_returns
                  exact ⟨by rw [HFG.out, HE.out]; rfl, bmore UE.out HU.out⟩
              · have hq' : q = 4 := by omega
                have h0 : ow = 0 := by rw [← ho, hq', ← HLE.out, List.drop_length]; rfl
                have hk1 : ¬ ((q : Int) < 4) := by omega
                obtain ⟨_, u1, v1, u2, v2, r1, r2, r3, r4, r5, r6, _⟩ := HST2.out h0
                have HQ1 := Lib.hid (HI.out a1 a2 u1 v1 r1 r2 (r5 HIN.out).1 wz (HR.out.below HU.out))
                have HQ2 := Lib.hid (fun (V : World) (hV : Below wz.heap.size wz V) => HI.out b1 b2 u2 v2 r3 r4 (r5 HIN.out).2 V (HR.out.below (bmore HU.out hV)))
                have HFG := Lib.hid r6
                clear r1 r2 r3 r4 r5 r6 h0 ho hlt HCE HL HLE
                generalize cF u1 v1 = d1 at *
                generalize cF u2 v2 = d2 at *
                go_wp2_with fail
                refine HQ1.out.mono ?_
                rintro e w9 ⟨rfl, u9⟩
                have HU9 := Lib.hid (bmore HU.out u9)
                have HU9' := Lib.hid u9
                replace x6 := bcellAt u9 x6
                replace y6 := bcellAt u9 y6
                clear u9 x0 x1 x2 x3 x4 x5 y0 y1 y2 y3 y4 y5
                by_cases hd : d1 = 0
                · have hd1 : (d1 != 0) = false := by rw [hd]; rfl
                  have HF2 : Hid (cF f g = d2) := Lib.hid (by rw [HFG.out, if_neg (by simp [hd])])
                  clear hd
                  go_wp2_with fail
                  refine (HQ2.out _ HU9'.out).mono ?_
                  rintro e w10 ⟨rfl, u10⟩
                  have HU10 := Lib.hid (bmore UE.out (bmore HU9.out u10))
                  clear u10
                  go_wp2_with fail
                  go_returns
                  exact ⟨by rw [HF2.out]; rfl, HU10.out⟩
                · have hd1 : (d1 != 0) = true := by rw [bne_iff_ne]; exact hd
                  have HF2 : Hid (cF f g = d1) := Lib.hid (by rw [HFG.out, if_pos hd])
                  clear hd
                  go_wp2_with fail
                  go_returns
                  exact ⟨by rw [HF2.out]; rfl, bmore UE.out HU9.out⟩
          · have g4 : (n1 != n2) = false := by rw [hn]; simp
            have v4 : c4 = 0 := by rw [← HC4.out, hn]; exact cmpOf_cmp.refl _
            have g5 : (s1.toList == s2.toList) = false := ne_bytes (fun e => by rw [e, bytesLess_irr] at hs; cases hs)
            have g5' : Op.bytesLess s1.toList s2.toList = false := KOrd.asym (K := ByteArray) hs
            have v5 : c5 = 1 := by rw [← HC5.out]; unfold cmpOf; rw [show KOrd.lt s1 s2 = false from g5', show KOrd.lt s2 s1 = true from hs]; rfl
            clear hn hs
            have HO : Hid (V0.ownsRow W.heap.size IntT 1 (.slice (some ⟨W.heap.size, 0, none⟩) 3 3) 3 [.int .i64 c1, .int .i64 c2, .int .i64 c3]) := HO3
            go_wp2_with (at_builtin; refine wpList_append_at _ rfl _ _ 41 rfl W.heap.size IntT i0 (.int .i64 0) 1 8 Tryd.underlying41 hi0 hz0 hz1 hz2 rfl (by decide) (.slice (some ⟨W.heap.size, 0, none⟩) 3 3) 3 [.int .i64 c1, .int .i64 c2, .int .i64 c3] rfl (HO.out.alloc _) ⟨V0.heap.size, 0, none⟩ 1 1 [.int .i64 1] rfl (by decide) rfl (news1 V0 _ _) (by simp [Value.oneCell']) (by unfold maxLen; omega) (by omega) (by have h := HU.out.size; (try simp); (try omega)) ?_)
            intro v3 w3 o3 q3 p3
            obtain ⟨g3, e3, rfl⟩ := ownsRow_succ o3
            try simp only [Nat.reduceAdd]
            have hu3 : Below W.heap.size V0 w3 := ((bZ V0 _).mono HU.out.size).grown q3 (by have h := HU.out.size; (try simp); (try omega)) (fun k e => by cases e; exact (own_type HO.out rfl).1)
            have HU3 := Lib.hid (HU.out.trans (hu3.mono (Nat.le_refl _)))
            have HO3' := Lib.hid (show w3.ownsRow W.heap.size IntT 1 (.slice (some ⟨g3, 0, none⟩) 4 e3) 4 [.int .i64 c1, .int .i64 c2, .int .i64 c3, .int .i64 1] from o3)
            replace x0 := cellBB hu3 HLTx.out x0
            replace x1 := cellBB hu3 HLTx.out x1
            replace x2 := cellBB hu3 HLTx.out x2
            replace x3 := cellBB hu3 HLTx.out x3
            replace x4 := cellBB hu3 HLTx.out x4
            replace x5 := cellBB hu3 HLTx.out x5
            replace x6 := cellBB hu3 HLTx.out x6
            replace y0 := cellBB hu3 HLTy.out y0
            replace y1 := cellBB hu3 HLTy.out y1
            replace y2 := cellBB hu3 HLTy.out y2
            replace y3 := cellBB hu3 HLTy.out y3
            replace y4 := cellBB hu3 HLTy.out y4
            replace y5 := cellBB hu3 HLTy.out y5
            replace y6 := cellBB hu3 HLTy.out y6
            clear hu3 o3 q3 p3 HU HO
            have HU := HU3
            have HO := HO3'
            clear HU3 HO3'
            have HL : Hid (orI [c1, c2, c3, 1] = ow) := Lib.hid (by rw [← HOW.out, v4, v5]; (try simp [orI]))
            have HCE := Lib.hid (fun (j : Nat) (u : Value) (h : (ints [c1, c2, c3, 1])[j]? = some u) => (own_cell HO.out).1 j u h)
            have HLE : Hid (([c1, c2, c3, 1] : List Int).length = 4) := Lib.hid rfl
            clear v4 v5 HC4 HC5 HOW
            generalize hls : [c1, c2, c3, 1] = ls at *
            clear hls
            go_wp2_with fail
            go_loop [14] (fun v => ∃ q : Nat, v = .int .i64 (q : Int) ∧ q ≤ 4 ∧ orI (ls.drop q) = ow) (fun v => 4 - (intOf v).toNat)
            case atStart => exact ⟨0, rfl, by omega, HL.out⟩
            case round =>
              obtain ⟨q, rfl, hq, ho⟩ := hrel
              by_cases hlt : q < 4
              · have hlq : q < ls.length := by rw [HLE.out]; exact hlt
                have z0 := HCE.out q _ (ints_at ls q hlq)
                have hd := orI_drop ls q hlq
                rw [ho] at hd
                have HD := Lib.hid hd
                clear hd ho HCE
                generalize ls[q] = z at *
                have hk0 : (0 : Int) ≤ (q : Int) := by omega
                have hk1 : (q : Int) < 4 := by omega
                by_cases hz : z = 0
                · have hz1 : (z != 0) = false := by rw [hz]; rfl
                  have HE : Hid (orI (ls.drop (q + 1)) = ow) := Lib.hid (by have := HD.out; rw [if_pos hz] at this; exact this.symm)
                  clear hz HD
                  go_wp2_with fail
                  go_round
                  case rel => exact ⟨q + 1, by go_num, by omega, HE.out⟩
                  case measure => simp [intOf]; omega
                · have hz1 : (z != 0) = true := by rw [bne_iff_ne]; exact hz
                  have HE : Hid (ow = z) := Lib.hid (by have := HD.out; rwa [if_neg hz] at this)
                  have hne : ow ≠ 0 := by rw [HE.out]; exact hz
                  have HFG := Lib.hid (HST1.out hne)
                  clear hz HD hne
                  go_wp2_with fail
                  go_returns
                  exact ⟨by rw [HFG.out, HE.out]; rfl, bmore UE.out HU.out⟩
              · have hq' : q = 4 := by omega
                have h0 : ow = 0 := by rw [← ho, hq', ← HLE.out, List.drop_length]; rfl
                have hk1 : ¬ ((q : Int) < 4) := by omega
                obtain ⟨_, u1, v1, u2, v2, r1, r2, r3, r4, r5, r6, _⟩ := HST2.out h0
                have HQ1 := Lib.hid (HI.out a1 a2 u1 v1 r1 r2 (r5 HIN.out).1 w3 (HR.out.below HU.out))
                have HQ2 := Lib.hid (fun (V : World) (hV : Below w3.heap.size w3 V) => HI.out b1 b2 u2 v2 r3 r4 (r5 HIN.out).2 V (HR.out.below (bmore HU.out hV)))
                have HFG := Lib.hid r6
                clear r1 r2 r3 r4 r5 r6 h0 ho hlt HCE HL HLE
                generalize cF u1 v1 = d1 at *
                generalize cF u2 v2 = d2 at *
                go_wp2_with fail
                refine HQ1.out.mono ?_
                rintro e w9 ⟨rfl, u9⟩
                have HU9 := Lib.hid (bmore HU.out u9)
                have HU9' := Lib.hid u9
                replace x6 := bcellAt u9 x6
                replace y6 := bcellAt u9 y6
                clear u9 x0 x1 x2 x3 x4 x5 y0 y1 y2 y3 y4 y5
                by_cases hd : d1 = 0
                · have hd1 : (d1 != 0) = false := by rw [hd]; rfl
                  have HF2 : Hid (cF f g = d2) := Lib.hid (by rw [HFG.out, if_neg (by simp [hd])])
                  clear hd
                  go_wp2_with fail
                  refine (HQ2.out _ HU9'.out).mono ?_
                  rintro e w10 ⟨rfl, u10⟩
                  have HU10 := Lib.hid (bmore UE.out (bmore HU9.out u10))
                  clear u10
                  go_wp2_with fail
                  go_returns
                  exact ⟨by rw [HF2.out]; rfl, HU10.out⟩
                · have hd1 : (d1 != 0) = true := by rw [bne_iff_ne]; exact hd
                  have HF2 : Hid (cF f g = d1) := Lib.hid (by rw [HFG.out, if_pos hd])
                  clear hd
                  go_wp2_with fail
                  go_returns
                  exact ⟨by rw [HF2.out]; rfl, bmore UE.out HU9.out⟩
        · rcases HS5.out with hs | hs | hs
          · have g4 : (n1 != n2) = true := by rw [bne_iff_ne]; omega
            have g4' : n1 < n2 := hn
            have v4 : c4 = -1 := by rw [← HC4.out]; unfold cmpOf; rw [show KOrd.lt n1 n2 = true from decide_eq_true hn]; rfl
            have g5 : (s1.toList == s2.toList) = true := by rw [hs]; simp
            have v5 : c5 = 0 := by rw [← HC5.out, hs]; exact cmpOf_cmp.refl _
            clear hn hs
            have HO : Hid (V0.ownsRow W.heap.size IntT 1 (.slice (some ⟨W.heap.size, 0, none⟩) 3 3) 3 [.int .i64 c1, .int .i64 c2, .int .i64 c3]) := HO3
            go_wp2_with (at_builtin; refine wpList_append_at _ rfl _ _ 41 rfl W.heap.size IntT i0 (.int .i64 0) 1 8 Tryd.underlying41 hi0 hz0 hz1 hz2 rfl (by decide) (.slice (some ⟨W.heap.size, 0, none⟩) 3 3) 3 [.int .i64 c1, .int .i64 c2, .int .i64 c3] rfl (HO.out.alloc _) ⟨V0.heap.size, 0, none⟩ 1 1 [.int .i64 1] rfl (by decide) rfl (news1 V0 _ _) (by simp [Value.oneCell']) (by unfold maxLen; omega) (by omega) (by have h := HU.out.size; (try simp); (try omega)) ?_)
            intro v3 w3 o3 q3 p3
            obtain ⟨g3, e3, rfl⟩ := ownsRow_succ o3
            try simp only [Nat.reduceAdd]
            have hu3 : Below W.heap.size V0 w3 := ((bZ V0 _).mono HU.out.size).grown q3 (by have h := HU.out.size; (try simp); (try omega)) (fun k e => by cases e; exact (own_type HO.out rfl).1)
            have HU3 := Lib.hid (HU.out.trans (hu3.mono (Nat.le_refl _)))
            have HO3' := Lib.hid (show w3.ownsRow W.heap.size IntT 1 (.slice (some ⟨g3, 0, none⟩) 4 e3) 4 [.int .i64 c1, .int .i64 c2, .int .i64 c3, .int .i64 1] from o3)
            replace x0 := cellBB hu3 HLTx.out x0
            replace x1 := cellBB hu3 HLTx.out x1
            replace x2 := cellBB hu3 HLTx.out x2
            replace x3 := cellBB hu3 HLTx.out x3
            replace x4 := cellBB hu3 HLTx.out x4
            replace x5 := cellBB hu3 HLTx.out x5
            replace x6 := cellBB hu3 HLTx.out x6
            replace y0 := cellBB hu3 HLTy.out y0
            replace y1 := cellBB hu3 HLTy.out y1
            replace y2 := cellBB hu3 HLTy.out y2
            replace y3 := cellBB hu3 HLTy.out y3
            replace y4 := cellBB hu3 HLTy.out y4
            replace y5 := cellBB hu3 HLTy.out y5
            replace y6 := cellBB hu3 HLTy.out y6
            clear hu3 o3 q3 p3 HU HO
            have HU := HU3
            have HO := HO3'
            clear HU3 HO3'
            have oc := own_cell HO.out
            have z0 := oc.1 3 _ rfl
            have z1 := oc.2.1 3
            have HO2 := Lib.hid (show (w3.setCell ⟨g3, 3, none⟩ (.int .i64 (-1))).ownsRow W.heap.size IntT 1 (.slice (some ⟨g3, 0, none⟩) 4 e3) 4 [.int .i64 c1, .int .i64 c2, .int .i64 c3, .int .i64 (-1)] from oc.2.2 3 (.int .i64 (-1)))
            have hus : Below W.heap.size w3 (w3.setCell ⟨g3, 3, none⟩ (.int .i64 (-1))) := (Below.refl W.heap.size w3).setCell (p := ⟨g3, 3, none⟩) (own_type HO.out rfl).1 _
            have HUs := Lib.hid (HU.out.trans (hus.mono (Nat.le_refl _)))
            clear oc
            have x0' := cellBB hus HLTx.out x0
            have x1' := cellBB hus HLTx.out x1
            have x2' := cellBB hus HLTx.out x2
            have x3' := cellBB hus HLTx.out x3
            have x4' := cellBB hus HLTx.out x4
            have x5' := cellBB hus HLTx.out x5
            have x6' := cellBB hus HLTx.out x6
            have y0' := cellBB hus HLTy.out y0
            have y1' := cellBB hus HLTy.out y1
            have y2' := cellBB hus HLTy.out y2
            have y3' := cellBB hus HLTy.out y3
            have y4' := cellBB hus HLTy.out y4
            have y5' := cellBB hus HLTy.out y5
            have y6' := cellBB hus HLTy.out y6
            clear hus HU HO
            have HU := HUs
            have HO := HO2
            clear HUs HO2
            have HL : Hid (orI [c1, c2, c3, -1] = ow) := Lib.hid (by rw [← HOW.out, v4, v5]; (try simp [orI]))
            have HCE := Lib.hid (fun (j : Nat) (u : Value) (h : (ints [c1, c2, c3, -1])[j]? = some u) => (own_cell HO.out).1 j u h)
            have HLE : Hid (([c1, c2, c3, -1] : List Int).length = 4) := Lib.hid rfl
            clear v4 v5 HC4 HC5 HOW
            generalize hls : [c1, c2, c3, -1] = ls at *
            clear hls
            go_wp2_with fail
            replace x0 := x0'
            replace x1 := x1'
            replace x2 := x2'
            replace x3 := x3'
            replace x4 := x4'
            replace x5 := x5'
            replace x6 := x6'
            replace y0 := y0'
            replace y1 := y1'
            replace y2 := y2'
            replace y3 := y3'
            replace y4 := y4'
            replace y5 := y5'
            replace y6 := y6'
            clear z0 z1 x0' x1' x2' x3' x4' x5' x6' y0' y1' y2' y3' y4' y5' y6'
            generalize (w3.setCell ⟨g3, 3, none⟩ (.int .i64 (-1))) = wz at *
            go_loop [14] (fun v => ∃ q : Nat, v = .int .i64 (q : Int) ∧ q ≤ 4 ∧ orI (ls.drop q) = ow) (fun v => 4 - (intOf v).toNat)
            case atStart => exact ⟨0, rfl, by omega, HL.out⟩
            case round =>
              obtain ⟨q, rfl, hq, ho⟩ := hrel
              by_cases hlt : q < 4
              · have hlq : q < ls.length := by rw [HLE.out]; exact hlt
                have z0 := HCE.out q _ (ints_at ls q hlq)
                have hd := orI_drop ls q hlq
                rw [ho] at hd
                have HD := Lib.hid hd
                clear hd ho HCE
                generalize ls[q] = z at *
                have hk0 : (0 : Int) ≤ (q : Int) := by omega
                have hk1 : (q : Int) < 4 := by omega
                by_cases hz : z = 0
                · have hz1 : (z != 0) = false := by rw [hz]; rfl
                  have HE : Hid (orI (ls.drop (q + 1)) = ow) := Lib.hid (by have := HD.out; rw [if_pos hz] at this; exact this.symm)
                  clear hz HD
                  go_wp2_with fail
                  go_round
                  case rel => exact ⟨q + 1, by go_num, by omega, HE.out⟩
                  case measure => simp [intOf]; omega
                · have hz1 : (z != 0) = true := by rw [bne_iff_ne]; exact hz
                  have HE : Hid (ow = z) := Lib.hid (by have := HD.out; rwa [if_neg hz] at this)
                  have hne : ow ≠ 0 := by rw [HE.out]; exact hz
                  have HFG := Lib.hid (HST1.out hne)
                  clear hz HD hne
                  go_wp2_with fail
                  go_returns
                  exact ⟨by rw [HFG.out, HE.out]; rfl, bmore UE.out HU.out⟩
              · have hq' : q = 4 := by omega
                have h0 : ow = 0 := by rw [← ho, hq', ← HLE.out, List.drop_length]; rfl
                have hk1 : ¬ ((q : Int) < 4) := by omega
                obtain ⟨_, u1, v1, u2, v2, r1, r2, r3, r4, r5, r6, _⟩ := HST2.out h0
                have HQ1 := Lib.hid (HI.out a1 a2 u1 v1 r1 r2 (r5 HIN.out).1 wz (HR.out.below HU.out))
                have HQ2 := Lib.hid (fun (V : World) (hV : Below wz.heap.size wz V) => HI.out b1 b2 u2 v2 r3 r4 (r5 HIN.out).2 V (HR.out.below (bmore HU.out hV)))
                have HFG := Lib.hid r6
                clear r1 r2 r3 r4 r5 r6 h0 ho hlt HCE HL HLE
                generalize cF u1 v1 = d1 at *
                generalize cF u2 v2 = d2 at *
                go_wp2_with fail
                refine HQ1.out.mono ?_
                rintro e w9 ⟨rfl, u9⟩
                have HU9 := Lib.hid (bmore HU.out u9)
                have HU9' := Lib.hid u9
                replace x6 := bcellAt u9 x6
                replace y6 := bcellAt u9 y6
                clear u9 x0 x1 x2 x3 x4 x5 y0 y1 y2 y3 y4 y5
                by_cases hd : d1 = 0
                · have hd1 : (d1 != 0) = false := by rw [hd]; rfl
                  have HF2 : Hid (cF f g = d2) := Lib.hid (by rw [HFG.out, if_neg (by simp [hd])])
                  clear hd
                  go_wp2_with fail
                  refine (HQ2.out _ HU9'.out).mono ?_
                  rintro e w10 ⟨rfl, u10⟩
                  have HU10 := Lib.hid (bmore UE.out (bmore HU9.out u10))
                  clear u10
                  go_wp2_with fail
                  go_returns
                  exact ⟨by rw [HF2.out]; rfl, HU10.out⟩
                · have hd1 : (d1 != 0) = true := by rw [bne_iff_ne]; exact hd
                  have HF2 : Hid (cF f g = d1) := Lib.hid (by rw [HFG.out, if_pos hd])
                  clear hd
                  go_wp2_with fail
                  go_returns
                  exact ⟨by rw [HF2.out]; rfl, bmore UE.out HU9.out⟩
          · have g4 : (n1 != n2) = true := by rw [bne_iff_ne]; omega
            have g4' : n1 < n2 := hn
            have v4 : c4 = -1 := by rw [← HC4.out]; unfold cmpOf; rw [show KOrd.lt n1 n2 = true from decide_eq_true hn]; rfl
            have g5 : (s1.toList == s2.toList) = false := ne_bytes (fun e => by rw [e, bytesLess_irr] at hs; cases hs)
            have g5' : Op.bytesLess s1.toList s2.toList = true := hs
            have v5 : c5 = -1 := by rw [← HC5.out]; unfold cmpOf; rw [show KOrd.lt s1 s2 = true from hs]; rfl
            clear hn hs
            have HO : Hid (V0.ownsRow W.heap.size IntT 1 (.slice (some ⟨W.heap.size, 0, none⟩) 3 3) 3 [.int .i64 c1, .int .i64 c2, .int .i64 c3]) := HO3
            go_wp2_with (at_builtin; refine wpList_append_at _ rfl _ _ 41 rfl W.heap.size IntT i0 (.int .i64 0) 1 8 Tryd.underlying41 hi0 hz0 hz1 hz2 rfl (by decide) (.slice (some ⟨W.heap.size, 0, none⟩) 3 3) 3 [.int .i64 c1, .int .i64 c2, .int .i64 c3] rfl (HO.out.alloc _) ⟨V0.heap.size, 0, none⟩ 1 1 [.int .i64 1] rfl (by decide) rfl (news1 V0 _ _) (by simp [Value.oneCell']) (by unfold maxLen; omega) (by omega) (by have h := HU.out.size; (try simp); (try omega)) ?_)
            intro v3 w3 o3 q3 p3
            obtain ⟨g3, e3, rfl⟩ := ownsRow_succ o3
            try simp only [Nat.reduceAdd]
            have hu3 : Below W.heap.size V0 w3 := ((bZ V0 _).mono HU.out.size).grown q3 (by have h := HU.out.size; (try simp); (try omega)) (fun k e => by cases e; exact (own_type HO.out rfl).1)
            have HU3 := Lib.hid (HU.out.trans (hu3.mono (Nat.le_refl _)))
            have HO3' := Lib.hid (show w3.ownsRow W.heap.size IntT 1 (.slice (some ⟨g3, 0, none⟩) 4 e3) 4 [.int .i64 c1, .int .i64 c2, .int .i64 c3, .int .i64 1] from o3)
            replace x0 := cellBB hu3 HLTx.out x0
            replace x1 := cellBB hu3 HLTx.out x1
            replace x2 := cellBB hu3 HLTx.out x2
            replace x3 := cellBB hu3 HLTx.out x3
            replace x4 := cellBB hu3 HLTx.out x4
            replace x5 := cellBB hu3 HLTx.out x5
            replace x6 := cellBB hu3 HLTx.out x6
            replace y0 := cellBB hu3 HLTy.out y0
            replace y1 := cellBB hu3 HLTy.out y1
            replace y2 := cellBB hu3 HLTy.out y2
            replace y3 := cellBB hu3 HLTy.out y3
            replace y4 := cellBB hu3 HLTy.out y4
            replace y5 := cellBB hu3 HLTy.out y5
            replace y6 := cellBB hu3 HLTy.out y6
            clear hu3 o3 q3 p3 HU HO
            have HU := HU3
            have HO := HO3'
            clear HU3 HO3'
            have oc := own_cell HO.out
            have z0 := oc.1 3 _ rfl
            have z1 := oc.2.1 3
            have HO2 := Lib.hid (show (w3.setCell ⟨g3, 3, none⟩ (.int .i64 (-1))).ownsRow W.heap.size IntT 1 (.slice (some ⟨g3, 0, none⟩) 4 e3) 4 [.int .i64 c1, .int .i64 c2, .int .i64 c3, .int .i64 (-1)] from oc.2.2 3 (.int .i64 (-1)))
            have hus : Below W.heap.size w3 (w3.setCell ⟨g3, 3, none⟩ (.int .i64 (-1))) := (Below.refl W.heap.size w3).setCell (p := ⟨g3, 3, none⟩) (own_type HO.out rfl).1 _
            have HUs := Lib.hid (HU.out.trans (hus.mono (Nat.le_refl _)))
            clear oc
            have x0' := cellBB hus HLTx.out x0
            have x1' := cellBB hus HLTx.out x1
            have x2' := cellBB hus HLTx.out x2
            have x3' := cellBB hus HLTx.out x3
            have x4' := cellBB hus HLTx.out x4
            have x5' := cellBB hus HLTx.out x5
            have x6' := cellBB hus HLTx.out x6
            have y0' := cellBB hus HLTy.out y0
            have y1' := cellBB hus HLTy.out y1
            have y2' := cellBB hus HLTy.out y2
            have y3' := cellBB hus HLTy.out y3
            have y4' := cellBB hus HLTy.out y4
            have y5' := cellBB hus HLTy.out y5
            have y6' := cellBB hus HLTy.out y6
            clear hus HU HO
            have HU := HUs
            have HO := HO2
            clear HUs HO2
            go_wp2_with (at_builtin; refine wpList_append_at _ rfl _ _ 41 rfl W.heap.size IntT i0 (.int .i64 0) 1 8 Tryd.underlying41 hi0 hz0 hz1 hz2 rfl (by decide) (.slice (some ⟨g3, 0, none⟩) 4 e3) 4 [.int .i64 c1, .int .i64 c2, .int .i64 c3, .int .i64 (-1)] rfl (HO.out.alloc _) ⟨w3.heap.size, 0, none⟩ 1 1 [.int .i64 1] rfl (by decide) rfl (by rw [show w3.heap.size = (w3.setCell ⟨g3, 3, none⟩ (.int .i64 (-1))).heap.size from by simp [World.setCell]]; exact news1 (w3.setCell ⟨g3, 3, none⟩ (.int .i64 (-1))) _ _) (by simp [Value.oneCell']) (by unfold maxLen; omega) (by omega) (by have h := HU.out.size; (try simp [World.setCell] at h); (try simp [World.setCell]); (try omega)) ?_)
            intro v4 w4 o4 q4 p4
            obtain ⟨g4, e4, rfl⟩ := ownsRow_succ o4
            try simp only [Nat.reduceAdd]
            have hu4 : Below W.heap.size (w3.setCell ⟨g3, 3, none⟩ (.int .i64 (-1))) w4 := ((bZ (w3.setCell ⟨g3, 3, none⟩ (.int .i64 (-1))) _).mono HU.out.size).grown q4 (by have h := HU.out.size; (try simp [World.setCell] at h); (try simp [World.setCell]); (try omega)) (fun k e => by cases e; exact (own_type HO.out rfl).1)
            have HU4 := Lib.hid (HU.out.trans (hu4.mono (Nat.le_refl _)))
            have HO4' := Lib.hid (show w4.ownsRow W.heap.size IntT 1 (.slice (some ⟨g4, 0, none⟩) 5 e4) 5 [.int .i64 c1, .int .i64 c2, .int .i64 c3, .int .i64 (-1), .int .i64 1] from o4)
            replace x0 := cellBB hu4 HLTx.out x0'
            replace x1 := cellBB hu4 HLTx.out x1'
            replace x2 := cellBB hu4 HLTx.out x2'
            replace x3 := cellBB hu4 HLTx.out x3'
            replace x4 := cellBB hu4 HLTx.out x4'
            replace x5 := cellBB hu4 HLTx.out x5'
            replace x6 := cellBB hu4 HLTx.out x6'
            replace y0 := cellBB hu4 HLTy.out y0'
            replace y1 := cellBB hu4 HLTy.out y1'
            replace y2 := cellBB hu4 HLTy.out y2'
            replace y3 := cellBB hu4 HLTy.out y3'
            replace y4 := cellBB hu4 HLTy.out y4'
            replace y5 := cellBB hu4 HLTy.out y5'
            replace y6 := cellBB hu4 HLTy.out y6'
            clear x0' x1' x2' x3' x4' x5' x6' y0' y1' y2' y3' y4' y5' y6'
            clear hu4 o4 q4 p4 HU HO
            have HU := HU4
            have HO := HO4'
            clear HU4 HO4'
            have oc := own_cell HO.out
            have z0 := oc.1 4 _ rfl
            have z1 := oc.2.1 4
            have HO2 := Lib.hid (show (w4.setCell ⟨g4, 4, none⟩ (.int .i64 (-1))).ownsRow W.heap.size IntT 1 (.slice (some ⟨g4, 0, none⟩) 5 e4) 5 [.int .i64 c1, .int .i64 c2, .int .i64 c3, .int .i64 (-1), .int .i64 (-1)] from oc.2.2 4 (.int .i64 (-1)))
            have hus : Below W.heap.size w4 (w4.setCell ⟨g4, 4, none⟩ (.int .i64 (-1))) := (Below.refl W.heap.size w4).setCell (p := ⟨g4, 4, none⟩) (own_type HO.out rfl).1 _
            have HUs := Lib.hid (HU.out.trans (hus.mono (Nat.le_refl _)))
            clear oc
            have x0' := cellBB hus HLTx.out x0
            have x1' := cellBB hus HLTx.out x1
            have x2' := cellBB hus HLTx.out x2
            have x3' := cellBB hus HLTx.out x3
            have x4' := cellBB hus HLTx.out x4
            have x5' := cellBB hus HLTx.out x5
            have x6' := cellBB hus HLTx.out x6
            have y0' := cellBB hus HLTy.out y0
            have y1' := cellBB hus HLTy.out y1
            have y2' := cellBB hus HLTy.out y2
            have y3' := cellBB hus HLTy.out y3
            have y4' := cellBB hus HLTy.out y4
            have y5' := cellBB hus HLTy.out y5
            have y6' := cellBB hus HLTy.out y6
            clear hus HU HO
            have HU := HUs
            have HO := HO2
            clear HUs HO2
            have HL : Hid (orI [c1, c2, c3, -1, -1] = ow) := Lib.hid (by rw [← HOW.out, v4, v5]; (try simp [orI]))
            have HCE := Lib.hid (fun (j : Nat) (u : Value) (h : (ints [c1, c2, c3, -1, -1])[j]? = some u) => (own_cell HO.out).1 j u h)
            have HLE : Hid (([c1, c2, c3, -1, -1] : List Int).length = 5) := Lib.hid rfl
            clear v4 v5 HC4 HC5 HOW
            generalize hls : [c1, c2, c3, -1, -1] = ls at *
            clear hls
            go_wp2_with fail
            replace x0 := x0'
            replace x1 := x1'
            replace x2 := x2'
            replace x3 := x3'
            replace x4 := x4'
            replace x5 := x5'
            replace x6 := x6'
            replace y0 := y0'
            replace y1 := y1'
            replace y2 := y2'
            replace y3 := y3'
            replace y4 := y4'
            replace y5 := y5'
            replace y6 := y6'
            clear z0 z1 x0' x1' x2' x3' x4' x5' x6' y0' y1' y2' y3' y4' y5' y6'
            generalize (w4.setCell ⟨g4, 4, none⟩ (.int .i64 (-1))) = wz at *
            go_loop [14] (fun v => ∃ q : Nat, v = .int .i64 (q : Int) ∧ q ≤ 5 ∧ orI (ls.drop q) = ow) (fun v => 5 - (intOf v).toNat)
            case atStart => exact ⟨0, rfl, by omega, HL.out⟩
            case round =>
              obtain ⟨q, rfl, hq, ho⟩ := hrel
              by_cases hlt : q < 5
              · have hlq : q < ls.length := by rw [HLE.out]; exact hlt
                have z0 := HCE.out q _ (ints_at ls q hlq)
                have hd := orI_drop ls q hlq
                rw [ho] at hd
                have HD := Lib.hid hd
                clear hd ho HCE
                generalize ls[q] = z at *
                have hk0 : (0 : Int) ≤ (q : Int) := by omega
                have hk1 : (q : Int) < 5 := by omega
                by_cases hz : z = 0
                · have hz1 : (z != 0) = false := by rw [hz]; rfl
                  have HE : Hid (orI (ls.drop (q + 1)) = ow) := Lib.hid (by have := HD.out; rw [if_pos hz] at this; exact this.symm)
                  clear hz HD
                  go_wp2_with fail
                  go_round
                  case rel => exact ⟨q + 1, by go_num, by omega, HE.out⟩
                  case measure => simp [intOf]; omega
                · have hz1 : (z != 0) = true := by rw [bne_iff_ne]; exact hz
                  have HE : Hid (ow = z) := Lib.hid (by have := HD.out; rwa [if_neg hz] at this)
                  have hne : ow ≠ 0 := by rw [HE.out]; exact hz
                  have HFG := Lib.hid (HST1.out hne)
                  clear hz HD hne
                  go_wp2_with fail
                  go_returns
                  exact ⟨by rw [HFG.out, HE.out]; rfl, bmore UE.out HU.out⟩
              · have hq' : q = 5 := by omega
                have h0 : ow = 0 := by rw [← ho, hq', ← HLE.out, List.drop_length]; rfl
                have hk1 : ¬ ((q : Int) < 5) := by omega
                obtain ⟨_, u1, v1, u2, v2, r1, r2, r3, r4, r5, r6, _⟩ := HST2.out h0
                have HQ1 := Lib.hid (HI.out a1 a2 u1 v1 r1 r2 (r5 HIN.out).1 wz (HR.out.below HU.out))
                have HQ2 := Lib.hid (fun (V : World) (hV : Below wz.heap.size wz V) => HI.out b1 b2 u2 v2 r3 r4 (r5 HIN.out).2 V (HR.out.below (bmore HU.out hV)))
                have HFG := Lib.hid r6
                clear r1 r2 r3 r4 r5 r6 h0 ho hlt HCE HL HLE
                generalize cF u1 v1 = d1 at *
                generalize cF u2 v2 = d2 at *
                go_wp2_with fail
                refine HQ1.out.mono ?_
                rintro e w9 ⟨rfl, u9⟩
                have HU9 := Lib.hid (bmore HU.out u9)
                have HU9' := Lib.hid u9
                replace x6 := bcellAt u9 x6
                replace y6 := bcellAt u9 y6
                clear u9 x0 x1 x2 x3 x4 x5 y0 y1 y2 y3 y4 y5
                by_cases hd : d1 = 0
                · have hd1 : (d1 != 0) = false := by rw [hd]; rfl
                  have HF2 : Hid (cF f g = d2) := Lib.hid (by rw [HFG.out, if_neg (by simp [hd])])
                  clear hd
                  go_wp2_with fail
                  refine (HQ2.out _ HU9'.out).mono ?_
                  rintro e w10 ⟨rfl, u10⟩
                  have HU10 := Lib.hid (bmore UE.out (bmore HU9.out u10))
                  clear u10
                  go_wp2_with fail
                  go_returns
                  exact ⟨by rw [HF2.out]; rfl, HU10.out⟩
                · have hd1 : (d1 != 0) = true := by rw [bne_iff_ne]; exact hd
                  have HF2 : Hid (cF f g = d1) := Lib.hid (by rw [HFG.out, if_pos hd])
                  clear hd
                  go_wp2_with fail
                  go_returns
                  exact ⟨by rw [HF2.out]; rfl, bmore UE.out HU9.out⟩
          · have g4 : (n1 != n2) = true := by rw [bne_iff_ne]; omega
            have g4' : n1 < n2 := hn
            have v4 : c4 = -1 := by rw [← HC4.out]; unfold cmpOf; rw [show KOrd.lt n1 n2 = true from decide_eq_true hn]; rfl
            have g5 : (s1.toList == s2.toList) = false := ne_bytes (fun e => by rw [e, bytesLess_irr] at hs; cases hs)
            have g5' : Op.bytesLess s1.toList s2.toList = false := KOrd.asym (K := ByteArray) hs
            have v5 : c5 = 1 := by rw [← HC5.out]; unfold cmpOf; rw [show KOrd.lt s1 s2 = false from g5', show KOrd.lt s2 s1 = true from hs]; rfl
            clear hn hs
            have HO : Hid (V0.ownsRow W.heap.size IntT 1 (.slice (some ⟨W.heap.size, 0, none⟩) 3 3) 3 [.int .i64 c1, .int .i64 c2, .int .i64 c3]) := HO3
            go_wp2_with (at_builtin; refine wpList_append_at _ rfl _ _ 41 rfl W.heap.size IntT i0 (.int .i64 0) 1 8 Tryd.underlying41 hi0 hz0 hz1 hz2 rfl (by decide) (.slice (some ⟨W.heap.size, 0, none⟩) 3 3) 3 [.int .i64 c1, .int .i64 c2, .int .i64 c3] rfl (HO.out.alloc _) ⟨V0.heap.size, 0, none⟩ 1 1 [.int .i64 1] rfl (by decide) rfl (news1 V0 _ _) (by simp [Value.oneCell']) (by unfold maxLen; omega) (by omega) (by have h := HU.out.size; (try simp); (try omega)) ?_)
            intro v3 w3 o3 q3 p3
            obtain ⟨g3, e3, rfl⟩ := ownsRow_succ o3
            try simp only [Nat.reduceAdd]
            have hu3 : Below W.heap.size V0 w3 := ((bZ V0 _).mono HU.out.size).grown q3 (by have h := HU.out.size; (try simp); (try omega)) (fun k e => by cases e; exact (own_type HO.out rfl).1)
            have HU3 := Lib.hid (HU.out.trans (hu3.mono (Nat.le_refl _)))
            have HO3' := Lib.hid (show w3.ownsRow W.heap.size IntT 1 (.slice (some ⟨g3, 0, none⟩) 4 e3) 4 [.int .i64 c1, .int .i64 c2, .int .i64 c3, .int .i64 1] from o3)
            replace x0 := cellBB hu3 HLTx.out x0
            replace x1 := cellBB hu3 HLTx.out x1
            replace x2 := cellBB hu3 HLTx.out x2
            replace x3 := cellBB hu3 HLTx.out x3
            replace x4 := cellBB hu3 HLTx.out x4
            replace x5 := cellBB hu3 HLTx.out x5
            replace x6 := cellBB hu3 HLTx.out x6
            replace y0 := cellBB hu3 HLTy.out y0
            replace y1 := cellBB hu3 HLTy.out y1
            replace y2 := cellBB hu3 HLTy.out y2
            replace y3 := cellBB hu3 HLTy.out y3
            replace y4 := cellBB hu3 HLTy.out y4
            replace y5 := cellBB hu3 HLTy.out y5
            replace y6 := cellBB hu3 HLTy.out y6
            clear hu3 o3 q3 p3 HU HO
            have HU := HU3
            have HO := HO3'
            clear HU3 HO3'
            have oc := own_cell HO.out
            have z0 := oc.1 3 _ rfl
            have z1 := oc.2.1 3
            have HO2 := Lib.hid (show (w3.setCell ⟨g3, 3, none⟩ (.int .i64 (-1))).ownsRow W.heap.size IntT 1 (.slice (some ⟨g3, 0, none⟩) 4 e3) 4 [.int .i64 c1, .int .i64 c2, .int .i64 c3, .int .i64 (-1)] from oc.2.2 3 (.int .i64 (-1)))
            have hus : Below W.heap.size w3 (w3.setCell ⟨g3, 3, none⟩ (.int .i64 (-1))) := (Below.refl W.heap.size w3).setCell (p := ⟨g3, 3, none⟩) (own_type HO.out rfl).1 _
            have HUs := Lib.hid (HU.out.trans (hus.mono (Nat.le_refl _)))
            clear oc
            have x0' := cellBB hus HLTx.out x0
            have x1' := cellBB hus HLTx.out x1
            have x2' := cellBB hus HLTx.out x2
            have x3' := cellBB hus HLTx.out x3
            have x4' := cellBB hus HLTx.out x4
            have x5' := cellBB hus HLTx.out x5
            have x6' := cellBB hus HLTx.out x6
            have y0' := cellBB hus HLTy.out y0
            have y1' := cellBB hus HLTy.out y1
            have y2' := cellBB hus HLTy.out y2
            have y3' := cellBB hus HLTy.out y3
            have y4' := cellBB hus HLTy.out y4
            have y5' := cellBB hus HLTy.out y5
            have y6' := cellBB hus HLTy.out y6
            clear hus HU HO
            have HU := HUs
            have HO := HO2
            clear HUs HO2
            go_wp2_with (at_builtin; refine wpList_append_at _ rfl _ _ 41 rfl W.heap.size IntT i0 (.int .i64 0) 1 8 Tryd.underlying41 hi0 hz0 hz1 hz2 rfl (by decide) (.slice (some ⟨g3, 0, none⟩) 4 e3) 4 [.int .i64 c1, .int .i64 c2, .int .i64 c3, .int .i64 (-1)] rfl (HO.out.alloc _) ⟨w3.heap.size, 0, none⟩ 1 1 [.int .i64 1] rfl (by decide) rfl (by rw [show w3.heap.size = (w3.setCell ⟨g3, 3, none⟩ (.int .i64 (-1))).heap.size from by simp [World.setCell]]; exact news1 (w3.setCell ⟨g3, 3, none⟩ (.int .i64 (-1))) _ _) (by simp [Value.oneCell']) (by unfold maxLen; omega) (by omega) (by have h := HU.out.size; (try simp [World.setCell] at h); (try simp [World.setCell]); (try omega)) ?_)
            intro v4 w4 o4 q4 p4
            obtain ⟨g4, e4, rfl⟩ := ownsRow_succ o4
            try simp only [Nat.reduceAdd]
            have hu4 : Below W.heap.size (w3.setCell ⟨g3, 3, none⟩ (.int .i64 (-1))) w4 := ((bZ (w3.setCell ⟨g3, 3, none⟩ (.int .i64 (-1))) _).mono HU.out.size).grown q4 (by have h := HU.out.size; (try simp [World.setCell] at h); (try simp [World.setCell]); (try omega)) (fun k e => by cases e; exact (own_type HO.out rfl).1)
            have HU4 := Lib.hid (HU.out.trans (hu4.mono (Nat.le_refl _)))
            have HO4' := Lib.hid (show w4.ownsRow W.heap.size IntT 1 (.slice (some ⟨g4, 0, none⟩) 5 e4) 5 [.int .i64 c1, .int .i64 c2, .int .i64 c3, .int .i64 (-1), .int .i64 1] from o4)
            replace x0 := cellBB hu4 HLTx.out x0'
            replace x1 := cellBB hu4 HLTx.out x1'
            replace x2 := cellBB hu4 HLTx.out x2'
            replace x3 := cellBB hu4 HLTx.out x3'
            replace x4 := cellBB hu4 HLTx.out x4'
            replace x5 := cellBB hu4 HLTx.out x5'
            replace x6 := cellBB hu4 HLTx.out x6'
            replace y0 := cellBB hu4 HLTy.out y0'
            replace y1 := cellBB hu4 HLTy.out y1'
            replace y2 := cellBB hu4 HLTy.out y2'
            replace y3 := cellBB hu4 HLTy.out y3'
            replace y4 := cellBB hu4 HLTy.out y4'
            replace y5 := cellBB hu4 HLTy.out y5'
            replace y6 := cellBB hu4 HLTy.out y6'
            clear x0' x1' x2' x3' x4' x5' x6' y0' y1' y2' y3' y4' y5' y6'
            clear hu4 o4 q4 p4 HU HO
            have HU := HU4
            have HO := HO4'
            clear HU4 HO4'
            have HL : Hid (orI [c1, c2, c3, -1, 1] = ow) := Lib.hid (by rw [← HOW.out, v4, v5]; (try simp [orI]))
            have HCE := Lib.hid (fun (j : Nat) (u : Value) (h : (ints [c1, c2, c3, -1, 1])[j]? = some u) => (own_cell HO.out).1 j u h)
            have HLE : Hid (([c1, c2, c3, -1, 1] : List Int).length = 5) := Lib.hid rfl
            clear v4 v5 HC4 HC5 HOW
            generalize hls : [c1, c2, c3, -1, 1] = ls at *
            clear hls
            go_wp2_with fail
            go_loop [14] (fun v => ∃ q : Nat, v = .int .i64 (q : Int) ∧ q ≤ 5 ∧ orI (ls.drop q) = ow) (fun v => 5 - (intOf v).toNat)
            case atStart => exact ⟨0, rfl, by omega, HL.out⟩
            case round =>
              obtain ⟨q, rfl, hq, ho⟩ := hrel
              by_cases hlt : q < 5
              · have hlq : q < ls.length := by rw [HLE.out]; exact hlt
                have z0 := HCE.out q _ (ints_at ls q hlq)
                have hd := orI_drop ls q hlq
                rw [ho] at hd
                have HD := Lib.hid hd
                clear hd ho HCE
                generalize ls[q] = z at *
                have hk0 : (0 : Int) ≤ (q : Int) := by omega
                have hk1 : (q : Int) < 5 := by omega
                by_cases hz : z = 0
                · have hz1 : (z != 0) = false := by rw [hz]; rfl
                  have HE : Hid (orI (ls.drop (q + 1)) = ow) := Lib.hid (by have := HD.out; rw [if_pos hz] at this; exact this.symm)
                  clear hz HD
                  go_wp2_with fail
                  go_round
                  case rel => exact ⟨q + 1, by go_num, by omega, HE.out⟩
                  case measure => simp [intOf]; omega
                · have hz1 : (z != 0) = true := by rw [bne_iff_ne]; exact hz
                  have HE : Hid (ow = z) := Lib.hid (by have := HD.out; rwa [if_neg hz] at this)
                  have hne : ow ≠ 0 := by rw [HE.out]; exact hz
                  have HFG := Lib.hid (HST1.out hne)
                  clear hz HD hne
                  go_wp2_with fail
                  go_returns
                  exact ⟨by rw [HFG.out, HE.out]; rfl, bmore UE.out HU.out⟩
              · have hq' : q = 5 := by omega
                have h0 : ow = 0 := by rw [← ho, hq', ← HLE.out, List.drop_length]; rfl
                have hk1 : ¬ ((q : Int) < 5) := by omega
                obtain ⟨_, u1, v1, u2, v2, r1, r2, r3, r4, r5, r6, _⟩ := HST2.out h0
                have HQ1 := Lib.hid (HI.out a1 a2 u1 v1 r1 r2 (r5 HIN.out).1 w4 (HR.out.below HU.out))
                have HQ2 := Lib.hid (fun (V : World) (hV : Below w4.heap.size w4 V) => HI.out b1 b2 u2 v2 r3 r4 (r5 HIN.out).2 V (HR.out.below (bmore HU.out hV)))
                have HFG := Lib.hid r6
                clear r1 r2 r3 r4 r5 r6 h0 ho hlt HCE HL HLE
                generalize cF u1 v1 = d1 at *
                generalize cF u2 v2 = d2 at *
                go_wp2_with fail
                refine HQ1.out.mono ?_
                rintro e w9 ⟨rfl, u9⟩
                have HU9 := Lib.hid (bmore HU.out u9)
                have HU9' := Lib.hid u9
                replace x6 := bcellAt u9 x6
                replace y6 := bcellAt u9 y6
                clear u9 x0 x1 x2 x3 x4 x5 y0 y1 y2 y3 y4 y5
                by_cases hd : d1 = 0
                · have hd1 : (d1 != 0) = false := by rw [hd]; rfl
                  have HF2 : Hid (cF f g = d2) := Lib.hid (by rw [HFG.out, if_neg (by simp [hd])])
                  clear hd
                  go_wp2_with fail
                  refine (HQ2.out _ HU9'.out).mono ?_
                  rintro e w10 ⟨rfl, u10⟩
                  have HU10 := Lib.hid (bmore UE.out (bmore HU9.out u10))
                  clear u10
                  go_wp2_with fail
                  go_returns
                  exact ⟨by rw [HF2.out]; rfl, HU10.out⟩
                · have hd1 : (d1 != 0) = true := by rw [bne_iff_ne]; exact hd
                  have HF2 : Hid (cF f g = d1) := Lib.hid (by rw [HFG.out, if_pos hd])
                  clear hd
                  go_wp2_with fail
                  go_returns
                  exact ⟨by rw [HF2.out]; rfl, bmore UE.out HU9.out⟩
        · rcases HS5.out with hs | hs | hs
          · have g4 : (n1 != n2) = true := by rw [bne_iff_ne]; omega
            have g4' : decide (n1 < n2) = false := decide_eq_false (by omega)
            have v4 : c4 = 1 := by rw [← HC4.out]; unfold cmpOf; rw [show KOrd.lt n1 n2 = false from g4', show KOrd.lt n2 n1 = true from decide_eq_true hn]; rfl
            have g5 : (s1.toList == s2.toList) = true := by rw [hs]; simp
            have v5 : c5 = 0 := by rw [← HC5.out, hs]; exact cmpOf_cmp.refl _
            clear hn hs
            have HO : Hid (V0.ownsRow W.heap.size IntT 1 (.slice (some ⟨W.heap.size, 0, none⟩) 3 3) 3 [.int .i64 c1, .int .i64 c2, .int .i64 c3]) := HO3
            go_wp2_with (at_builtin; refine wpList_append_at _ rfl _ _ 41 rfl W.heap.size IntT i0 (.int .i64 0) 1 8 Tryd.underlying41 hi0 hz0 hz1 hz2 rfl (by decide) (.slice (some ⟨W.heap.size, 0, none⟩) 3 3) 3 [.int .i64 c1, .int .i64 c2, .int .i64 c3] rfl (HO.out.alloc _) ⟨V0.heap.size, 0, none⟩ 1 1 [.int .i64 1] rfl (by decide) rfl (news1 V0 _ _) (by simp [Value.oneCell']) (by unfold maxLen; omega) (by omega) (by have h := HU.out.size; (try simp); (try omega)) ?_)
            intro v3 w3 o3 q3 p3
            obtain ⟨g3, e3, rfl⟩ := ownsRow_succ o3
            try simp only [Nat.reduceAdd]
            have hu3 : Below W.heap.size V0 w3 := ((bZ V0 _).mono HU.out.size).grown q3 (by have h := HU.out.size; (try simp); (try omega)) (fun k e => by cases e; exact (own_type HO.out rfl).1)
            have HU3 := Lib.hid (HU.out.trans (hu3.mono (Nat.le_refl _)))
            have HO3' := Lib.hid (show w3.ownsRow W.heap.size IntT 1 (.slice (some ⟨g3, 0, none⟩) 4 e3) 4 [.int .i64 c1, .int .i64 c2, .int .i64 c3, .int .i64 1] from o3)
            replace x0 := cellBB hu3 HLTx.out x0
            replace x1 := cellBB hu3 HLTx.out x1
            replace x2 := cellBB hu3 HLTx.out x2
            replace x3 := cellBB hu3 HLTx.out x3
            replace x4 := cellBB hu3 HLTx.out x4
            replace x5 := cellBB hu3 HLTx.out x5
            replace x6 := cellBB hu3 HLTx.out x6
            replace y0 := cellBB hu3 HLTy.out y0
            replace y1 := cellBB hu3 HLTy.out y1
            replace y2 := cellBB hu3 HLTy.out y2
            replace y3 := cellBB hu3 HLTy.out y3
            replace y4 := cellBB hu3 HLTy.out y4
            replace y5 := cellBB hu3 HLTy.out y5
            replace y6 := cellBB hu3 HLTy.out y6
            clear hu3 o3 q3 p3 HU HO
            have HU := HU3
            have HO := HO3'
            clear HU3 HO3'
            have HL : Hid (orI [c1, c2, c3, 1] = ow) := Lib.hid (by rw [← HOW.out, v4, v5]; (try simp [orI]))
            have HCE := Lib.hid (fun (j : Nat) (u : Value) (h : (ints [c1, c2, c3, 1])[j]? = some u) => (own_cell HO.out).1 j u h)
            have HLE : Hid (([c1, c2, c3, 1] : List Int).length = 4) := Lib.hid rfl
            clear v4 v5 HC4 HC5 HOW
            generalize hls : [c1, c2, c3, 1] = ls at *
            clear hls
            go_wp2_with fail
            go_loop [14] (fun v => ∃ q : Nat, v = .int .i64 (q : Int) ∧ q ≤ 4 ∧ orI (ls.drop q) = ow) (fun v => 4 - (intOf v).toNat)
            case atStart => exact ⟨0, rfl, by omega, HL.out⟩
            case round =>
              obtain ⟨q, rfl, hq, ho⟩ := hrel
              by_cases hlt : q < 4
              · have hlq : q < ls.length := by rw [HLE.out]; exact hlt
                have z0 := HCE.out q _ (ints_at ls q hlq)
                have hd := orI_drop ls q hlq
                rw [ho] at hd
                have HD := Lib.hid hd
                clear hd ho HCE
                generalize ls[q] = z at *
                have hk0 : (0 : Int) ≤ (q : Int) := by omega
                have hk1 : (q : Int) < 4 := by omega
                by_cases hz : z = 0
                · have hz1 : (z != 0) = false := by rw [hz]; rfl
                  have HE : Hid (orI (ls.drop (q + 1)) = ow) := Lib.hid (by have := HD.out; rw [if_pos hz] at this; exact this.symm)
                  clear hz HD
                  go_wp2_with fail
                  go_round
                  case rel => exact ⟨q + 1, by go_num, by omega, HE.out⟩
                  case measure => simp [intOf]; omega
                · have hz1 : (z != 0) = true := by rw [bne_iff_ne]; exact hz
                  have HE : Hid (ow = z) := Lib.hid (by have := HD.out; rwa [if_neg hz] at this)
                  have hne : ow ≠ 0 := by rw [HE.out]; exact hz
                  have HFG := Lib.hid (HST1.out hne)
                  clear hz HD hne
                  go_wp2_with fail
                  go_returns
                  exact ⟨by rw [HFG.out, HE.out]; rfl, bmore UE.out HU.out⟩
              · have hq' : q = 4 := by omega
                have h0 : ow = 0 := by rw [← ho, hq', ← HLE.out, List.drop_length]; rfl
                have hk1 : ¬ ((q : Int) < 4) := by omega
                obtain ⟨_, u1, v1, u2, v2, r1, r2, r3, r4, r5, r6, _⟩ := HST2.out h0
                have HQ1 := Lib.hid (HI.out a1 a2 u1 v1 r1 r2 (r5 HIN.out).1 w3 (HR.out.below HU.out))
                have HQ2 := Lib.hid (fun (V : World) (hV : Below w3.heap.size w3 V) => HI.out b1 b2 u2 v2 r3 r4 (r5 HIN.out).2 V (HR.out.below (bmore HU.out hV)))
                have HFG := Lib.hid r6
                clear r1 r2 r3 r4 r5 r6 h0 ho hlt HCE HL HLE
                generalize cF u1 v1 = d1 at *
                generalize cF u2 v2 = d2 at *
                go_wp2_with fail
                refine HQ1.out.mono ?_
                rintro e w9 ⟨rfl, u9⟩
                have HU9 := Lib.hid (bmore HU.out u9)
                have HU9' := Lib.hid u9
                replace x6 := bcellAt u9 x6
                replace y6 := bcellAt u9 y6
                clear u9 x0 x1 x2 x3 x4 x5 y0 y1 y2 y3 y4 y5
                by_cases hd : d1 = 0
                · have hd1 : (d1 != 0) = false := by rw [hd]; rfl
                  have HF2 : Hid (cF f g = d2) := Lib.hid (by rw [HFG.out, if_neg (by simp [hd])])
                  clear hd
                  go_wp2_with fail
                  refine (HQ2.out _ HU9'.out).mono ?_
                  rintro e w10 ⟨rfl, u10⟩
                  have HU10 := Lib.hid (bmore UE.out (bmore HU9.out u10))
                  clear u10
                  go_wp2_with fail
                  go_returns
                  exact ⟨by rw [HF2.out]; rfl, HU10.out⟩
                · have hd1 : (d1 != 0) = true := by rw [bne_iff_ne]; exact hd
                  have HF2 : Hid (cF f g = d1) := Lib.hid (by rw [HFG.out, if_pos hd])
                  clear hd
                  go_wp2_with fail
                  go_returns
                  exact ⟨by rw [HF2.out]; rfl, bmore UE.out HU9.out⟩
          · have g4 : (n1 != n2) = true := by rw [bne_iff_ne]; omega
            have g4' : decide (n1 < n2) = false := decide_eq_false (by omega)
            have v4 : c4 = 1 := by rw [← HC4.out]; unfold cmpOf; rw [show KOrd.lt n1 n2 = false from g4', show KOrd.lt n2 n1 = true from decide_eq_true hn]; rfl
            have g5 : (s1.toList == s2.toList) = false := ne_bytes (fun e => by rw [e, bytesLess_irr] at hs; cases hs)
            have g5' : Op.bytesLess s1.toList s2.toList = true := hs
            have v5 : c5 = -1 := by rw [← HC5.out]; unfold cmpOf; rw [show KOrd.lt s1 s2 = true from hs]; rfl
            clear hn hs
            have HO : Hid (V0.ownsRow W.heap.size IntT 1 (.slice (some ⟨W.heap.size, 0, none⟩) 3 3) 3 [.int .i64 c1, .int .i64 c2, .int .i64 c3]) := HO3
            go_wp2_with (at_builtin; refine wpList_append_at _ rfl _ _ 41 rfl W.heap.size IntT i0 (.int .i64 0) 1 8 Tryd.underlying41 hi0 hz0 hz1 hz2 rfl (by decide) (.slice (some ⟨W.heap.size, 0, none⟩) 3 3) 3 [.int .i64 c1, .int .i64 c2, .int .i64 c3] rfl (HO.out.alloc _) ⟨V0.heap.size, 0, none⟩ 1 1 [.int .i64 1] rfl (by decide) rfl (news1 V0 _ _) (by simp [Value.oneCell']) (by unfold maxLen; omega) (by omega) (by have h := HU.out.size; (try simp); (try omega)) ?_)
            intro v3 w3 o3 q3 p3
            obtain ⟨g3, e3, rfl⟩ := ownsRow_succ o3
            try simp only [Nat.reduceAdd]
            have hu3 : Below W.heap.size V0 w3 := ((bZ V0 _).mono HU.out.size).grown q3 (by have h := HU.out.size; (try simp); (try omega)) (fun k e => by cases e; exact (own_type HO.out rfl).1)
            have HU3 := Lib.hid (HU.out.trans (hu3.mono (Nat.le_refl _)))
            have HO3' := Lib.hid (show w3.ownsRow W.heap.size IntT 1 (.slice (some ⟨g3, 0, none⟩) 4 e3) 4 [.int .i64 c1, .int .i64 c2, .int .i64 c3, .int .i64 1] from o3)
            replace x0 := cellBB hu3 HLTx.out x0
            replace x1 := cellBB hu3 HLTx.out x1
            replace x2 := cellBB hu3 HLTx.out x2
            replace x3 := cellBB hu3 HLTx.out x3
            replace x4 := cellBB hu3 HLTx.out x4
            replace x5 := cellBB hu3 HLTx.out x5
            replace x6 := cellBB hu3 HLTx.out x6
            replace y0 := cellBB hu3 HLTy.out y0
            replace y1 := cellBB hu3 HLTy.out y1
            replace y2 := cellBB hu3 HLTy.out y2
            replace y3 := cellBB hu3 HLTy.out y3
            replace y4 := cellBB hu3 HLTy.out y4
            replace y5 := cellBB hu3 HLTy.out y5
            replace y6 := cellBB hu3 HLTy.out y6
            clear hu3 o3 q3 p3 HU HO
            have HU := HU3
            have HO := HO3'
            clear HU3 HO3'
            go_wp2_with (at_builtin; refine wpList_append_at _ rfl _ _ 41 rfl W.heap.size IntT i0 (.int .i64 0) 1 8 Tryd.underlying41 hi0 hz0 hz1 hz2 rfl (by decide) (.slice (some ⟨g3, 0, none⟩) 4 e3) 4 [.int .i64 c1, .int .i64 c2, .int .i64 c3, .int .i64 1] rfl (HO.out.alloc _) ⟨w3.heap.size, 0, none⟩ 1 1 [.int .i64 1] rfl (by decide) rfl (news1 w3 _ _) (by simp [Value.oneCell']) (by unfold maxLen; omega) (by omega) (by have h := HU.out.size; (try simp); (try omega)) ?_)
            intro v4 w4 o4 q4 p4
            obtain ⟨g4, e4, rfl⟩ := ownsRow_succ o4
            try simp only [Nat.reduceAdd]
            have hu4 : Below W.heap.size w3 w4 := ((bZ w3 _).mono HU.out.size).grown q4 (by have h := HU.out.size; (try simp); (try omega)) (fun k e => by cases e; exact (own_type HO.out rfl).1)
            have HU4 := Lib.hid (HU.out.trans (hu4.mono (Nat.le_refl _)))
            have HO4' := Lib.hid (show w4.ownsRow W.heap.size IntT 1 (.slice (some ⟨g4, 0, none⟩) 5 e4) 5 [.int .i64 c1, .int .i64 c2, .int .i64 c3, .int .i64 1, .int .i64 1] from o4)
            replace x0 := cellBB hu4 HLTx.out x0
            replace x1 := cellBB hu4 HLTx.out x1
            replace x2 := cellBB hu4 HLTx.out x2
            replace x3 := cellBB hu4 HLTx.out x3
            replace x4 := cellBB hu4 HLTx.out x4
            replace x5 := cellBB hu4 HLTx.out x5
            replace x6 := cellBB hu4 HLTx.out x6
            replace y0 := cellBB hu4 HLTy.out y0
            replace y1 := cellBB hu4 HLTy.out y1
            replace y2 := cellBB hu4 HLTy.out y2
            replace y3 := cellBB hu4 HLTy.out y3
            replace y4 := cellBB hu4 HLTy.out y4
            replace y5 := cellBB hu4 HLTy.out y5
            replace y6 := cellBB hu4 HLTy.out y6
            clear hu4 o4 q4 p4 HU HO
            have HU := HU4
            have HO := HO4'
            clear HU4 HO4'
            have oc := own_cell HO.out
            have z0 := oc.1 4 _ rfl
            have z1 := oc.2.1 4
            have HO2 := Lib.hid (show (w4.setCell ⟨g4, 4, none⟩ (.int .i64 (-1))).ownsRow W.heap.size IntT 1 (.slice (some ⟨g4, 0, none⟩) 5 e4) 5 [.int .i64 c1, .int .i64 c2, .int .i64 c3, .int .i64 1, .int .i64 (-1)] from oc.2.2 4 (.int .i64 (-1)))
            have hus : Below W.heap.size w4 (w4.setCell ⟨g4, 4, none⟩ (.int .i64 (-1))) := (Below.refl W.heap.size w4).setCell (p := ⟨g4, 4, none⟩) (own_type HO.out rfl).1 _
            have HUs := Lib.hid (HU.out.trans (hus.mono (Nat.le_refl _)))
            clear oc
            have x0' := cellBB hus HLTx.out x0
            have x1' := cellBB hus HLTx.out x1
            have x2' := cellBB hus HLTx.out x2
            have x3' := cellBB hus HLTx.out x3
            have x4' := cellBB hus HLTx.out x4
            have x5' := cellBB hus HLTx.out x5
            have x6' := cellBB hus HLTx.out x6
            have y0' := cellBB hus HLTy.out y0
            have y1' := cellBB hus HLTy.out y1
            have y2' := cellBB hus HLTy.out y2
            have y3' := cellBB hus HLTy.out y3
            have y4' := cellBB hus HLTy.out y4
            have y5' := cellBB hus HLTy.out y5
            have y6' := cellBB hus HLTy.out y6
            clear hus HU HO
            have HU := HUs
            have HO := HO2
            clear HUs HO2
            have HL : Hid (orI [c1, c2, c3, 1, -1] = ow) := Lib.hid (by rw [← HOW.out, v4, v5]; (try simp [orI]))
            have HCE := Lib.hid (fun (j : Nat) (u : Value) (h : (ints [c1, c2, c3, 1, -1])[j]? = some u) => (own_cell HO.out).1 j u h)
            have HLE : Hid (([c1, c2, c3, 1, -1] : List Int).length = 5) := Lib.hid rfl
            clear v4 v5 HC4 HC5 HOW
            generalize hls : [c1, c2, c3, 1, -1] = ls at *
            clear hls
            go_wp2_with fail
            replace x0 := x0'
            replace x1 := x1'
            replace x2 := x2'
            replace x3 := x3'
            replace x4 := x4'
            replace x5 := x5'
            replace x6 := x6'
            replace y0 := y0'
            replace y1 := y1'
            replace y2 := y2'
            replace y3 := y3'
            replace y4 := y4'
            replace y5 := y5'
            replace y6 := y6'
            clear z0 z1 x0' x1' x2' x3' x4' x5' x6' y0' y1' y2' y3' y4' y5' y6'
            generalize (w4.setCell ⟨g4, 4, none⟩ (.int .i64 (-1))) = wz at *
            go_loop [14] (fun v => ∃ q : Nat, v = .int .i64 (q : Int) ∧ q ≤ 5 ∧ orI (ls.drop q) = ow) (fun v => 5 - (intOf v).toNat)
            case atStart => exact ⟨0, rfl, by omega, HL.out⟩
            case round =>
              obtain ⟨q, rfl, hq, ho⟩ := hrel
              by_cases hlt : q < 5
              · have hlq : q < ls.length := by rw [HLE.out]; exact hlt
                have z0 := HCE.out q _ (ints_at ls q hlq)
                have hd := orI_drop ls q hlq
                rw [ho] at hd
                have HD := Lib.hid hd
                clear hd ho HCE
                generalize ls[q] = z at *
                have hk0 : (0 : Int) ≤ (q : Int) := by omega
                have hk1 : (q : Int) < 5 := by omega
                by_cases hz : z = 0
                · have hz1 : (z != 0) = false := by rw [hz]; rfl
                  have HE : Hid (orI (ls.drop (q + 1)) = ow) := Lib.hid (by have := HD.out; rw [if_pos hz] at this; exact this.symm)
                  clear hz HD
                  go_wp2_with fail
                  go_round
                  case rel => exact ⟨q + 1, by go_num, by omega, HE.out⟩
                  case measure => simp [intOf]; omega
                · have hz1 : (z != 0) = true := by rw [bne_iff_ne]; exact hz
                  have HE : Hid (ow = z) := Lib.hid (by have := HD.out; rwa [if_neg hz] at this)
                  have hne : ow ≠ 0 := by rw [HE.out]; exact hz
                  have HFG := Lib.hid (HST1.out hne)
                  clear hz HD hne
                  go_wp2_with fail
                  go_returns
                  exact ⟨by rw [HFG.out, HE.out]; rfl, bmore UE.out HU.out⟩
              · have hq' : q = 5 := by omega
                have h0 : ow = 0 := by rw [← ho, hq', ← HLE.out, List.drop_length]; rfl
                have hk1 : ¬ ((q : Int) < 5) := by omega
                obtain ⟨_, u1, v1, u2, v2, r1, r2, r3, r4, r5, r6, _⟩ := HST2.out h0
                have HQ1 := Lib.hid (HI.out a1 a2 u1 v1 r1 r2 (r5 HIN.out).1 wz (HR.out.below HU.out))
                have HQ2 := Lib.hid (fun (V : World) (hV : Below wz.heap.size wz V) => HI.out b1 b2 u2 v2 r3 r4 (r5 HIN.out).2 V (HR.out.below (bmore HU.out hV)))
                have HFG := Lib.hid r6
                clear r1 r2 r3 r4 r5 r6 h0 ho hlt HCE HL HLE
                generalize cF u1 v1 = d1 at *
                generalize cF u2 v2 = d2 at *
                go_wp2_with fail
                refine HQ1.out.mono ?_
                rintro e w9 ⟨rfl, u9⟩
                have HU9 := Lib.hid (bmore HU.out u9)
                have HU9' := Lib.hid u9
                replace x6 := bcellAt u9 x6
                replace y6 := bcellAt u9 y6
                clear u9 x0 x1 x2 x3 x4 x5 y0 y1 y2 y3 y4 y5
                by_cases hd : d1 = 0
                · have hd1 : (d1 != 0) = false := by rw [hd]; rfl
                  have HF2 : Hid (cF f g = d2) := Lib.hid (by rw [HFG.out, if_neg (by simp [hd])])
                  clear hd
                  go_wp2_with fail
                  refine (HQ2.out _ HU9'.out).mono ?_
                  rintro e w10 ⟨rfl, u10⟩
                  have HU10 := Lib.hid (bmore UE.out (bmore HU9.out u10))
                  clear u10
                  go_wp2_with fail
                  go_returns
                  exact ⟨by rw [HF2.out]; rfl, HU10.out⟩
                · have hd1 : (d1 != 0) = true := by rw [bne_iff_ne]; exact hd
                  have HF2 : Hid (cF f g = d1) := Lib.hid (by rw [HFG.out, if_pos hd])
                  clear hd
                  go_wp2_with fail
                  go_returns
                  exact ⟨by rw [HF2.out]; rfl, bmore UE.out HU9.out⟩
          · have g4 : (n1 != n2) = true := by rw [bne_iff_ne]; omega
            have g4' : decide (n1 < n2) = false := decide_eq_false (by omega)
            have v4 : c4 = 1 := by rw [← HC4.out]; unfold cmpOf; rw [show KOrd.lt n1 n2 = false from g4', show KOrd.lt n2 n1 = true from decide_eq_true hn]; rfl
            have g5 : (s1.toList == s2.toList) = false := ne_bytes (fun e => by rw [e, bytesLess_irr] at hs; cases hs)
            have g5' : Op.bytesLess s1.toList s2.toList = false := KOrd.asym (K := ByteArray) hs
            have v5 : c5 = 1 := by rw [← HC5.out]; unfold cmpOf; rw [show KOrd.lt s1 s2 = false from g5', show KOrd.lt s2 s1 = true from hs]; rfl
            clear hn hs
            have HO : Hid (V0.ownsRow W.heap.size IntT 1 (.slice (some ⟨W.heap.size, 0, none⟩) 3 3) 3 [.int .i64 c1, .int .i64 c2, .int .i64 c3]) := HO3
            go_wp2_with (at_builtin; refine wpList_append_at _ rfl _ _ 41 rfl W.heap.size IntT i0 (.int .i64 0) 1 8 Tryd.underlying41 hi0 hz0 hz1 hz2 rfl (by decide) (.slice (some ⟨W.heap.size, 0, none⟩) 3 3) 3 [.int .i64 c1, .int .i64 c2, .int .i64 c3] rfl (HO.out.alloc _) ⟨V0.heap.size, 0, none⟩ 1 1 [.int .i64 1] rfl (by decide) rfl (news1 V0 _ _) (by simp [Value.oneCell']) (by unfold maxLen; omega) (by omega) (by have h := HU.out.size; (try simp); (try omega)) ?_)
            intro v3 w3 o3 q3 p3
            obtain ⟨g3, e3, rfl⟩ := ownsRow_succ o3
            try simp only [Nat.reduceAdd]
            have hu3 : Below W.heap.size V0 w3 := ((bZ V0 _).mono HU.out.size).grown q3 (by have h := HU.out.size; (try simp); (try omega)) (fun k e => by cases e; exact (own_type HO.out rfl).1)
            have HU3 := Lib.hid (HU.out.trans (hu3.mono (Nat.le_refl _)))
            have HO3' := Lib.hid (show w3.ownsRow W.heap.size IntT 1 (.slice (some ⟨g3, 0, none⟩) 4 e3) 4 [.int .i64 c1, .int .i64 c2, .int .i64 c3, .int .i64 1] from o3)
            replace x0 := cellBB hu3 HLTx.out x0
            replace x1 := cellBB hu3 HLTx.out x1
            replace x2 := cellBB hu3 HLTx.out x2
            replace x3 := cellBB hu3 HLTx.out x3
            replace x4 := cellBB hu3 HLTx.out x4
            replace x5 := cellBB hu3 HLTx.out x5
            replace x6 := cellBB hu3 HLTx.out x6
            replace y0 := cellBB hu3 HLTy.out y0
            replace y1 := cellBB hu3 HLTy.out y1
            replace y2 := cellBB hu3 HLTy.out y2
            replace y3 := cellBB hu3 HLTy.out y3
            replace y4 := cellBB hu3 HLTy.out y4
            replace y5 := cellBB hu3 HLTy.out y5
            replace y6 := cellBB hu3 HLTy.out y6
            clear hu3 o3 q3 p3 HU HO
            have HU := HU3
            have HO := HO3'
            clear HU3 HO3'
            go_wp2_with (at_builtin; refine wpList_append_at _ rfl _ _ 41 rfl W.heap.size IntT i0 (.int .i64 0) 1 8 Tryd.underlying41 hi0 hz0 hz1 hz2 rfl (by decide) (.slice (some ⟨g3, 0, none⟩) 4 e3) 4 [.int .i64 c1, .int .i64 c2, .int .i64 c3, .int .i64 1] rfl (HO.out.alloc _) ⟨w3.heap.size, 0, none⟩ 1 1 [.int .i64 1] rfl (by decide) rfl (news1 w3 _ _) (by simp [Value.oneCell']) (by unfold maxLen; omega) (by omega) (by have h := HU.out.size; (try simp); (try omega)) ?_)
            intro v4 w4 o4 q4 p4
            obtain ⟨g4, e4, rfl⟩ := ownsRow_succ o4
            try simp only [Nat.reduceAdd]
            have hu4 : Below W.heap.size w3 w4 := ((bZ w3 _).mono HU.out.size).grown q4 (by have h := HU.out.size; (try simp); (try omega)) (fun k e => by cases e; exact (own_type HO.out rfl).1)
            have HU4 := Lib.hid (HU.out.trans (hu4.mono (Nat.le_refl _)))
            have HO4' := Lib.hid (show w4.ownsRow W.heap.size IntT 1 (.slice (some ⟨g4, 0, none⟩) 5 e4) 5 [.int .i64 c1, .int .i64 c2, .int .i64 c3, .int .i64 1, .int .i64 1] from o4)
            replace x0 := cellBB hu4 HLTx.out x0
            replace x1 := cellBB hu4 HLTx.out x1
            replace x2 := cellBB hu4 HLTx.out x2
            replace x3 := cellBB hu4 HLTx.out x3
            replace x4 := cellBB hu4 HLTx.out x4
            replace x5 := cellBB hu4 HLTx.out x5
            replace x6 := cellBB hu4 HLTx.out x6
            replace y0 := cellBB hu4 HLTy.out y0
            replace y1 := cellBB hu4 HLTy.out y1
            replace y2 := cellBB hu4 HLTy.out y2
            replace y3 := cellBB hu4 HLTy.out y3
            replace y4 := cellBB hu4 HLTy.out y4
            replace y5 := cellBB hu4 HLTy.out y5
            replace y6 := cellBB hu4 HLTy.out y6
            clear hu4 o4 q4 p4 HU HO
            have HU := HU4
            have HO := HO4'
            clear HU4 HO4'
            have HL : Hid (orI [c1, c2, c3, 1, 1] = ow) := Lib.hid (by rw [← HOW.out, v4, v5]; (try simp [orI]))
            have HCE := Lib.hid (fun (j : Nat) (u : Value) (h : (ints [c1, c2, c3, 1, 1])[j]? = some u) => (own_cell HO.out).1 j u h)
            have HLE : Hid (([c1, c2, c3, 1, 1] : List Int).length = 5) := Lib.hid rfl
            clear v4 v5 HC4 HC5 HOW
            generalize hls : [c1, c2, c3, 1, 1] = ls at *
            clear hls
            go_wp2_with fail
            go_loop [14] (fun v => ∃ q : Nat, v = .int .i64 (q : Int) ∧ q ≤ 5 ∧ orI (ls.drop q) = ow) (fun v => 5 - (intOf v).toNat)
            case atStart => exact ⟨0, rfl, by omega, HL.out⟩
            case round =>
              obtain ⟨q, rfl, hq, ho⟩ := hrel
              by_cases hlt : q < 5
              · have hlq : q < ls.length := by rw [HLE.out]; exact hlt
                have z0 := HCE.out q _ (ints_at ls q hlq)
                have hd := orI_drop ls q hlq
                rw [ho] at hd
                have HD := Lib.hid hd
                clear hd ho HCE
                generalize ls[q] = z at *
                have hk0 : (0 : Int) ≤ (q : Int) := by omega
                have hk1 : (q : Int) < 5 := by omega
                by_cases hz : z = 0
                · have hz1 : (z != 0) = false := by rw [hz]; rfl
                  have HE : Hid (orI (ls.drop (q + 1)) = ow) := Lib.hid (by have := HD.out; rw [if_pos hz] at this; exact this.symm)
                  clear hz HD
                  go_wp2_with fail
                  go_round
                  case rel => exact ⟨q + 1, by go_num, by omega, HE.out⟩
                  case measure => simp [intOf]; omega
                · have hz1 : (z != 0) = true := by rw [bne_iff_ne]; exact hz
                  have HE : Hid (ow = z) := Lib.hid (by have := HD.out; rwa [if_neg hz] at this)
                  have hne : ow ≠ 0 := by rw [HE.out]; exact hz
                  have HFG := Lib.hid (HST1.out hne)
                  clear hz HD hne
                  go_wp2_with fail
                  go_returns
                  exact ⟨by rw [HFG.out, HE.out]; rfl, bmore UE.out HU.out⟩
              · have hq' : q = 5 := by omega
                have h0 : ow = 0 := by rw [← ho, hq', ← HLE.out, List.drop_length]; rfl
                have hk1 : ¬ ((q : Int) < 5) := by omega
                obtain ⟨_, u1, v1, u2, v2, r1, r2, r3, r4, r5, r6, _⟩ := HST2.out h0
                have HQ1 := Lib.hid (HI.out a1 a2 u1 v1 r1 r2 (r5 HIN.out).1 w4 (HR.out.below HU.out))
                have HQ2 := Lib.hid (fun (V : World) (hV : Below w4.heap.size w4 V) => HI.out b1 b2 u2 v2 r3 r4 (r5 HIN.out).2 V (HR.out.below (bmore HU.out hV)))
                have HFG := Lib.hid r6
                clear r1 r2 r3 r4 r5 r6 h0 ho hlt HCE HL HLE
                generalize cF u1 v1 = d1 at *
                generalize cF u2 v2 = d2 at *
                go_wp2_with fail
                refine HQ1.out.mono ?_
                rintro e w9 ⟨rfl, u9⟩
                have HU9 := Lib.hid (bmore HU.out u9)
                have HU9' := Lib.hid u9
                replace x6 := bcellAt u9 x6
                replace y6 := bcellAt u9 y6
                clear u9 x0 x1 x2 x3 x4 x5 y0 y1 y2 y3 y4 y5
                by_cases hd : d1 = 0
                · have hd1 : (d1 != 0) = false := by rw [hd]; rfl
                  have HF2 : Hid (cF f g = d2) := Lib.hid (by rw [HFG.out, if_neg (by simp [hd])])
                  clear hd
                  go_wp2_with fail
                  refine (HQ2.out _ HU9'.out).mono ?_
                  rintro e w10 ⟨rfl, u10⟩
                  have HU10 := Lib.hid (bmore UE.out (bmore HU9.out u10))
                  clear u10
                  go_wp2_with fail
                  go_returns
                  exact ⟨by rw [HF2.out]; rfl, HU10.out⟩
                · have hd1 : (d1 != 0) = true := by rw [bne_iff_ne]; exact hd
                  have HF2 : Hid (cF f g = d1) := Lib.hid (by rw [HFG.out, if_pos hd])
                  clear hd
                  go_wp2_with fail
                  go_returns
                  exact ⟨by rw [HF2.out]; rfl, bmore UE.out HU9.out⟩
theorem rcmp_all (hok : Ok p) : ∀ (n : Nat) (f : Fo), f.size ≤ n → ∀ t s g, TreeAt p t f → TreeAt p s g → RCmpC B a vl vs vd p t s f g := by
  intro n
  induction n with
  | zero => intro f hf t s g h1 h2; exact rcmp_step hok h1 h2 (fun t' s' f' g' _ _ hl => by omega)
  | succ n ih => intro f hf t s g h1 h2; exact rcmp_step hok h1 h2 (fun t' s' f' g' h3 h4 hl => ih f' (by omega) t' s' g' h3 h4)
theorem rcmp {w : World} (hp : IsRef w B a vl vs vd p) {t s : Int} {f g : Fo} (hf : TreeAt p t f) (hg : TreeAt p s g) : Calls Tryd.prog 37 #[.pointer (some ⟨a, 0, none⟩), .int .i64 t, .int .i64 s] w fun e w' => e = .returned (.int .i64 (cF f g)) ∧ Below w.heap.size w w' := rcmp_all hp.ok f.size f (Nat.le_refl _) t s g hf hg w hp
end
end Go.Proofs.YtjpembnnelhfkaaDoor
