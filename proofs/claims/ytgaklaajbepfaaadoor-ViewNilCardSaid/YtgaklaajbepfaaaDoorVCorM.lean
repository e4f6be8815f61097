/-
  The closure that lays two terms side by side, in memory.
-/
import Derived.Test.YtgaklaajbepfaaaDoorVCor
namespace Go.Proofs.YtgaklaajbepfaaaDoor
open Go.RowKit Go.Maps Go.Shelf
set_option linter.unusedVariables false

abbrev CoFT : TypeId := 78
theorem AnM.put {w : World} {mb : Nat} {T : Int} {m : Int → Option Int} (h : AnM w mb T m) (hT : T ≤ 65536) {t u : Int} (ht : i64R t) (hu : i64R u) (hin : 1 ≤ t ∧ t ≤ T) (hn : m t = none) : ∃ w', (Instr.mapUpdate AnewT (.map (some mb)) (.int .i64 t) (.int .i64 u)).run Tryd.prog w = .ok () w' ∧ AnM w' mb T (updO m t u) ∧ w.grownBy w' (some mb) := by
  obtain ⟨n0, D0, hown0, hn0, hst0⟩ := h.store hT ht hin hn
  obtain ⟨w', h1, h2, h3⟩ := hown0.update lawT Tryd.underlying77 hn0 (keyT ht) (plainElem_int Tryd.underlying42 (wf_i64 hu))
  exact ⟨w', h1, hst0 _ _ h2, h3⟩
/-- What the closure leaves as it was. -/
structure CoG (w : World) (B mb1 mb2 : Nat) (w' : World) : Prop where
  below : Below B w w'
  hold : ∀ T, Hold T w w'
  maps : ∀ j, j ≠ mb1 → j ≠ mb2 → ∀ es c, w.heap[j]? = some (.map es c) → w'.heap[j]? = some (.map es c)
theorem CoG.of {w w' : World} {B mb1 mb2 : Nat} (hB : B ≤ w.heap.size) (h : Below w.heap.size w w') : CoG w B mb1 mb2 w' :=
  ⟨h.mono hB, fun T => Hold.below h, fun j _ _ es c hm => by rw [h.block j (Array.getElem?_eq_some_iff.1 hm).1]; exact hm⟩
theorem CoG.trans {x y z : World} {B mb1 mb2 : Nat} (h : CoG x B mb1 mb2 y) (k : CoG y B mb1 mb2 z) : CoG x B mb1 mb2 z :=
  ⟨h.below.trans k.below, fun T => (h.hold T).trans (k.hold T), fun j h1 h2 es c hm => k.maps j h1 h2 es c (h.maps j h1 h2 es c hm)⟩
theorem CoG.put {w w' : World} {B mb mb1 mb2 : Nat} (hmb : mb = mb1 ∨ mb = mb2) {es c} (hB : B ≤ w.heap.size) (hm : B ≤ mb) (h0 : w.heap[mb]? = some (.map es c)) (g : w.grownBy w' (some mb)) : CoG w B mb1 mb2 w' :=
  ⟨grown_below g hB (fun k e => by cases e; exact hm), fun T => hold_map ⟨_, _, h0⟩ g T, fun j h1 h2 es' c' hj => by
    rw [g.block j (Array.getElem?_eq_some_iff.1 hj).1 (fun e => by have := Option.some.inj e; rcases hmb with e' | e' <;> omega)]; exact hj⟩
theorem CoG.pool {w w' : World} {B B' mb1 mb2 a b : Nat} {v : Value} {p : Pl} (h : CoG w B mb1 mb2 w') (hp : IsPool w B' a b v p) (h1 : b ≠ mb1) (h2 : b ≠ mb2) : IsPool w' B' a b v p :=
  hp.heldV (h.hold _) (h.hold _) (fun es c hm => h.maps b h1 h2 es c hm)
/-- The closure and what it holds. -/
structure IsCo (w : World) (tb bb pb wb cb mb1 mb2 a : Nat) (who : Int) : Prop where
  th : w.heap[tb]? = some (Obj.cells #[.map (some mb1)] AnewT)
  bk : w.heap[bb]? = some (Obj.cells #[.map (some mb2)] AnewT)
  pl : w.heap[pb]? = some (Obj.cells #[.pointer (some ⟨a, 0, none⟩)] VPoolT)
  wh : w.heap[wb]? = some (Obj.cells #[.int .i64 who] WhoT)
  co : w.heap[cb]? = some (Obj.cells #[.func (.func 38) #[] #[.pointer (some ⟨tb, 0, none⟩), .pointer (some ⟨bb, 0, none⟩), .pointer (some ⟨pb, 0, none⟩), .pointer (some ⟨wb, 0, none⟩), .pointer (some ⟨cb, 0, none⟩)]] CoFT)
theorem IsCo.hold {w w' : World} {tb bb pb wb cb mb1 mb2 a : Nat} {who : Int} (h : IsCo w tb bb pb wb cb mb1 mb2 a who) (hh : ∀ T, Hold T w w') : IsCo w' tb bb pb wb cb mb1 mb2 a who :=
  ⟨hh _ _ _ h.th, hh _ _ _ h.bk, hh _ _ _ h.pl, hh _ _ _ h.wh, hh _ _ _ h.co⟩
def CoPost (B b mb1 mb2 : Nat) (p : Pl) (who : Int) (m : Int → Option Int) (x y : Int) (w : World) (e : Ending) (w' : World) : Prop :=
  ∃ (r : Bool) (m' n' : Int → Option Int), e = .returned (.bool r) ∧ AnM w' mb1 (p.length : Int) m' ∧ AnM w' mb2 (p.length : Int) n' ∧ CorP p who m x y r m' n' ∧ CoG w B mb1 mb2 w'
def CoC (B B0 a b : Nat) (v : Value) (p : Pl) (who : Int) (tb bb pb wb cb mb1 mb2 : Nat) (x y : Int) : Prop :=
  ∀ (W : World) (m n : Int → Option Int), B ≤ W.heap.size → IsPool W B0 a b v p → IsCo W tb bb pb wb cb mb1 mb2 a who → Cor p m n → AnM W mb1 (p.length : Int) m → AnM W mb2 (p.length : Int) n → Calls Tryd.prog 38 #[.int .i64 x, .int .i64 y, .pointer (some ⟨tb, 0, none⟩), .pointer (some ⟨bb, 0, none⟩), .pointer (some ⟨pb, 0, none⟩), .pointer (some ⟨wb, 0, none⟩), .pointer (some ⟨cb, 0, none⟩)] W (CoPost B b mb1 mb2 p who m x y W)
section
variable {B B0 a b : Nat} {v : Value} {p : Pl} {who : Int} {tb bb pb wb cb mb1 mb2 : Nat} {x y : Int} {W : World} {m n : Int → Option Int}
set_option maxRecDepth 100000 in
set_option maxHeartbeats 6400000 in
theorem co_met {o : Int} (hx : i64R x) (hB : B ≤ W.heap.size) (hc : IsCo W tb bb pb wb cb mb1 mb2 a who) (hC : Cor p m n) (h1 : AnM W mb1 (p.length : Int) m) (h2 : AnM W mb2 (p.length : Int) n) (hm : m x = some o) : Calls Tryd.prog 38 #[.int .i64 x, .int .i64 y, .pointer (some ⟨tb, 0, none⟩), .pointer (some ⟨bb, 0, none⟩), .pointer (some ⟨pb, 0, none⟩), .pointer (some ⟨wb, 0, none⟩), .pointer (some ⟨cb, 0, none⟩)] W (CoPost B b mb1 mb2 p who m x y W) := by
  have hlk := h1.look hx
  rw [hm] at hlk
  have c0 : W.cell? ⟨tb, 0, none⟩ = some (.map (some mb1)) := cellB hc.th rfl
  have HF : Hid (CoPost B b mb1 mb2 p who m x y W (.returned (.bool (o == y))) W) := Lib.hid ⟨_, m, n, rfl, h1, h2, corP_met hC hm, CoG.of hB (Below.refl _ _)⟩
  clear hc hC h1 h2 hm
  go_enter Tryd.func38, Tryd.ntmps38
  go_wp2_with fail
  go_returns
  exact HF.out
set_option maxRecDepth 100000 in
set_option maxHeartbeats 6400000 in
theorem co_taken {o : Int} (hx : i64R x) (hy : i64R y) (hB : B ≤ W.heap.size) (hc : IsCo W tb bb pb wb cb mb1 mb2 a who) (hC : Cor p m n) (h1 : AnM W mb1 (p.length : Int) m) (h2 : AnM W mb2 (p.length : Int) n) (hm : m x = none) (hn : n y = some o) : Calls Tryd.prog 38 #[.int .i64 x, .int .i64 y, .pointer (some ⟨tb, 0, none⟩), .pointer (some ⟨bb, 0, none⟩), .pointer (some ⟨pb, 0, none⟩), .pointer (some ⟨wb, 0, none⟩), .pointer (some ⟨cb, 0, none⟩)] W (CoPost B b mb1 mb2 p who m x y W) := by
  have hlk := h1.look hx
  rw [hm] at hlk
  have hlk2 := h2.look hy
  rw [hn] at hlk2
  have c0 : W.cell? ⟨tb, 0, none⟩ = some (.map (some mb1)) := cellB hc.th rfl
  have c1 : W.cell? ⟨bb, 0, none⟩ = some (.map (some mb2)) := cellB hc.bk rfl
  have HF : Hid (CoPost B b mb1 mb2 p who m x y W (.returned (.bool false)) W) := Lib.hid ⟨_, m, n, rfl, h1, h2, corP_taken hC hm hn, CoG.of hB (Below.refl _ _)⟩
  clear hc hC h1 h2 hm hn
  go_enter Tryd.func38, Tryd.ntmps38
  go_wp2_with fail
  go_returns
  exact HF.out
set_option maxRecDepth 100000 in
set_option maxHeartbeats 51200000 in
theorem co_new (hx : inP p x = true) (hy : inP p y = true) (hne : mb1 ≠ mb2) (hb1 : b ≠ mb1) (hb2 : b ≠ mb2) (hB1 : B ≤ mb1) (hB2 : B ≤ mb2)
    (ia : CoC B B0 a b v p who tb bb pb wb cb mb1 mb2 (atP p x).1.a (atP p y).1.a) (ib : CoC B B0 a b v p who tb bb pb wb cb mb1 mb2 (atP p x).1.b (atP p y).1.b)
    (hB : B ≤ W.heap.size) (hp : IsPool W B0 a b v p) (hc : IsCo W tb bb pb wb cb mb1 mb2 a who) (hC : Cor p m n) (h1 : AnM W mb1 (p.length : Int) m) (h2 : AnM W mb2 (p.length : Int) n) (hm : m x = none) (hn : n y = none) : Calls Tryd.prog 38 #[.int .i64 x, .int .i64 y, .pointer (some ⟨tb, 0, none⟩), .pointer (some ⟨bb, 0, none⟩), .pointer (some ⟨pb, 0, none⟩), .pointer (some ⟨wb, 0, none⟩), .pointer (some ⟨cb, 0, none⟩)] W (CoPost B b mb1 mb2 p who m x y W) := by
  have hpl := hp.ok.len
  have hxi : i64R x := in_i64 hpl (.inr hx)
  have hyi : i64R y := in_i64 hpl (.inr hy)
  have hxr : 1 ≤ x ∧ x ≤ (p.length : Int) := by unfold inP at hx; simpa using hx
  have hyr : 1 ≤ y ∧ y ≤ (p.length : Int) := by unfold inP at hy; simpa using hy
  have hlk := h1.look hxi
  rw [hm] at hlk
  have hlk2 := h2.look hyi
  rw [hn] at hlk2
  have c0 : W.cell? ⟨tb, 0, none⟩ = some (.map (some mb1)) := cellB hc.th rfl
  have c1 : W.cell? ⟨bb, 0, none⟩ = some (.map (some mb2)) := cellB hc.bk rfl
  -- the two stores
  obtain ⟨V1, hr1, hM1, hg1⟩ := (h1.below (bd W)).put (by omega) hxi hyi hxr hm
  obtain ⟨es1, cl1, hmap1⟩ := (h1.below (bd W)).mapb
  have hBd : B ≤ W.drew.heap.size := hB
  have hco1 := CoG.put (mb1 := mb1) (mb2 := mb2) (.inl rfl) hBd hB1 hmap1 hg1
  have h2V : AnM V1 mb2 (p.length : Int) n := (h2.below (bd W)).same (fun es c hm => by rw [hg1.block mb2 (Array.getElem?_eq_some_iff.1 hm).1 (fun e => hne (Option.some.inj e).symm)]; exact hm)
  obtain ⟨V2, hr2, hM2, hg2⟩ := h2V.put (by omega) hyi hxi hyr hn
  obtain ⟨es2, cl2, hmap2⟩ := h2V.mapb
  have hBV : B ≤ V1.heap.size := Nat.le_trans hBd hg1.size
  have hco2 := CoG.put (mb1 := mb1) (mb2 := mb2) (.inr rfl) hBV hB2 hmap2 hg2
  have hM1' : AnM V2 mb1 (p.length : Int) (updO m x y) := hM1.same (fun es c hm => by rw [hg2.block mb1 (Array.getElem?_eq_some_iff.1 hm).1 (fun e => hne (Option.some.inj e))]; exact hm)
  have hG2 : CoG W B mb1 mb2 V2 := (CoG.of hB (bd W)).trans (hco1.trans hco2)
  have HM1 := Lib.hid hM1'
  have HM2 := Lib.hid hM2
  have HG2 := Lib.hid hG2
  have HC2 := Lib.hid (hC.put hx hy hm hn)
  have HI2 := Lib.hid (hc.hold hG2.hold)
  have HP2 := Lib.hid (hG2.pool hp hb1 hb2)
  have HB2 : Hid (B ≤ V2.heap.size) := Lib.hid (Nat.le_trans hBV hg2.size)
  have d0 : W.drew.cell? ⟨tb, 0, none⟩ = some (.map (some mb1)) ∧ W.drew.cell? ⟨bb, 0, none⟩ = some (.map (some mb2)) := ⟨bcellAt (bd W) c0, bcellAt (bd W) c1⟩
  have d1 : V1.cell? ⟨tb, 0, none⟩ = some (.map (some mb1)) ∧ V1.cell? ⟨bb, 0, none⟩ = some (.map (some mb2)) := ⟨cellB (hco1.hold _ _ _ (Hold.below (bd W) _ _ hc.th)) rfl, cellB (hco1.hold _ _ _ (Hold.below (bd W) _ _ hc.bk)) rfl⟩
  have d2 : V2.cell? ⟨tb, 0, none⟩ = some (.map (some mb1)) ∧ V2.cell? ⟨bb, 0, none⟩ = some (.map (some mb2)) := ⟨cellB (hG2.hold _ _ _ hc.th) rfl, cellB (hG2.hold _ _ _ hc.bk) rfl⟩
  have HXIN := Lib.hid hx
  have HMX := Lib.hid hm
  have HB1 := Lib.hid hb1
  have HB22 := Lib.hid hb2
  have IA := Lib.hid ia
  have IB := Lib.hid ib
  have UNL := Lib.hid (fun (m' n' : Int → Option Int) => corP_unlike (who := who) (m := m) (b := y) (m' := m') (n' := n') hx)
  have LFT := Lib.hid (fun (m' n' : Int → Option Int) => corP_left (who := who) (m := m) (b := y) (m' := m') (n' := n') hx)
  have RGT := Lib.hid (fun (m1 n1 m' n' : Int → Option Int) => corP_right (who := who) (m := m) (b := y) (m1 := m1) (n1 := n1) (m' := m') (n' := n') hx)
  have BTH := Lib.hid (fun (m1 n1 m' n' : Int → Option Int) => corP_both (who := who) (m := m) (b := y) (m1 := m1) (n1 := n1) (m' := m') (n' := n') hx hm)
  have PX := Lib.hid (fun (V : World) (h : IsPool V B0 a b v p) => pnode h x)
  have PY := Lib.hid (fun (V : World) (h : IsPool V B0 a b v p) => pnode h y)
  have eg := enters_of Tryd.func38 (by kernel_rfl) rfl
  clear hM1' hM2 hG2 hco1 hco2 h2V hmap1 hmap2 hM1 hg1 hg2 hBd hBV h1 h2 hp hc hC ia ib hpl hxr hyr hm hn hx hy hne hb1 hb2 hB1 hB2
  go_enter Tryd.func38, Tryd.ntmps38
  go_upto_region 7 with fail
  refine lex_start [0, 1, 2, 3, 4, 5, 6, 7] (S := fun V => V.cell? ⟨tb, 0, none⟩ = some (.map (some mb1)) ∧ V.cell? ⟨bb, 0, none⟩ = some (.map (some mb2))) (by kernel_rfl) d0 (fun hS => ?_)
  simp only [inOrder, List.filterMap, List.getElem?_cons_succ, List.getElem?_cons_zero]
  clear hS
  refine lex_take (i := 0) (v := ?_) rfl (by kernel_rfl) (by kernel_rfl) (by kernel_rfl) (by rfl) d0 ?_ ?_
  rotate_left
  · ((rintro W ⟨k0, k1⟩; go_simp) <;> with_reducible rfl)
  simp only [Act.put, List.setIfInBounds_toArray, List.set_cons_zero, List.set_cons_succ]
  refine lex_take (i := 1) (v := ?_) rfl (by kernel_rfl) (by kernel_rfl) (by kernel_rfl) (by rfl) d0 ?_ ?_
  rotate_left
  · ((rintro W ⟨k0, k1⟩; go_simp) <;> with_reducible rfl)
  simp only [Act.put, List.setIfInBounds_toArray, List.set_cons_zero, List.set_cons_succ]
  refine lex_take (i := 2) (v := ?_) rfl (by kernel_rfl) (by kernel_rfl) (by kernel_rfl) (by rfl) d0 ?_ ?_
  rotate_left
  · ((rintro W ⟨k0, k1⟩; go_simp) <;> with_reducible rfl)
  simp only [Act.put, List.setIfInBounds_toArray, List.set_cons_zero, List.set_cons_succ]
  refine lex_take (i := 3) (v := ?_) rfl (by kernel_rfl) (by kernel_rfl) (by kernel_rfl) (by rfl) d0 ?_ ?_
  rotate_left
  · ((rintro W ⟨k0, k1⟩; go_simp) <;> with_reducible rfl)
  simp only [Act.put, List.setIfInBounds_toArray, List.set_cons_zero, List.set_cons_succ]
  refine lex_take (i := 4) (v := ?_) rfl (by kernel_rfl) (by kernel_rfl) (by kernel_rfl) (by rfl) d0 ?_ ?_
  rotate_left
  · ((rintro W ⟨k0, k1⟩; go_simp) <;> with_reducible rfl)
  simp only [Act.put, List.setIfInBounds_toArray, List.set_cons_zero, List.set_cons_succ]
  refine lex_take (i := 5) (v := ?_) rfl (by kernel_rfl) (by kernel_rfl) (by kernel_rfl) (by rfl) d0 ?_ ?_
  rotate_left
  · ((rintro W ⟨k0, k1⟩; go_simp) <;> with_reducible rfl)
  simp only [Act.put, List.setIfInBounds_toArray, List.set_cons_zero, List.set_cons_succ]
  refine lex_do (i := 6) rfl (by kernel_rfl) (by rfl) (fun K hK => ?_)
  go_simp
  refine hK _ _ ⟨d1, ?_⟩
  clear hK K
  refine lex_do (i := 7) rfl (by kernel_rfl) (by rfl) (fun K hK => ?_)
  go_simp
  refine hK _ _ ⟨d2, ?_⟩
  clear hK K
  refine lex_done (by kernel_rfl) ?_
  clear d0 d1 d2 hr1 hr2 hlk hlk2 c0 c1
  have c4 : V2.cell? ⟨pb, 0, none⟩ = some (.pointer (some ⟨a, 0, none⟩)) := cellB HI2.out.pl rfl
  have PXV := Lib.hid (PX.out V2 HP2.out)
  generalize hxn : (atP p x).1 = nx at *
  obtain ⟨kk, ff, tt, uu, ss, xa, xb⟩ := nx
  simp only [nodeA] at PXV
  go_wp2_with fail
  refine PXV.out.mono ?_
  rintro e V3 ⟨rfl, u3⟩
  obtain ⟨bX, hbX⟩ := node_box V3 kk ff tt uu xa xb ss
  have HU4 := Lib.hid (bmore u3 bX)
  have HX4 := Lib.hid hbX
  clear PXV c4 u3 bX hbX
  go_upto_region 9 with fail
  generalize (V3.alloc (.cells #[.int .i64 kk, .int .i64 ff, .int .i64 tt, .int .u64 uu, .string ss, .int .i64 xa, .int .i64 xb] NodeT)) = V4 at *
  generalize V3.heap.size = xn at *
  have c4 : V4.cell? ⟨pb, 0, none⟩ = some (.pointer (some ⟨a, 0, none⟩)) := cellB (Hold.below HU4.out _ _ HI2.out.pl) rfl
  have PYV := Lib.hid (PY.out V4 (HP2.out.below HU4.out))
  generalize hyn : (atP p y).1 = ny at *
  obtain ⟨k2, f2, t2, u2, s2, a2, b2⟩ := ny
  simp only [nodeA] at PYV
  go_wp2_with fail
  refine PYV.out.mono ?_
  rintro e V5 ⟨rfl, u5⟩
  obtain ⟨bY, hbY⟩ := node_box V5 k2 f2 t2 u2 a2 b2 s2
  have HU6 := Lib.hid (bmore (bmore HU4.out u5) bY)
  have HX6 := Lib.hid (Hold.below (bmore u5 bY) _ _ HX4.out)
  have HY6 := Lib.hid hbY
  clear PYV c4 u5 bY hbY HX4 HU4
  go_upto_region 10 with fail
  generalize (V5.alloc (.cells #[.int .i64 k2, .int .i64 f2, .int .i64 t2, .int .u64 u2, .string s2, .int .i64 a2, .int .i64 b2] NodeT)) = V6 at *
  generalize V5.heap.size = yn at *
  have HG6 := Lib.hid (HG2.out.trans (CoG.of HB2.out HU6.out))
  have c5 : V6.cell? ⟨wb, 0, none⟩ = some (.int .i64 who) := cellB (Hold.below HU6.out _ _ HI2.out.wh) rfl
  have x0 : V6.cell? ⟨xn, 0, none⟩ = some (.int .i64 kk) := cellB (j := 0) HX6.out rfl
  have x1 : V6.cell? ⟨xn, 1, none⟩ = some (.int .i64 ff) := cellB (j := 1) HX6.out rfl
  have x2 : V6.cell? ⟨xn, 2, none⟩ = some (.int .i64 tt) := cellB (j := 2) HX6.out rfl
  have x3 : V6.cell? ⟨xn, 3, none⟩ = some (.int .u64 uu) := cellB (j := 3) HX6.out rfl
  have x4 : V6.cell? ⟨xn, 4, none⟩ = some (.string ss) := cellB (j := 4) HX6.out rfl
  have x5 : V6.cell? ⟨xn, 5, none⟩ = some (.int .i64 xa) := cellB (j := 5) HX6.out rfl
  have x6 : V6.cell? ⟨xn, 6, none⟩ = some (.int .i64 xb) := cellB (j := 6) HX6.out rfl
  have y0 : V6.cell? ⟨yn, 0, none⟩ = some (.int .i64 k2) := cellB (j := 0) HY6.out rfl
  have y1 : V6.cell? ⟨yn, 1, none⟩ = some (.int .i64 f2) := cellB (j := 1) HY6.out rfl
  have y2 : V6.cell? ⟨yn, 2, none⟩ = some (.int .i64 t2) := cellB (j := 2) HY6.out rfl
  have y3 : V6.cell? ⟨yn, 3, none⟩ = some (.int .u64 u2) := cellB (j := 3) HY6.out rfl
  have y4 : V6.cell? ⟨yn, 4, none⟩ = some (.string s2) := cellB (j := 4) HY6.out rfl
  have y5 : V6.cell? ⟨yn, 5, none⟩ = some (.int .i64 a2) := cellB (j := 5) HY6.out rfl
  have y6 : V6.cell? ⟨yn, 6, none⟩ = some (.int .i64 b2) := cellB (j := 6) HY6.out rfl
  have SM := Lib.hid (vsame_any who ⟨kk, ff, tt, uu, ss, xa, xb⟩ ⟨k2, f2, t2, u2, s2, a2, b2⟩ V6)
  simp only [nodeA] at SM
  generalize hq : sameB who ⟨kk, ff, tt, uu, ss, xa, xb⟩ ⟨k2, f2, t2, u2, s2, a2, b2⟩ = sq at *
  have HQ := Lib.hid hq
  clear hq
  go_wp2_with fail
  refine SM.out.mono ?_
  rintro e V7 ⟨rfl, u7⟩
  have HU7 := Lib.hid (bmore HU6.out u7)
  have HX7 := Lib.hid (Hold.below u7 _ _ HX6.out)
  have HY7 := Lib.hid (Hold.below u7 _ _ HY6.out)
  have HM17 := Lib.hid (HM1.out.below HU7.out)
  have HM27 := Lib.hid (HM2.out.below HU7.out)
  have HI7 := Lib.hid (HI2.out.hold (fun T => Hold.below HU7.out))
  have HP7 := Lib.hid (HP2.out.below HU7.out)
  have HB7 : Hid (B ≤ V7.heap.size) := Lib.hid (Nat.le_trans HB2.out HU7.out.size)
  have HG7 := Lib.hid (HG2.out.trans (CoG.of HB2.out HU7.out))
  clear u7 SM c5 x0 x1 x2 x3 x4 x5 x6 y0 y1 y2 y3 y4 y5 y6 HX6 HY6 HM1 HM2 HP2 HU6 HG6
  cases sq with
  | false =>
    have HF : Hid (CoPost B b mb1 mb2 p who m x y W (.returned (.bool false)) V7) := Lib.hid ⟨_, _, _, rfl, HM17.out, HM27.out, UNL.out _ _ (by first | exact HQ.out | rfl), HG7.out⟩
    go_wp2_with fail
    go_returns
    exact HF.out
  | true =>
    have x5 : V7.cell? ⟨xn, 5, none⟩ = some (.int .i64 xa) := cellB (j := 5) HX7.out rfl
    have y5 : V7.cell? ⟨yn, 5, none⟩ = some (.int .i64 a2) := cellB (j := 5) HY7.out rfl
    have cf : V7.cell? ⟨cb, 0, none⟩ = some (.func (.func 38) #[] #[.pointer (some ⟨tb, 0, none⟩), .pointer (some ⟨bb, 0, none⟩), .pointer (some ⟨pb, 0, none⟩), .pointer (some ⟨wb, 0, none⟩), .pointer (some ⟨cb, 0, none⟩)]) := cellB HI7.out.co rfl
    have CA := Lib.hid (IA.out V7 _ _ HB7.out HP7.out HI7.out HC2.out HM17.out HM27.out)
    go_wp2_with fail
    refine CA.out.mono ?_
    rintro e V8 ⟨r1, m1, n1, rfl, hm8, hn8, hr8, hg8⟩
    have HM18 := Lib.hid hm8
    have HM28 := Lib.hid hn8
    have HR8 := Lib.hid hr8
    have HG8 := Lib.hid (HG7.out.trans hg8)
    have HI8 := Lib.hid (HI7.out.hold hg8.hold)
    have HP8 := Lib.hid (hg8.pool HP7.out HB1.out HB22.out)
    have HB8 : Hid (B ≤ V8.heap.size) := Lib.hid (Nat.le_trans HB7.out hg8.below.size)
    have HX8 := Lib.hid (hg8.hold _ _ _ HX7.out)
    have HY8 := Lib.hid (hg8.hold _ _ _ HY7.out)
    clear hm8 hn8 hr8 hg8 CA x5 y5 cf HM17 HM27 HX7 HY7 HP7
    cases r1 with
    | false =>
      have HF : Hid (CoPost B b mb1 mb2 p who m x y W (.returned (.bool false)) V8) := Lib.hid ⟨_, _, _, rfl, HM18.out, HM28.out, LFT.out _ _ HR8.out, HG8.out⟩
      go_wp2_with fail
      go_returns
      exact HF.out
    | true =>
      have x6 : V8.cell? ⟨xn, 6, none⟩ = some (.int .i64 xb) := cellB (j := 6) HX8.out rfl
      have y6 : V8.cell? ⟨yn, 6, none⟩ = some (.int .i64 b2) := cellB (j := 6) HY8.out rfl
      have cf : V8.cell? ⟨cb, 0, none⟩ = some (.func (.func 38) #[] #[.pointer (some ⟨tb, 0, none⟩), .pointer (some ⟨bb, 0, none⟩), .pointer (some ⟨pb, 0, none⟩), .pointer (some ⟨wb, 0, none⟩), .pointer (some ⟨cb, 0, none⟩)]) := cellB HI8.out.co rfl
      have CB := Lib.hid (IB.out V8 _ _ HB8.out HP8.out HI8.out (HR8.out.1 rfl).1 HM18.out HM28.out)
      go_wp2_with fail
      refine CB.out.mono ?_
      rintro e V9 ⟨r2, m2, n2, rfl, hm9, hn9, hr9, hg9⟩
      have HF : Hid (CoPost B b mb1 mb2 p who m x y W (.returned (.bool r2)) V9) := Lib.hid (by
        cases r2 with
        | false => exact ⟨_, _, _, rfl, hm9, hn9, RGT.out _ _ _ _ HR8.out hr9, HG8.out.trans hg9⟩
        | true => exact ⟨_, _, _, rfl, hm9, hn9, BTH.out _ _ _ _ (by first | exact HQ.out | trivial) HR8.out hr9, HG8.out.trans hg9⟩)
      clear hm9 hn9 hr9 hg9 CB x6 y6 cf
      go_wp2_with fail
      go_returns
      exact HF.out
/-- The closure, at all terms. -/
theorem co_all (hp0 : Ok p) (hne : mb1 ≠ mb2) (hb1 : b ≠ mb1) (hb2 : b ≠ mb2) (hB1 : B ≤ mb1) (hB2 : B ≤ mb2) : ∀ (k : Nat) (x y : Int), x.toNat < k → (x = 0 ∨ inP p x = true) → (y = 0 ∨ inP p y = true) → CoC B B0 a b v p who tb bb pb wb cb mb1 mb2 x y
  | 0, _, _, h, _, _ => absurd h (Nat.not_lt_zero _)
  | k + 1, x, y, h, hx, hy => fun W m n hB hp hc hC h1 h2 => by
    have hxi := in_i64 hp0.len hx
    have hyi := in_i64 hp0.len hy
    cases hm : m x with
    | some o => exact co_met hxi hB hc hC h1 h2 hm
    | none =>
      cases hn : n y with
      | some o => exact co_taken hxi hyi hB hc hC h1 h2 hm hn
      | none =>
        have hx' : inP p x = true := by
          rcases hx with rfl | hx
          · rw [hC.zero] at hm; cases hm
          · exact hx
        have hy' : inP p y = true := by
          rcases hy with rfl | hy
          · rw [(hC.inv 0 0).1 hC.zero] at hn; cases hn
          · exact hy
        obtain ⟨ka, kb⟩ := kid_less hp0 hx'
        obtain ⟨la, lb⟩ := kid_less hp0 hy'
        have pos : ∀ z, inP p z = true → 1 ≤ z := fun z hz => by unfold inP at hz; simp at hz; omega
        have hx1 := pos x hx'
        refine co_new hx' hy' hne hb1 hb2 hB1 hB2 (co_all hp0 hne hb1 hb2 hB1 hB2 k _ _ ?_ (ka.imp id And.left) (la.imp id And.left)) (co_all hp0 hne hb1 hb2 hB1 hB2 k _ _ ?_ (kb.imp id And.left) (lb.imp id And.left)) hB hp hc hC h1 h2 hm hn
        · rcases ka with e | e <;> omega
        · rcases kb with e | e <;> omega
end
end Go.Proofs.YtgaklaajbepfaaaDoor
