/-
  The document's own Lent: a tree in new memory.
-/
import Derived.Test.YtjpkeoenajlmeaaDoorTRowF
namespace Go.Proofs.YtjpkeoenajlmeaaDoor
open Go.RowKit Go.Maps
set_option linter.unusedVariables false

/-- Blocks of trees that were made behind w. -/
def NewT (w w' : World) (b : Nat) : Prop := w.heap.size ≤ b ∧ ∃ cs, w'.heap[b]? = some (Obj.cells cs TrT)
/-- Blocks of trees from B on, but one. -/
def ButT (B : Nat) (o : Option Nat) (w : World) (b : Nat) : Prop := B ≤ b ∧ o ≠ some b ∧ ∃ cs, w.heap[b]? = some (Obj.cells cs TrT)
theorem cell_grow' {w w' : World} {b o : Nat} {u : Value} {row : Option Nat} (h : w.cell? ⟨b, o, none⟩ = some u) (hg : w.grownBy w' row) (hn : row ≠ some b) : w'.cell? ⟨b, o, none⟩ = some u := by
  rw [cell_of_heap (hg.block b (World.block_lt_of_cell? w _ h) (fun e => hn e.symm))]; exact h
theorem foApp_size : ∀ (l : List (Nd × Fo)) (r : Fo), r.size ≤ (foApp l r).size
  | [], _ => Nat.le_refl _
  | x :: l, r => by have := foApp_size l r; simp only [foApp, Fo.size]; omega
def LentPost (w : World) (n : Nd) (k : Fo) (e : Ending) (w' : World) : Prop := ∃ v, e = .returned (.agg (treeA n v)) ∧ IsK w' (NewT w w') v k ∧ Below w.heap.size w w'
def LentC (N : Nat) (n : Nd) (k : Fo) : Prop := ∀ (w : World) (v : Value), IsK w (fun b => b < N) v k → N ≤ w.heap.size → k.size ≤ 6000 → Calls Tryd.prog 10 #[.agg (treeA n v)] w (LentPost w n k)
set_option maxRecDepth 100000 in
set_option maxHeartbeats 25600000 in
theorem lent_step {N : Nat} (n : Nd) (k : Fo) (ih : AllF (LentC N) k) : LentC N n k := by
  intro w v hk hN hsz
  obtain ⟨i0, hi0, hz0, hz1, hz2⟩ := info_parts rowTree
  obtain ⟨av, cv, rfl, hx⟩ := hk.shape
  have hlk := k.len_le
  obtain ⟨kk, ff, tt, uu, ss, xa, xb⟩ := n
  have b1 := bZ w (.cells #[.int .i64 kk, .int .i64 ff, .int .i64 tt, .int .u64 uu, .string ss, .slice av k.len cv] TrT)
  have b2 := bZ (w.alloc (.cells #[.int .i64 kk, .int .i64 ff, .int .i64 tt, .int .u64 uu, .string ss, .slice av k.len cv] TrT)) (.cells #[.int .i64 0, .int .i64 0, .int .i64 0, .int .u64 0, .string ⟨#[]⟩, .slice none 0 0] TrT)
  have b3 := bZ ((w.alloc (.cells #[.int .i64 kk, .int .i64 ff, .int .i64 tt, .int .u64 uu, .string ss, .slice av k.len cv] TrT)).alloc (.cells #[.int .i64 0, .int .i64 0, .int .i64 0, .int .u64 0, .string ⟨#[]⟩, .slice none 0 0] TrT)) (.cells #[.int .i64 kk, .int .i64 ff, .int .i64 tt, .int .u64 uu, .string ss, .slice none 0 0] TrT)
  have b12 := b1.trans (b2.mono b1.size)
  have b123 := b12.trans (b3.mono b12.size)
  have h1 : (((w.alloc (.cells #[.int .i64 kk, .int .i64 ff, .int .i64 tt, .int .u64 uu, .string ss, .slice av k.len cv] TrT)).alloc (.cells #[.int .i64 0, .int .i64 0, .int .i64 0, .int .u64 0, .string ⟨#[]⟩, .slice none 0 0] TrT)).alloc (.cells #[.int .i64 kk, .int .i64 ff, .int .i64 tt, .int .u64 uu, .string ss, .slice none 0 0] TrT)).heap[w.heap.size]? = some (Obj.cells #[.int .i64 kk, .int .i64 ff, .int .i64 tt, .int .u64 uu, .string ss, .slice av k.len cv] TrT) := Hold.below b3 _ _ (Hold.below b2 _ _ (heap_alloc_new _ _))
  have h2 : (((w.alloc (.cells #[.int .i64 kk, .int .i64 ff, .int .i64 tt, .int .u64 uu, .string ss, .slice av k.len cv] TrT)).alloc (.cells #[.int .i64 0, .int .i64 0, .int .i64 0, .int .u64 0, .string ⟨#[]⟩, .slice none 0 0] TrT)).alloc (.cells #[.int .i64 kk, .int .i64 ff, .int .i64 tt, .int .u64 uu, .string ss, .slice none 0 0] TrT)).heap[w.heap.size + 1]? = some (Obj.cells #[.int .i64 0, .int .i64 0, .int .i64 0, .int .u64 0, .string ⟨#[]⟩, .slice none 0 0] TrT) := by
    have e : w.heap.size + 1 = (w.alloc (.cells #[.int .i64 kk, .int .i64 ff, .int .i64 tt, .int .u64 uu, .string ss, .slice av k.len cv] TrT)).heap.size := by simp
    rw [e]; exact Hold.below b3 _ _ (heap_alloc_new _ _)
  have h3 : (((w.alloc (.cells #[.int .i64 kk, .int .i64 ff, .int .i64 tt, .int .u64 uu, .string ss, .slice av k.len cv] TrT)).alloc (.cells #[.int .i64 0, .int .i64 0, .int .i64 0, .int .u64 0, .string ⟨#[]⟩, .slice none 0 0] TrT)).alloc (.cells #[.int .i64 kk, .int .i64 ff, .int .i64 tt, .int .u64 uu, .string ss, .slice none 0 0] TrT)).heap[w.heap.size + 2]? = some (Obj.cells #[.int .i64 kk, .int .i64 ff, .int .i64 tt, .int .u64 uu, .string ss, .slice none 0 0] TrT) := by
    have e : w.heap.size + 2 = ((w.alloc (.cells #[.int .i64 kk, .int .i64 ff, .int .i64 tt, .int .u64 uu, .string ss, .slice av k.len cv] TrT)).alloc (.cells #[.int .i64 0, .int .i64 0, .int .i64 0, .int .u64 0, .string ⟨#[]⟩, .slice none 0 0] TrT)).heap.size := by simp
    rw [e]; exact heap_alloc_new _ _
  have HX := Lib.hid hx
  have HS : Hid ((((w.alloc (.cells #[.int .i64 kk, .int .i64 ff, .int .i64 tt, .int .u64 uu, .string ss, .slice av k.len cv] TrT)).alloc (.cells #[.int .i64 0, .int .i64 0, .int .i64 0, .int .u64 0, .string ⟨#[]⟩, .slice none 0 0] TrT)).alloc (.cells #[.int .i64 kk, .int .i64 ff, .int .i64 tt, .int .u64 uu, .string ss, .slice none 0 0] TrT)).heap.size = w.heap.size + 3) := Lib.hid (by simp)
  have HI := Lib.hid ih
  have HB1 := Lib.hid h1
  have HB2 := Lib.hid h2
  have HB3 := Lib.hid h3
  have HA := Lib.hid b123
  clear hk hx ih b1 b2 b3 b12 b123 h1 h2 h3
  simp only [treeA] at *
  go_enter Tryd.func10, Tryd.ntmps10
  go_wp2_with fail
  generalize (((w.alloc (.cells #[.int .i64 kk, .int .i64 ff, .int .i64 tt, .int .u64 uu, .string ss, .slice av k.len cv] TrT)).alloc (.cells #[.int .i64 0, .int .i64 0, .int .i64 0, .int .u64 0, .string ⟨#[]⟩, .slice none 0 0] TrT)).alloc (.cells #[.int .i64 kk, .int .i64 ff, .int .i64 tt, .int .u64 uu, .string ss, .slice none 0 0] TrT)) = W at *
  go_loopw [4] (fun vi wr => ∃ (i : Nat) (r : Fo) (done : List (Nd × Fo)) (ya : Option Addr) (yc : Nat) (xs : List Value), vi = .int .i64 (i : Int) ∧ i + r.len = k.len ∧ done.length = i ∧ k = foApp done r ∧ AllF (LentC N) r ∧ (0 < r.len → ∃ b o, av = some ⟨b, o, none⟩ ∧ b < N ∧ AtF w (fun b => b < N) r b (o + i * 6)) ∧ wr.heap[w.heap.size]? = some (Obj.cells #[.int .i64 kk, .int .i64 ff, .int .i64 tt, .int .u64 uu, .string ss, .slice av k.len cv] TrT) ∧ wr.heap[w.heap.size + 1]? = some (Obj.cells #[.int .i64 0, .int .i64 0, .int .i64 0, .int .u64 0, .string ⟨#[]⟩, .slice none 0 0] TrT) ∧ wr.heap[w.heap.size + 2]? = some (Obj.cells #[.int .i64 kk, .int .i64 ff, .int .i64 tt, .int .u64 uu, .string ss, .slice ya i yc] TrT) ∧ wr.ownsRow (w.heap.size + 3) TrT 6 (.slice ya i yc) i xs ∧ RowF wr (ButT (w.heap.size + 3) (Value.slice ya i yc).ownBlock wr) done xs ∧ Below w.heap.size w wr ∧ w.heap.size + 3 ≤ wr.heap.size) (fun v _ => k.len - (intOf v).toNat)
  case atStart => exact ⟨0, k, [], none, 0, [], rfl, by omega, rfl, rfl, HI.out, fun hp => by obtain ⟨b, o, q1, q2, q3⟩ := HX.out hp; exact ⟨b, o, q1, q2, by simpa using q3⟩, HB1.out, HB2.out, HB3.out, World.ownsRow_nil _ _ _ 6, rfl, HA.out, by rw [HS.out]; exact Nat.le_refl _⟩
  case round =>
    obtain ⟨i, r, done, ya, yc, xs, rfl, hi, hdl, hka, hall, hat, hb1, hb2, hb3, hown, hrow, hbr, hsz3⟩ := hrel
    have HBR := Lib.hid hbr
    have HBX := Lib.hid hb1
    have HBY := Lib.hid hb2
    have HBZ := Lib.hid hb3
    have HOWN := Lib.hid hown
    have HROW := Lib.hid hrow
    have HSZ3 := Lib.hid hsz3
    clear hown hrow HX HI
    by_cases hlt : 0 < r.len
    · obtain ⟨n', kd, rr, rfl⟩ := fo_pos hlt
      simp only [Fo.len] at hi
      obtain ⟨b, o, rfl, hbN, hat'⟩ := hat hlt
      obtain ⟨c0, c1, c2, c3, c4, v', c5, hk', hat2⟩ := hat'.cons
      obtain ⟨av2, cv2, rfl, _⟩ := hk'.shape
      have hbw : b < w.heap.size := Nat.lt_of_lt_of_le hbN hN
      have hkr := (hk'.below HBR.out).below (bd wr)
      have hkd : kd.size ≤ 6000 := by
        have h1 := foApp_size done (.cons n' kd rr)
        rw [← hka] at h1
        simp only [Fo.size] at h1
        omega
      have HK := Lib.hid (hall.1 wr.drew (.slice av2 kd.len cv2) hkr (Nat.le_trans hN (HBR.out.size)) hkd)
      have hilt : i < 6000 := by omega
      have HALL := Lib.hid hall.2
      have HAT := Lib.hid hat2
      have HKA := Lib.hid (show k = foApp (done ++ [(n', kd)]) rr by rw [foApp_snoc]; exact hka)
      have e0 := bcellAt HBR.out c0
      have e1 := bcellAt HBR.out c1
      have e2 := bcellAt HBR.out c2
      have e3 := bcellAt HBR.out c3
      have e4 := bcellAt HBR.out c4
      have e5 := bcellAt HBR.out c5
      clear hall hat2 hat hat' hk' hkr hkd hka c0 c1 c2 c3 c4 c5 hbr
      obtain ⟨k2, f2, t2, u2, s2, y2, z2⟩ := n'
      simp only [treeA] at *
      have x5 := cellB (j := 5) hb1 rfl
      have y5 := cellB (j := 5) hb3 rfl
      clear hb1 hb2 hb3
      have hi0' : (0 : Int) ≤ (i : Int) := by omega
      have hi1 : (i : Int) < (k.len : Int) := by omega
      go_wp2_with fail
      have hfk : ∀ V : World, (∀ (b o : Nat) (u : Value), wr.cell? ⟨b, o, none⟩ = some u → b < w.heap.size ∨ b = w.heap.size ∨ b = w.heap.size + 2 → V.cell? ⟨b, o, none⟩ = some u) → V.cell? ⟨w.heap.size + 2, 5, none⟩ = some (.slice ya i yc) ∧ V.cell? ⟨w.heap.size, 5, none⟩ = some (.slice (some ⟨b, o, none⟩) k.len cv) ∧ V.cell? ⟨b, o + i * 6, none⟩ = some (.int .i64 k2) ∧ V.cell? ⟨b, o + i * 6 + 1, none⟩ = some (.int .i64 f2) ∧ V.cell? ⟨b, o + i * 6 + 2, none⟩ = some (.int .i64 t2) ∧ V.cell? ⟨b, o + i * 6 + 3, none⟩ = some (.int .u64 u2) ∧ V.cell? ⟨b, o + i * 6 + 4, none⟩ = some (.string s2) ∧ V.cell? ⟨b, o + i * 6 + 5, none⟩ = some (.slice av2 kd.len cv2) := fun V hV => ⟨hV _ _ _ y5 (by omega), hV _ _ _ x5 (by omega), hV _ _ _ e0 (by omega), hV _ _ _ e1 (by omega), hV _ _ _ e2 (by omega), hV _ _ _ e3 (by omega), hV _ _ _ e4 (by omega), hV _ _ _ e5 (by omega)⟩
      have HFK := Lib.hid hfk
      have hF0 := HFK.out wr.drew (fun b o u h _ => bcellAt (bd wr) h)
      clear hfk e0 e1 e2 e3 e4 e5 x5 y5
      refine lexg_start [0, 1, 2, 3, 4, 5, 6, 7, 8, 9, 10, 11] 11 (F := fun W => W.cell? ⟨w.heap.size + 2, 5, none⟩ = some (.slice ya i yc) ∧ W.cell? ⟨w.heap.size, 5, none⟩ = some (.slice (some ⟨b, o, none⟩) k.len cv) ∧ W.cell? ⟨b, o + i * 6, none⟩ = some (.int .i64 k2) ∧ W.cell? ⟨b, o + i * 6 + 1, none⟩ = some (.int .i64 f2) ∧ W.cell? ⟨b, o + i * 6 + 2, none⟩ = some (.int .i64 t2) ∧ W.cell? ⟨b, o + i * 6 + 3, none⟩ = some (.int .u64 u2) ∧ W.cell? ⟨b, o + i * 6 + 4, none⟩ = some (.string s2) ∧ W.cell? ⟨b, o + i * 6 + 5, none⟩ = some (.slice av2 kd.len cv2)) (by kernel_rfl) ?_
      simp only [inOrder, List.filterMap, List.getElem?_cons_succ, List.getElem?_cons_zero]
      refine lexg_take (i := 0) (v := ?_) rfl (by decide) (by kernel_rfl) (by kernel_rfl) (by kernel_rfl) (by kernel_rfl) (by rfl) hF0 ?_ ?_
      rotate_left
      · ((intro W hW; obtain ⟨k0, k1, k3, k4, k5, k6, k7, k8⟩ := hW; go_simp) <;> with_reducible rfl)
      simp only [Act.put, List.setIfInBounds_toArray, List.set_cons_zero, List.set_cons_succ]
      refine lexg_take (i := 1) (v := ?_) rfl (by decide) (by kernel_rfl) (by kernel_rfl) (by kernel_rfl) (by kernel_rfl) (by rfl) hF0 ?_ ?_
      rotate_left
      · ((intro W hW; obtain ⟨k0, k1, k3, k4, k5, k6, k7, k8⟩ := hW; go_simp) <;> with_reducible rfl)
      simp only [Act.put, List.setIfInBounds_toArray, List.set_cons_zero, List.set_cons_succ]
      refine lexg_take (i := 2) (v := ?_) rfl (by decide) (by kernel_rfl) (by kernel_rfl) (by kernel_rfl) (by kernel_rfl) (by rfl) hF0 ?_ ?_
      rotate_left
      · ((intro W hW; obtain ⟨k0, k1, k3, k4, k5, k6, k7, k8⟩ := hW; go_simp) <;> with_reducible rfl)
      simp only [Act.put, List.setIfInBounds_toArray, List.set_cons_zero, List.set_cons_succ]
      refine lexg_take (i := 3) (v := ?_) rfl (by decide) (by kernel_rfl) (by kernel_rfl) (by kernel_rfl) (by kernel_rfl) (by rfl) hF0 ?_ ?_
      rotate_left
      · ((intro W hW; obtain ⟨k0, k1, k3, k4, k5, k6, k7, k8⟩ := hW; go_simp) <;> with_reducible rfl)
      simp only [Act.put, List.setIfInBounds_toArray, List.set_cons_zero, List.set_cons_succ]
      refine lexg_take (i := 4) (v := ?_) rfl (by decide) (by kernel_rfl) (by kernel_rfl) (by kernel_rfl) (by kernel_rfl) (by rfl) hF0 ?_ ?_
      rotate_left
      · ((intro W hW; obtain ⟨k0, k1, k3, k4, k5, k6, k7, k8⟩ := hW; go_simp) <;> with_reducible rfl)
      simp only [Act.put, List.setIfInBounds_toArray, List.set_cons_zero, List.set_cons_succ]
      refine lexg_take (i := 5) (v := ?_) rfl (by decide) (by kernel_rfl) (by kernel_rfl) (by kernel_rfl) (by kernel_rfl) (by rfl) hF0 ?_ ?_
      rotate_left
      · ((intro W hW; obtain ⟨k0, k1, k3, k4, k5, k6, k7, k8⟩ := hW; go_simp) <;> with_reducible rfl)
      simp only [Act.put, List.setIfInBounds_toArray, List.set_cons_zero, List.set_cons_succ]
      refine lexg_take (i := 6) (v := ?_) rfl (by decide) (by kernel_rfl) (by kernel_rfl) (by kernel_rfl) (by kernel_rfl) (by rfl) hF0 ?_ ?_
      rotate_left
      · ((intro W hW; obtain ⟨k0, k1, k3, k4, k5, k6, k7, k8⟩ := hW; go_simp) <;> with_reducible rfl)
      simp only [Act.put, List.setIfInBounds_toArray, List.set_cons_zero, List.set_cons_succ]
      refine lexg_call (i := 7) rfl (by kernel_rfl) (by rfl) ?_ _ HK.out ?_
      · go_simp
      rintro e w1 ⟨v1, rfl, hv1, u1⟩
      obtain ⟨va, vc, rfl, _⟩ := hv1.shape
      have bA := bmore (bd wr) u1
      refine ⟨_, rfl, fun _ => HFK.out w1 (fun b o u h _ => bcellAt bA h), ?_⟩
      simp only [treeA, Act.put, List.setIfInBounds_toArray, List.set_cons_zero, List.set_cons_succ]
      have hszA := bA.size
      refine lexg_do (i := 8) rfl (by kernel_rfl) (by rfl) (fun K hK => ?_)
      go_simp
      have bC := bZ w1 (.cells #[.int .i64 k2, .int .i64 f2, .int .i64 t2, .int .u64 u2, .string s2, .slice va kd.len vc] 27)
      have bAC := bmore bA bC
      have hownC := own_hold HOWN.out (Hold.below bAC)
      have HBAC := Lib.hid bAC
      have HV1 := Lib.hid hv1
      have HBC := Lib.hid bC
      have HBA := Lib.hid bA
      refine hK _ _ ⟨fun _ => HFK.out _ (fun b o u h _ => bcellAt bAC h), ?_⟩
      clear hK K
      refine lexg_do (i := 9) rfl (by kernel_rfl) (by rfl) (fun K hK => ?_)
      refine wp_append_at _ _ _ 22 rfl (w.heap.size + 3) TrT i0 (.agg #[.int .i64 0, .int .i64 0, .int .i64 0, .int .u64 0, .string ⟨#[]⟩, .slice none 0 0]) 6 72 Tryd.underlying22 hi0 hz0 hz1 hz2 rfl (by decide) (.slice ya i yc) i xs rfl hownC ⟨w1.heap.size, 0, none⟩ 1 1 [.int .i64 k2, .int .i64 f2, .int .i64 t2, .int .u64 u2, .string s2, .slice va kd.len vc] rfl (by decide) rfl (news6 w1 _ _ _ _ _ _ _) (by simp [Value.oneCell']) (by unfold maxLen; omega) (by omega) (by have := HSZ3.out; have := bC.size; omega) ?_
      intro v3 w3 hown3 hg3 hp3
      obtain ⟨za, zc, rfl⟩ := (row_of_own hown3).shape
      have hyo : ∀ g, (Value.slice ya i yc).ownBlock = some g → w.heap.size + 3 ≤ g ∧ g < wr.heap.size := fun g e => by
        obtain ⟨hB, cur, hc⟩ := own_type HOWN.out e
        exact ⟨hB, (Array.getElem?_eq_some_iff.1 hc).1⟩
      have hkb : ∀ (b : Nat) (u : Obj), wr.heap[b]? = some u → (Value.slice ya i yc).ownBlock ≠ some b → w3.heap[b]? = some u := fun b u h hn => by
        have hl := (Array.getElem?_eq_some_iff.1 h).1
        rw [hg3.block b (Nat.lt_of_lt_of_le hl HBAC.out.size) (fun e => hn e.symm), HBAC.out.block b hl]; exact h
      have hkb1 : ∀ (b : Nat) (u : Obj), w1.heap[b]? = some u → wr.heap.size ≤ b → w3.heap[b]? = some u := fun b u h hn => by
        have hl := (Array.getElem?_eq_some_iff.1 h).1
        rw [hg3.block b (Nat.lt_of_lt_of_le hl HBC.out.size) (fun e => by have := (hyo b e.symm).2; omega), HBC.out.block b hl]; exact h
      have hz3 := hkb _ _ HBZ.out (fun e => by have := (hyo _ e).1; omega)
      have hF3 := HFK.out w3 (fun b o u h hb => by
        have hl := World.block_lt_of_cell? wr _ h
        rw [cell_of_heap (show w3.heap[b]? = wr.heap[b]? from by
          rw [hg3.block b (Nat.lt_of_lt_of_le hl HBAC.out.size) (fun e => by have := (hyo _ e.symm).1; omega), HBAC.out.block b hl])]
        exact h)
      have HKB := Lib.hid hkb
      have HKB1 := Lib.hid hkb1
      have HYO := Lib.hid hyo
      have HG3 := Lib.hid hg3
      have HP3 := Lib.hid hp3
      have HOWN3 := Lib.hid hown3
      have HZ3 := Lib.hid hz3
      clear hkb hkb1 hyo hg3 hp3 hown3 hownC bA bC bAC hv1 u1
      refine hK _ _ ⟨fun _ => hF3, ?_⟩
      clear hK K
      try simp only [Act.put, List.setIfInBounds_toArray, List.set_cons_zero, List.set_cons_succ]
      refine lexg_take (i := 10) (v := ?_) rfl (by decide) (by kernel_rfl) (by kernel_rfl) (by kernel_rfl) (by kernel_rfl) (by rfl) hF3 ?_ ?_
      rotate_left
      · ((intro W hW; obtain ⟨k0, k1, k3, k4, k5, k6, k7, k8⟩ := hW; go_simp) <;> with_reducible rfl)
      simp only [Act.put, List.setIfInBounds_toArray, List.set_cons_zero, List.set_cons_succ]
      have x5 := cellB (j := 5) hz3 rfl
      have f5 := frozenB (j := 5) hz3
      refine lexg_do (i := 11) rfl (by kernel_rfl) (by rfl) (fun K hK => ?_)
      go_simp
      have hz4 := setCellB (j := 5) (u := .slice za (i + 1) zc) hz3
      have HZ4 := Lib.hid hz4
      have HGS := Lib.hid (grownBy_set w3 (w.heap.size + 2) 5 (.slice za (i + 1) zc))
      refine hK _ _ ⟨fun h => absurd rfl h, ?_⟩
      clear hK K x5 f5 hF3 hF0 hz3 hz4
      refine lexg_done (by kernel_rfl) ?_
      generalize (w3.setCell ⟨w.heap.size + 2, 5, none⟩ (.slice za (i + 1) zc)) = w4 at *
      go_wp2_with fail
      have hyo3 : ∀ g, (Value.slice za (i + 1) zc).ownBlock = some g → w.heap.size + 3 ≤ g := fun g e => (own_type HOWN3.out e).1
      have h34 : ∀ (b : Nat) (u : Obj), w3.heap[b]? = some u → b ≠ w.heap.size + 2 → w4.heap[b]? = some u := fun b u h hn => by
        rw [HGS.out.block b (Array.getElem?_eq_some_iff.1 h).1 (fun e => hn (by cases e; rfl))]; exact h
      have hb4 : Below w.heap.size w w4 := ((HBR.out.trans (HBAC.out.mono (by omega))).grown HG3.out (by have := HBAC.out.size; omega) (fun g e => by have := (HYO.out g e).1; omega)).grown HGS.out (by have := HG3.out.size; have := HBAC.out.size; omega) (fun g e => by cases e; omega)
      have hsz4 : w.heap.size + 3 ≤ w4.heap.size := by have := HG3.out.size; have := HBAC.out.size; have := HGS.out.size; have := HSZ3.out; omega
      have hrow4 : RowF w4 (ButT (w.heap.size + 3) (Value.slice za (i + 1) zc).ownBlock w4) done xs := HROW.out.keep (fun bb hg hl => by
        obtain ⟨q1, q2, cs, q3⟩ := hg
        have q4 := h34 _ _ (HKB.out _ _ q3 q2) (by omega)
        refine ⟨⟨q1, fun e => ?_, cs, q4⟩, by rw [q4, q3]⟩
        rcases HP3.out with h | h
        · exact q2 (h.symm.trans e)
        · rw [h] at e; cases e; have := HBAC.out.size; omega)
      have hkid4 : IsK w4 (ButT (w.heap.size + 3) (Value.slice za (i + 1) zc).ownBlock w4) (.slice va kd.len vc) kd := HV1.out.keep (fun bb hg hl => by
        obtain ⟨q1, cs, q3⟩ := hg
        have q1' : wr.heap.size ≤ bb := q1
        have q4 := h34 _ _ (HKB1.out _ _ q3 q1') (by have := HSZ3.out; omega)
        refine ⟨⟨by have := HSZ3.out; omega, fun e => ?_, cs, q4⟩, by rw [q4, q3]⟩
        rcases HP3.out with h | h
        · have := (HYO.out bb (h.symm.trans e)).2; omega
        · rw [h] at e; cases e; have := HBC.out.size; omega)
      have hwa : w.heap.size < w3.heap.size ∧ w.heap.size + 1 < w3.heap.size := by have := HG3.out.size; have := HBAC.out.size; have := HSZ3.out; omega
      go_roundw
      case rel => exact ⟨i + 1, rr, done ++ [(⟨k2, f2, t2, u2, s2, y2, z2⟩, kd)], za, zc, _, by go_num, by omega, by simp [hdl], HKA.out, HALL.out, fun _ => ⟨b, o, rfl, hbN, by rw [show o + (i + 1) * 6 = o + i * 6 + 6 by omega]; exact HAT.out⟩, h34 _ _ (HKB.out _ _ HBX.out (fun e => by have := (HYO.out _ e).1; omega)) (by omega), h34 _ _ (HKB.out _ _ HBY.out (fun e => by have := (HYO.out _ e).1; omega)) (by omega), HZ4.out, own_kept HOWN3.out HGS.out (fun r e e' => by cases e; have := hyo3 _ e'; omega), RowF.snoc hkid4 hrow4, hb4, hsz4⟩
      case measure => simp [intOf]; omega
    · obtain rfl := fo_nil (show r.len = 0 by omega)
      simp only [Fo.len, Nat.add_zero] at hi
      rw [foApp_nil] at hka
      have hdk : done.length = k.len := by omega
      have HKA := Lib.hid hka
      have HDK := Lib.hid hdk
      subst hi
      clear hka hall hat hlt hdl hdk
      have x0 := cellB (j := 0) hb1 rfl
      have x1 := cellB (j := 1) hb1 rfl
      have x2 := cellB (j := 2) hb1 rfl
      have x3 := cellB (j := 3) hb1 rfl
      have x4 := cellB (j := 4) hb1 rfl
      have x5 := cellB (j := 5) hb1 rfl
      have r0 := cellB (j := 0) hb2 rfl
      have q0 := frozenB (j := 0) hb2
      have r1 := cellB (j := 1) hb2 rfl
      have q1 := frozenB (j := 1) hb2
      have r2 := cellB (j := 2) hb2 rfl
      have q2 := frozenB (j := 2) hb2
      have r3 := cellB (j := 3) hb2 rfl
      have q3 := frozenB (j := 3) hb2
      have r4 := cellB (j := 4) hb2 rfl
      have q4 := frozenB (j := 4) hb2
      have r5 := cellB (j := 5) hb2 rfl
      have q5 := frozenB (j := 5) hb2
      have y5 := cellB (j := 5) hb3 rfl
      clear hb1 hb2 hb3 hbr
      have hk0 : (0 : Int) ≤ (k.len : Int) := by omega
      have hk1 : (k.len : Int) < 6001 := by omega
      go_wp2_with fail
      have hfk : ∀ V : World, (∀ (o : Nat) (u : Value), wr.cell? ⟨w.heap.size, o, none⟩ = some u → V.cell? ⟨w.heap.size, o, none⟩ = some u) → (∀ (o : Nat) (u : Value), wr.cell? ⟨w.heap.size + 2, o, none⟩ = some u → V.cell? ⟨w.heap.size + 2, o, none⟩ = some u) → V.cell? ⟨w.heap.size, 0, none⟩ = some (.int .i64 kk) ∧ V.cell? ⟨w.heap.size, 1, none⟩ = some (.int .i64 ff) ∧ V.cell? ⟨w.heap.size, 2, none⟩ = some (.int .i64 tt) ∧ V.cell? ⟨w.heap.size, 3, none⟩ = some (.int .u64 uu) ∧ V.cell? ⟨w.heap.size, 4, none⟩ = some (.string ss) ∧ V.cell? ⟨w.heap.size + 2, 5, none⟩ = some (.slice ya k.len yc) := fun V hV hV2 => ⟨hV _ _ x0, hV _ _ x1, hV _ _ x2, hV _ _ x3, hV _ _ x4, hV2 _ _ y5⟩
      have HFK := Lib.hid hfk
      have hF0 := HFK.out wr.drew (fun o u h => bcellAt (bd wr) h) (fun o u h => bcellAt (bd wr) h)
      clear hfk x0 x1 x2 x3 x4 x5 y5
      refine lexg_start [0, 1, 2, 3, 4, 5, 6, 7, 8, 9, 10, 11, 12, 15, 13, 14, 16, 17, 18] 18 (F := fun W => W.cell? ⟨w.heap.size, 0, none⟩ = some (.int .i64 kk) ∧ W.cell? ⟨w.heap.size, 1, none⟩ = some (.int .i64 ff) ∧ W.cell? ⟨w.heap.size, 2, none⟩ = some (.int .i64 tt) ∧ W.cell? ⟨w.heap.size, 3, none⟩ = some (.int .u64 uu) ∧ W.cell? ⟨w.heap.size, 4, none⟩ = some (.string ss) ∧ W.cell? ⟨w.heap.size + 2, 5, none⟩ = some (.slice ya k.len yc)) (by kernel_rfl) ?_
      simp only [inOrder, List.filterMap, List.getElem?_cons_succ, List.getElem?_cons_zero]
      refine lexg_take (i := 0) (v := ?_) rfl (by decide) (by kernel_rfl) (by kernel_rfl) (by kernel_rfl) (by kernel_rfl) (by rfl) hF0 ?_ ?_
      rotate_left
      · ((intro W hW; obtain ⟨k0, k1, k3, k4, k5, k6⟩ := hW; go_simp) <;> with_reducible rfl)
      simp only [Act.put, List.setIfInBounds_toArray, List.set_cons_zero, List.set_cons_succ]
      refine lexg_take (i := 1) (v := ?_) rfl (by decide) (by kernel_rfl) (by kernel_rfl) (by kernel_rfl) (by kernel_rfl) (by rfl) hF0 ?_ ?_
      rotate_left
      · ((intro W hW; obtain ⟨k0, k1, k3, k4, k5, k6⟩ := hW; go_simp) <;> with_reducible rfl)
      simp only [Act.put, List.setIfInBounds_toArray, List.set_cons_zero, List.set_cons_succ]
      refine lexg_take (i := 2) (v := ?_) rfl (by decide) (by kernel_rfl) (by kernel_rfl) (by kernel_rfl) (by kernel_rfl) (by rfl) hF0 ?_ ?_
      rotate_left
      · ((intro W hW; obtain ⟨k0, k1, k3, k4, k5, k6⟩ := hW; go_simp) <;> with_reducible rfl)
      simp only [Act.put, List.setIfInBounds_toArray, List.set_cons_zero, List.set_cons_succ]
      refine lexg_take (i := 3) (v := ?_) rfl (by decide) (by kernel_rfl) (by kernel_rfl) (by kernel_rfl) (by kernel_rfl) (by rfl) hF0 ?_ ?_
      rotate_left
      · ((intro W hW; obtain ⟨k0, k1, k3, k4, k5, k6⟩ := hW; go_simp) <;> with_reducible rfl)
      simp only [Act.put, List.setIfInBounds_toArray, List.set_cons_zero, List.set_cons_succ]
      refine lexg_take (i := 4) (v := ?_) rfl (by decide) (by kernel_rfl) (by kernel_rfl) (by kernel_rfl) (by kernel_rfl) (by rfl) hF0 ?_ ?_
      rotate_left
      · ((intro W hW; obtain ⟨k0, k1, k3, k4, k5, k6⟩ := hW; go_simp) <;> with_reducible rfl)
      simp only [Act.put, List.setIfInBounds_toArray, List.set_cons_zero, List.set_cons_succ]
      refine lexg_take (i := 5) (v := ?_) rfl (by decide) (by kernel_rfl) (by kernel_rfl) (by kernel_rfl) (by kernel_rfl) (by rfl) hF0 ?_ ?_
      rotate_left
      · ((intro W hW; obtain ⟨k0, k1, k3, k4, k5, k6⟩ := hW; go_simp) <;> with_reducible rfl)
      simp only [Act.put, List.setIfInBounds_toArray, List.set_cons_zero, List.set_cons_succ]
      refine lexg_take (i := 6) (v := ?_) rfl (by decide) (by kernel_rfl) (by kernel_rfl) (by kernel_rfl) (by kernel_rfl) (by rfl) hF0 ?_ ?_
      rotate_left
      · ((intro W hW; obtain ⟨k0, k1, k3, k4, k5, k6⟩ := hW; go_simp) <;> with_reducible rfl)
      simp only [Act.put, List.setIfInBounds_toArray, List.set_cons_zero, List.set_cons_succ]
      refine lexg_take (i := 7) (v := ?_) rfl (by decide) (by kernel_rfl) (by kernel_rfl) (by kernel_rfl) (by kernel_rfl) (by rfl) hF0 ?_ ?_
      rotate_left
      · ((intro W hW; obtain ⟨k0, k1, k3, k4, k5, k6⟩ := hW; go_simp) <;> with_reducible rfl)
      simp only [Act.put, List.setIfInBounds_toArray, List.set_cons_zero, List.set_cons_succ]
      refine lexg_take (i := 8) (v := ?_) rfl (by decide) (by kernel_rfl) (by kernel_rfl) (by kernel_rfl) (by kernel_rfl) (by rfl) hF0 ?_ ?_
      rotate_left
      · ((intro W hW; obtain ⟨k0, k1, k3, k4, k5, k6⟩ := hW; go_simp) <;> with_reducible rfl)
      simp only [Act.put, List.setIfInBounds_toArray, List.set_cons_zero, List.set_cons_succ]
      refine lexg_take (i := 9) (v := ?_) rfl (by decide) (by kernel_rfl) (by kernel_rfl) (by kernel_rfl) (by kernel_rfl) (by rfl) hF0 ?_ ?_
      rotate_left
      · ((intro W hW; obtain ⟨k0, k1, k3, k4, k5, k6⟩ := hW; go_simp) <;> with_reducible rfl)
      simp only [Act.put, List.setIfInBounds_toArray, List.set_cons_zero, List.set_cons_succ]
      refine lexg_take (i := 10) (v := ?_) rfl (by decide) (by kernel_rfl) (by kernel_rfl) (by kernel_rfl) (by kernel_rfl) (by rfl) hF0 ?_ ?_
      rotate_left
      · ((intro W hW; obtain ⟨k0, k1, k3, k4, k5, k6⟩ := hW; go_simp) <;> with_reducible rfl)
      simp only [Act.put, List.setIfInBounds_toArray, List.set_cons_zero, List.set_cons_succ]
      refine lexg_take (i := 11) (v := ?_) rfl (by decide) (by kernel_rfl) (by kernel_rfl) (by kernel_rfl) (by kernel_rfl) (by rfl) hF0 ?_ ?_
      rotate_left
      · ((intro W hW; obtain ⟨k0, k1, k3, k4, k5, k6⟩ := hW; go_simp) <;> with_reducible rfl)
      simp only [Act.put, List.setIfInBounds_toArray, List.set_cons_zero, List.set_cons_succ]
      refine lexg_take (i := 12) (v := ?_) rfl (by decide) (by kernel_rfl) (by kernel_rfl) (by kernel_rfl) (by kernel_rfl) (by rfl) hF0 ?_ ?_
      rotate_left
      · ((intro W hW; obtain ⟨k0, k1, k3, k4, k5, k6⟩ := hW; go_simp) <;> with_reducible rfl)
      simp only [Act.put, List.setIfInBounds_toArray, List.set_cons_zero, List.set_cons_succ]
      refine lexg_take (i := 15) (v := ?_) rfl (by decide) (by kernel_rfl) (by kernel_rfl) (by kernel_rfl) (by kernel_rfl) (by rfl) hF0 ?_ ?_
      rotate_left
      · ((intro W hW; obtain ⟨k0, k1, k3, k4, k5, k6⟩ := hW; go_simp) <;> with_reducible rfl)
      simp only [Act.put, List.setIfInBounds_toArray, List.set_cons_zero, List.set_cons_succ]
      refine lexg_do (i := 13) rfl (by kernel_rfl) (by rfl) (fun K hK => ?_)
      go_simp
      have bAC : Below wr.heap.size wr (wr.alloc (.cells #[.int .i64 (-1), .int .i64 0, .int .i64 0, .int .u64 0, .string ⟨#[]⟩, .slice none 0 0] 27)).drew := bmore (bZ wr _) (bd _)
      have hownC := own_hold HOWN.out (Hold.below bAC)
      have HBAC := Lib.hid bAC
      refine hK _ _ ⟨fun _ => HFK.out _ (fun o u h => bcellAt bAC h) (fun o u h => bcellAt bAC h), ?_⟩
      clear hK K
      refine lexg_do (i := 14) rfl (by kernel_rfl) (by rfl) (fun K hK => ?_)
      refine wp_append_at _ _ _ 22 rfl (w.heap.size + 3) TrT i0 (.agg #[.int .i64 0, .int .i64 0, .int .i64 0, .int .u64 0, .string ⟨#[]⟩, .slice none 0 0]) 6 72 Tryd.underlying22 hi0 hz0 hz1 hz2 rfl (by decide) (.slice ya k.len yc) k.len xs rfl hownC ⟨wr.heap.size, 0, none⟩ 1 1 [.int .i64 (-1), .int .i64 0, .int .i64 0, .int .u64 0, .string ⟨#[]⟩, .slice none 0 0] rfl (by decide) rfl (news6 wr.drew _ _ _ _ _ _ _) (by simp [Value.oneCell']) (by unfold maxLen; omega) (by omega) (by have := HSZ3.out; have := bAC.size; omega) ?_
      intro v3 w3 hown3 hg3 hp3
      obtain ⟨za, zc, rfl⟩ := (row_of_own hown3).shape
      have hyo : ∀ g, (Value.slice ya k.len yc).ownBlock = some g → w.heap.size + 3 ≤ g ∧ g < wr.heap.size := fun g e => by
        obtain ⟨hB, cur, hc⟩ := own_type HOWN.out e
        exact ⟨hB, (Array.getElem?_eq_some_iff.1 hc).1⟩
      have hkb : ∀ (b : Nat) (u : Obj), wr.heap[b]? = some u → (Value.slice ya k.len yc).ownBlock ≠ some b → w3.heap[b]? = some u := fun b u h hn => by
        have hl := (Array.getElem?_eq_some_iff.1 h).1
        rw [hg3.block b (Nat.lt_of_lt_of_le hl HBAC.out.size) (fun e => hn e.symm), HBAC.out.block b hl]; exact h
      have hb23 := hkb _ _ HBY.out (fun e => by have := (hyo _ e).1; omega)
      have hbx3 := hkb _ _ HBX.out (fun e => by have := (hyo _ e).1; omega)
      have hbz3 := hkb _ _ HBZ.out (fun e => by have := (hyo _ e).1; omega)
      have hF3 := HFK.out w3 (fun o u h => by rw [cell_of_heap (show w3.heap[w.heap.size]? = wr.heap[w.heap.size]? from by rw [hbx3, HBX.out])]; exact h) (fun o u h => by rw [cell_of_heap (show w3.heap[w.heap.size + 2]? = wr.heap[w.heap.size + 2]? from by rw [hbz3, HBZ.out])]; exact h)
      have hcap : k.len ≤ zc := by
        rcases (row_of_own hown3).2 with ⟨_, h0⟩ | ⟨b, off, cap, e, h3, h4, h5, h6⟩
        · omega
        · cases e; omega
      have hzc : zc ≤ 9223372036854775807 := by
        rcases (row_of_own hown3).2 with ⟨_, h0⟩ | ⟨b, off, cap, e, h3, h4, h5, h6⟩
        · omega
        · cases e; unfold maxLen at h5; omega
      have HKB := Lib.hid hkb
      have HYO := Lib.hid hyo
      have HG3 := Lib.hid hg3
      have HP3 := Lib.hid hp3
      have HOWN3 := Lib.hid hown3
      have HB23 := Lib.hid hb23
      clear hkb hyo hg3 hp3 hown3 hownC bAC r0 r1 r2 r3 r4 r5 q0 q1 q2 q3 q4 q5 hbx3 hbz3
      have hcapI : (k.len : Int) ≤ (zc : Int) := by omega
      refine hK _ _ ⟨fun _ => hF3, ?_⟩
      clear hK K
      try simp only [Act.put, List.setIfInBounds_toArray, List.set_cons_zero, List.set_cons_succ]
      refine lexg_take (i := 16) (v := ?_) rfl (by decide) (by kernel_rfl) (by kernel_rfl) (by kernel_rfl) (by kernel_rfl) (by rfl) hF3 ?_ ?_
      rotate_left
      · ((intro W hW; obtain ⟨k0, k1, k3, k4, k5, k6⟩ := hW; go_simp) <;> with_reducible rfl)
      simp only [Act.put, List.setIfInBounds_toArray, List.set_cons_zero, List.set_cons_succ]
      refine lexg_take (i := 17) (v := ?_) rfl (by decide) (by kernel_rfl) (by kernel_rfl) (by kernel_rfl) (by kernel_rfl) (by rfl) hF3 ?_ ?_
      rotate_left
      · ((intro W hW; obtain ⟨k0, k1, k3, k4, k5, k6⟩ := hW; go_simp) <;> with_reducible rfl)
      simp only [Act.put, List.setIfInBounds_toArray, List.set_cons_zero, List.set_cons_succ]
      have r0 := cellB (j := 0) hb23 rfl
      have q0 := frozenB (j := 0) hb23
      have r1 := cellB (j := 1) hb23 rfl
      have q1 := frozenB (j := 1) hb23
      have r2 := cellB (j := 2) hb23 rfl
      have q2 := frozenB (j := 2) hb23
      have r3 := cellB (j := 3) hb23 rfl
      have q3 := frozenB (j := 3) hb23
      have r4 := cellB (j := 4) hb23 rfl
      have q4 := frozenB (j := 4) hb23
      have r5 := cellB (j := 5) hb23 rfl
      have q5 := frozenB (j := 5) hb23
      refine lexg_do (i := 18) rfl (by kernel_rfl) (by rfl) (fun K hK => ?_)
      go_simp
      have h6 : ((((((w3.setCell ⟨w.heap.size + 1, 0, none⟩ (.int .i64 kk)).setCell ⟨w.heap.size + 1, 1, none⟩ (.int .i64 ff)).setCell ⟨w.heap.size + 1, 2, none⟩ (.int .i64 tt)).setCell ⟨w.heap.size + 1, 3, none⟩ (.int .u64 uu)).setCell ⟨w.heap.size + 1, 4, none⟩ (.string ss)).setCell ⟨w.heap.size + 1, 5, none⟩ (.slice za k.len zc)).heap[w.heap.size + 1]? = some (Obj.cells #[.int .i64 kk, .int .i64 ff, .int .i64 tt, .int .u64 uu, .string ss, .slice za k.len zc] TrT) := (setCellB (j := 5) (u := .slice za k.len zc) (setCellB (j := 4) (u := .string ss) (setCellB (j := 3) (u := .int .u64 uu) (setCellB (j := 2) (u := .int .i64 tt) (setCellB (j := 1) (u := .int .i64 ff) (setCellB (j := 0) (u := .int .i64 kk) hb23))))))
      have hg36 : w3.grownBy ((((((w3.setCell ⟨w.heap.size + 1, 0, none⟩ (.int .i64 kk)).setCell ⟨w.heap.size + 1, 1, none⟩ (.int .i64 ff)).setCell ⟨w.heap.size + 1, 2, none⟩ (.int .i64 tt)).setCell ⟨w.heap.size + 1, 3, none⟩ (.int .u64 uu)).setCell ⟨w.heap.size + 1, 4, none⟩ (.string ss)).setCell ⟨w.heap.size + 1, 5, none⟩ (.slice za k.len zc)) (some (w.heap.size + 1)) := ((((((grownBy_set _ _ _ _).trans (grownBy_set _ _ _ _)).trans (grownBy_set _ _ _ _)).trans (grownBy_set _ _ _ _)).trans (grownBy_set _ _ _ _)).trans (grownBy_set _ _ _ _))
      have hb3w : Below w.heap.size w w3 := ((HBR.out.trans (HBAC.out.mono (by omega))).grown HG3.out (by have := HBAC.out.size; omega) (fun g e => by have := (HYO.out g e).1; omega))
      have hb6 : Below w.heap.size w ((((((w3.setCell ⟨w.heap.size + 1, 0, none⟩ (.int .i64 kk)).setCell ⟨w.heap.size + 1, 1, none⟩ (.int .i64 ff)).setCell ⟨w.heap.size + 1, 2, none⟩ (.int .i64 tt)).setCell ⟨w.heap.size + 1, 3, none⟩ (.int .u64 uu)).setCell ⟨w.heap.size + 1, 4, none⟩ (.string ss)).setCell ⟨w.heap.size + 1, 5, none⟩ (.slice za k.len zc)) := ((((((hb3w.setCell (p := ⟨w.heap.size + 1, 0, none⟩) (Nat.le_succ _) _).setCell (p := ⟨w.heap.size + 1, 1, none⟩) (Nat.le_succ _) _).setCell (p := ⟨w.heap.size + 1, 2, none⟩) (Nat.le_succ _) _).setCell (p := ⟨w.heap.size + 1, 3, none⟩) (Nat.le_succ _) _).setCell (p := ⟨w.heap.size + 1, 4, none⟩) (Nat.le_succ _) _).setCell (p := ⟨w.heap.size + 1, 5, none⟩) (Nat.le_succ _) _)
      refine hK _ _ ⟨fun h => absurd rfl h, ?_⟩
      clear hK K r0 r1 r2 r3 r4 r5 q0 q1 q2 q3 q4 q5 hF3 hF0
      refine lexg_done (by kernel_rfl) ?_
      generalize ((((((w3.setCell ⟨w.heap.size + 1, 0, none⟩ (.int .i64 kk)).setCell ⟨w.heap.size + 1, 1, none⟩ (.int .i64 ff)).setCell ⟨w.heap.size + 1, 2, none⟩ (.int .i64 tt)).setCell ⟨w.heap.size + 1, 3, none⟩ (.int .u64 uu)).setCell ⟨w.heap.size + 1, 4, none⟩ (.string ss)).setCell ⟨w.heap.size + 1, 5, none⟩ (.slice za k.len zc)) = W6 at *
      have d0 := cellB (j := 0) h6 rfl
      have d1 := cellB (j := 1) h6 rfl
      have d2 := cellB (j := 2) h6 rfl
      have d3 := cellB (j := 3) h6 rfl
      have d4 := cellB (j := 4) h6 rfl
      have d5 := cellB (j := 5) h6 rfl
      go_wp2_with fail
      have hrow : RowF W6 (NewT w W6) done xs := HROW.out.keep (fun bb hg hl => by
        obtain ⟨p1, p2, cs, p3⟩ := hg
        have p4 : W6.heap[bb]? = some (Obj.cells cs TrT) := by
          have p5 := HKB.out _ _ p3 p2
          rw [hg36.block bb (Array.getElem?_eq_some_iff.1 p5).1 (fun e => by cases e; omega)]; exact p5
        exact ⟨⟨by omega, cs, p4⟩, by rw [p4, p3]⟩)
      have hown6 : W6.ownsRow (w.heap.size + 3) TrT 6 (.slice za (k.len + 1) zc) (k.len + 1) (xs ++ [.int .i64 (-1), .int .i64 0, .int .i64 0, .int .u64 0, .string ⟨#[]⟩, .slice none 0 0]) := own_kept HOWN3.out hg36 (fun r e e' => by cases e; have := (own_type HOWN3.out e').1; omega)
      refine bodyPost_ret (v := .agg #[.int .i64 kk, .int .i64 ff, .int .i64 tt, .int .u64 uu, .string ss, .slice za k.len zc]) (by simp [results, Tryd.results10, go_sem, d0, d1, d2, d3, d4, d5]) rfl ⟨_, rfl, ?_, hb6⟩
      have hfin := isK_row (G := NewT w W6) hown6 rfl (show done.length ≤ k.len + 1 by rw [HDK.out]; omega) hrow (fun b e => by
        obtain ⟨p1, cs, p2⟩ := own_type hown6 e
        exact ⟨by omega, cs, p2⟩)
      rw [HDK.out, ← HKA.out] at hfin
      exact hfin
theorem lent_all {N : Nat} (n : Nd) (k : Fo) : LentC N n k := tree_all lent_step n k
/-- A tree in new memory. -/
theorem lent_any (n : Nd) (k : Fo) {w : World} {v : Value} {G : Nat → Prop} (hk : IsK w G v k) (hs : k.size ≤ 6000) : Calls Tryd.prog 10 #[.agg (treeA n v)] w (LentPost w n k) :=
  lent_all n k w v (hk.keep fun b _ hl => ⟨hl, rfl⟩) (Nat.le_refl _) hs
theorem IsK.newT {w w' : World} {B : Nat} {v : Value} {k : Fo} (h : IsK w' (NewT w w') v k) : IsK w' (Safe w' B) v k := h.keep fun b hb _ => ⟨.inr hb.2, rfl⟩
end Go.Proofs.YtjpkeoenajlmeaaDoor
