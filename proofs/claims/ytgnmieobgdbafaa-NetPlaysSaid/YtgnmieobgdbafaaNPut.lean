/-
  A packet laid in, taken out.
-/
import Derived.Test.YtgnmieobgdbafaaNMem
import Derived.BigRegion
import Derived.Deep.Cut
namespace Go.Proofs.Ytgnmieobgdbafaa
open Go.RowKit
set_option linter.unusedVariables false
theorem in_len (l : List Pk) (i : Nat) (p : Pk) (h : i ≤ l.length) : (inP l i p).length = l.length + 1 := by unfold inP; simp; omega
theorem out_len (l : List Pk) (i : Nat) (h : i < l.length) : (outP l i).length = l.length - 1 := by unfold outP; simp; omega
theorem WentN.from_ {B a : Nat} {F H : Value} {y : Nt} {w w1 w2 : World} (ht : Touch (OwnN a F H) w w1) (h : WentN B a F H y w1 w2) : WentN B a F H y w w2 := by
  obtain ⟨F', H', i1, t1, o1⟩ := h
  exact ⟨F', H', i1, ht.trans t1, fun k hk => (o1 k hk).imp id (fun h => Nat.le_trans ht.size h)⟩
theorem WentN.fresh {B a k : Nat} {F H : Value} {x y : Nt} {w w1 w2 : World} (h0 : IsN w B a F H x) (h : WentN B a F H y w1 w2) (hk : w.heap.size ≤ k) (hlt : k < w1.heap.size) : ∀ F' H', IsN w2 B a F' H' y → (∀ j, OwnN a F' H' j → OwnN a F H j ∨ w1.heap.size ≤ j) → ¬ OwnN a F' H' k := fun F' H' _ ho e => by
  rcases ho k e with h1 | h1
  · have := (h0.own_lt h1).2; omega
  · omega
/-- A box of the call's own, older than the last step, was written. -/
theorem WentN.box2 {B a k : Nat} {F H : Value} {x y : Nt} {w w1 w2 w3 : World} (h0 : IsN w B a F H x) (hT : Touch (OwnN a F H) w w1) (h : WentN B a F H y w1 w2) (hk : w.heap.size ≤ k) (hlt : k < w1.heap.size) (ht : Touch (fun j => j = k) w2 w3) : WentN B a F H y w w3 := by
  obtain ⟨F', H', i1, t1, o1⟩ := h
  refine ⟨F', H', i1.keep ht (fun j hj e => ?_), (hT.trans t1).step ht (fun j hj => .inr (by omega)), fun j hj => (o1 j hj).imp id (fun h => Nat.le_trans hT.size h)⟩
  subst e
  rcases o1 j hj with h1 | h1
  · have := (h0.own_lt h1).2; omega
  · omega
theorem in_end (l : List Pk) (p : Pk) : inP l l.length p = l ++ [p] := by unfold inP; simp
theorem WentN.box {B a k : Nat} {F H : Value} {x y : Nt} {w w1 w' : World} (h0 : IsN w B a F H x) (h : WentN B a F H y w1 w') (hk : w.heap.size ≤ k) (hlt : k < w1.heap.size) : w'.heap[k]? = w1.heap[k]? := by
  obtain ⟨F', H', i1, t1, o1⟩ := h
  exact t1.block k hlt (fun e => by have := (h0.own_lt e).2; omega)
theorem pk5 {w : World} {k : Nat} {p : Pk} (h : w.heap[k]? = some (.cells #[.int .i64 p.id, .int .i64 (p.fr : Int), .int .i64 (p.tt : Int), .string p.bd, .int .i64 p.hl] PkT)) : w.cell? ⟨k, 0, none⟩ = some (.int .i64 p.id) ∧ w.cell? ⟨k, 1, none⟩ = some (.int .i64 (p.fr : Int)) ∧ w.cell? ⟨k, 2, none⟩ = some (.int .i64 (p.tt : Int)) ∧ w.cell? ⟨k, 3, none⟩ = some (.string p.bd) ∧ w.cell? ⟨k, 4, none⟩ = some (.int .i64 p.hl) :=
  ⟨cellB (j := 0) h rfl, cellB (j := 1) h rfl, cellB (j := 2) h rfl, cellB (j := 3) h rfl, cellB (j := 4) h rfl⟩
theorem frz5 {w : World} {k : Nat} {cs : Array Value} {T : TypeId} (h : w.heap[k]? = some (.cells cs T)) : w.frozen? ⟨k, 0, none⟩ = false ∧ w.frozen? ⟨k, 1, none⟩ = false ∧ w.frozen? ⟨k, 2, none⟩ = false ∧ w.frozen? ⟨k, 3, none⟩ = false ∧ w.frozen? ⟨k, 4, none⟩ = false :=
  ⟨frozenB (j := 0) h, frozenB (j := 1) h, frozenB (j := 2) h, frozenB (j := 3) h, frozenB (j := 4) h⟩
/-- A packet laid into a box. -/
def setB (w : World) (k : Nat) (p : Pk) : World := ((((w.setCell ⟨k, 0, none⟩ (.int .i64 p.id)).setCell ⟨k, 1, none⟩ (.int .i64 (p.fr : Int))).setCell ⟨k, 2, none⟩ (.int .i64 (p.tt : Int))).setCell ⟨k, 3, none⟩ (.string p.bd)).setCell ⟨k, 4, none⟩ (.int .i64 p.hl)
theorem setB_touch (w : World) (k : Nat) (p : Pk) : Touch (fun j => j = k) w (setB w k p) := touch5 w k 0 p (fun j => j = k) rfl
theorem setB_is {w : World} {k : Nat} {q p : Pk} (h : w.heap[k]? = some (.cells #[.int .i64 q.id, .int .i64 (q.fr : Int), .int .i64 (q.tt : Int), .string q.bd, .int .i64 q.hl] PkT)) : (setB w k p).heap[k]? = some (.cells #[.int .i64 p.id, .int .i64 (p.fr : Int), .int .i64 (p.tt : Int), .string p.bd, .int .i64 p.hl] PkT) := by
  have := setCellB (j := 4) (u := .int .i64 p.hl) (setCellB (j := 3) (u := .string p.bd) (setCellB (j := 2) (u := .int .i64 (p.tt : Int)) (setCellB (j := 1) (u := .int .i64 (p.fr : Int)) (setCellB (j := 0) (u := .int .i64 p.id) h))))
  unfold setB; simpa using this
/-- A box of the call's own was written. -/
theorem WentN.boxed {B a k : Nat} {F H : Value} {x y : Nt} {w w1 w2 : World} (h0 : IsN w B a F H x) (h : WentN B a F H y w w1) (hk : w.heap.size ≤ k) (hf : ∀ F' H', IsN w1 B a F' H' y → ¬ OwnN a F' H' k) (ht : Touch (fun j => j = k) w1 w2) : WentN B a F H y w w2 := by
  obtain ⟨F', H', i1, t1, o1⟩ := h
  exact ⟨F', H', i1.keep ht (fun j hj e => hf F' H' i1 (e ▸ hj)), t1.step ht (fun j hj => .inr (by omega)), o1⟩
theorem in_copy (l : List Pk) (i : Nat) (p z : Pk) (h : i ≤ l.length) : ((l ++ [z]).take (i + 1) ++ l.drop i ++ (l ++ [z]).drop (i + 1 + (l.drop i).length)).set i p = inP l i p := by
  have e1 : (l ++ [z]).drop (i + 1 + (l.drop i).length) = [] := List.drop_eq_nil_of_le (by simp; omega)
  have hlt : i < (l ++ [z]).length := by simp; omega
  have e2 : (l ++ [z]).take (i + 1) = l.take i ++ [(l ++ [z])[i]] := by
    rw [← List.take_append_getElem hlt, List.take_append_of_le_length h]
  rw [e1, e2, List.append_nil]
  have e3 : (l.take i).length = i := by simp; omega
  generalize (l ++ [z])[i] = q
  unfold inP
  rw [List.append_assoc, List.set_append_right _ _ (by omega), e3, Nat.sub_self]
  rfl
theorem in_copy_len (l : List Pk) (i : Nat) (z : Pk) (h : i ≤ l.length) : ((l ++ [z]).take (i + 1) ++ l.drop i ++ (l ++ [z]).drop (i + 1 + (l.drop i).length)).length = l.length + 1 := by simp; omega
abbrev zC : Array Value := #[.int .i64 0, .int .i64 0, .int .i64 0, .string ⟨#[]⟩, .int .i64 0]
abbrev pkCells (p : Pk) : Array Value := #[.int .i64 p.id, .int .i64 (p.fr : Int), .int .i64 (p.tt : Int), .string p.bd, .int .i64 p.hl]
set_option maxRecDepth 100000 in
set_option maxHeartbeats 3200000 in
theorem layIn_any {w : World} {B a : Nat} {F H : Value} {x : Nt} (h : IsN w B a F H x) (hB : B ≤ w.heap.size) (i : Nat) (hi : i ≤ x.fl.length) (hl : x.fl.length ≤ 5000) (p : Pk) :
    Calls Try.prog 48 #[.pointer (some ⟨a, 0, none⟩), .int .i64 (i : Int), p.val] w fun e w' => e = .returned (.tuple #[]) ∧ WentN B a F H { x with fl := inP x.fl i p } w w' := by
  have b0 : Below w.heap.size w (w.alloc (.cells (pkCells p) PkT)) := (Below.refl _ _).alloc (Nat.le_refl _) _
  have b1 : Below w.heap.size w ((w.alloc (.cells (pkCells p) PkT)).alloc (.cells (zC) PkT)) := b0.alloc (by simp) _
  have hsz : ((w.alloc (.cells (pkCells p) PkT)).alloc (.cells (zC) PkT)).heap.size = w.heap.size + 2 := by simp
  have z0 : ((w.alloc (.cells (pkCells p) PkT)).alloc (.cells (zC) PkT)).heap[w.heap.size]? = some (.cells (pkCells p) PkT) := by
    rw [((Below.refl _ _).alloc (Nat.le_refl _) _ : Below (w.alloc (.cells (pkCells p) PkT)).heap.size (w.alloc (.cells (pkCells p) PkT)) _).block _ (by simp)]; exact heap_alloc_new _ _
  have z1 : ((w.alloc (.cells (pkCells p) PkT)).alloc (.cells (zC) PkT)).heap[w.heap.size + 1]? = some (.cells (zC) PkT) := by
    have e : w.heap.size + 1 = (w.alloc (.cells (pkCells p) PkT)).heap.size := by simp
    rw [e]; exact heap_alloc_new _ _
  have h1 := h.below b1
  have c1 := bcellAt b0 h.c0.2.1
  have HX := Lib.hid h1
  have H0 := Lib.hid h
  have HLT := Lib.hid h.lt
  have B1 := Lib.hid b1
  have Z0 := Lib.hid z0
  have Z1 := Lib.hid z1
  have HSZ := Lib.hid hsz
  have HBB := Lib.hid hB
  have HL := Lib.hid hl
  have HI := Lib.hid hi
  clear h h1 b0 b1 z0 z1 hsz hB hl hi
  go_enter Try.func48, Try.ntmps48
  go_wp2_with (at_builtin; refine wpList_app1 rfl _ _ rfl B F x.fl rfl HX.out.rowF (w.heap.size + 1) zeroP rfl Z1.out (Nat.le_trans HL.out (by decide)) (Nat.le_trans HBB.out B1.out.size) ?_)
  intro v' w' o'' g' at''
  have o' : w'.ownsRow B PkT 5 v' (x.fl ++ [zeroP]).length (pks (x.fl ++ [zeroP])) := by rw [List.length_append]; exact o''
  have at' : v'.ownBlock = F.ownBlock ∨ v'.ownBlock = some (w.heap.size + 2) := at''
  clear o'' at''
  have t1 := touch_of_grown g' (fun k => F.ownBlock = some k) (fun k hk => hk)
  have h2 := HX.out.newF t1 o' (fun k hk => by rcases at' with e | e; exact .inl (e ▸ hk); exact .inr (by rw [e] at hk; cases hk; exact Nat.le_of_eq HSZ.out))
  have hlt1 : a < ((w.alloc (.cells (pkCells p) PkT)).alloc (.cells (zC) PkT)).heap.size := HX.out.lt
  have ha' := g'.block a hlt1 (fun e => HX.out.ne_row.1 e.symm)
  have ca := HX.out.c0.2.1
  have fa := HX.out.frz 1
  have ca' : w'.cell? ⟨a, 1, none⟩ = some F := by unfold World.cell? at ca ⊢; rw [ha']; exact ca
  have fa' : w'.frozen? ⟨a, 1, none⟩ = false := by unfold World.frozen? at fa ⊢; rw [ha']; exact fa
  have zb := (g'.block w.heap.size (Nat.lt_of_lt_of_eq (show w.heap.size < w.heap.size + 2 by omega) HSZ.out.symm) (fun e => by have := own_from H0.out.rowF e.symm; omega)).trans Z0.out
  obtain ⟨gg, gc, rfl⟩ := own_slice o' (by simp)
  have TT : Hid (Touch (OwnN a F H) w (w'.setCell ⟨a, 1, none⟩ (.slice (some ⟨gg, 0, none⟩) (x.fl ++ [zeroP]).length gc))) := Lib.hid (((touch_of_below B1.out _).trans (t1.mono (fun k _ hk => .inr (.inl hk)))).trans (touch_set _ _ _ _ _ (.inl rfl)))
  have HNW : Hid (∀ k, (Value.slice (some ⟨gg, 0, none⟩) (x.fl ++ [zeroP]).length gc).ownBlock = some k → F.ownBlock = some k ∨ w.heap.size ≤ k) := Lib.hid (fun k hk => by rcases at' with e | e; exact .inl (e ▸ hk); exact .inr (by rw [e] at hk; cases hk; have := HSZ.out; omega))
  have ZB := Lib.hid (show (w'.setCell ⟨a, 1, none⟩ (.slice (some ⟨gg, 0, none⟩) (x.fl ++ [zeroP]).length gc)).heap[w.heap.size]? = some (.cells (pkCells p) PkT) from by
    rw [Below.heap_setCell _ _ _ _ (show w.heap.size ≠ a from by have := HLT.out; omega)]; exact zb)
  have H2 := Lib.hid h2
  obtain ⟨hla, _, _, _⟩ := laid_of_own h2.rowF
  have HLA := Lib.hid hla
  have HNE := Lib.hid (show gg ≠ a from fun e => h2.ne_row.1 (by rw [e]; rfl))
  have HCAP := Lib.hid (show x.fl.length + 1 ≤ gc from by obtain ⟨_, _, _, q, _⟩ := hla; have q' : (x.fl ++ [zeroP]).length ≤ gc := q; simpa using q')
  have HGW := Lib.hid (show gg ≠ w.heap.size from fun e => by
    rcases at' with e3 | e3
    · have := (own_from H0.out.rowF (k := gg) (by rw [← e3]; rfl)).2; omega
    · have e4 : gg = w.heap.size + 2 := by simpa [Value.ownBlock] using e3
      omega)
  clear t1 h2 hlt1 ha' ca fa zb o' g' at' hla
  generalize hV : (x.fl ++ [zeroP]).length = n1 at *
  have HV := Lib.hid hV
  clear hV
  go_wp2_with fail
  generalize (w'.setCell ⟨a, 1, none⟩ (.slice (some ⟨gg, 0, none⟩) n1 gc)) = W at *
  clear ca' fa'
  have KK : Hid (∀ V : World, Touch (fun k => k = gg) W V → V.cell? ⟨a, 1, none⟩ = some (.slice (some ⟨gg, 0, none⟩) n1 gc)) := Lib.hid (fun V hV => by
    have e := hV.block a H2.out.lt (fun e => HNE.out e.symm)
    have k1 := H2.out.c0.2.1
    unfold World.cell? at k1 ⊢; rw [e]; exact k1)
  obtain rfl : n1 = x.fl.length + 1 := by have := HV.out; simpa using this.symm
  have hw1 : IntKind.i64.wrap ((i : Int) + 1) = ((i + 1 : Nat) : Int) := by rw [show (i : Int) + 1 = ((i + 1 : Nat) : Int) by omega]; exact IntWalk.i64_in _ (by have := HI.out; have := HL.out; omega)
  have s1 := fun V => run_dropP (g := gg) (cap := gc) (n := x.fl.length + 1) (k := i + 1) (by have := HI.out; omega) HCAP.out V
  have s2 := fun V => run_dropP (g := gg) (cap := gc) (n := x.fl.length + 1) (k := i) (by have := HI.out; omega) HCAP.out V
  have kd := KK.out W.drew (touch_drew W _)
  have j0 : (0 : Int) ≤ (i : Int) + 1 := by omega
  have j1 : i ≤ x.fl.length := HI.out
  have j2 : (0 : Int) ≤ (i : Int) := by omega
  have j3 : i ≤ x.fl.length + 1 := by have := HI.out; omega
  have j4 : (i : Int) ≤ (x.fl.length : Int) + 1 := by have := HI.out; omega
  refine li_start [0, 1, 2, 3, 4, 5, 6, 7, 8, 9, 10, 11, 12, 13] (S := fun V => V.cell? ⟨a, 1, none⟩ = some (.slice (some ⟨gg, 0, none⟩) (x.fl.length + 1) gc)) (by kernel_rfl) kd ?_
  simp only [inOrder, List.filterMap, List.getElem?_cons_succ, List.getElem?_cons_zero]
  iterate 13 (refine li_take rfl (by kernel_rfl) (by rfl) kd (by (intro V s0; go_simp) <;> with_reducible rfl) ?_); simp only [Act.put, List.setIfInBounds_toArray, List.set_cons_zero, List.set_cons_succ]
  refine li_do rfl (by kernel_rfl) (by rfl) (fun K hK => ?_)
  refine wp_copyP (.tmp 22) (.tmp 28) rfl _ _ _ _ _ _ rfl rfl (g := gg) (cap := gc) (k := i + 1) (L := x.fl ++ [zeroP]) (M := x.fl.drop i) (HLA.out.below (bd W)) (by simp; omega) (by rw [List.length_drop]; exact (Nat.min_eq_right (by omega)).symm) (fun h0 => ?_) ?_
  · have hlt : i < x.fl.length := by rw [List.length_drop] at h0; omega
    have hc := HCAP.out
    refine ⟨if_neg (by omega), gg, i * 5, by rw [if_neg (by omega)], fun j u hj => ?_⟩
    refine (HLA.out.below (bd W)).cells ?_
    have e : pks (x.fl ++ [zeroP]) = pks (x.fl.take i) ++ (pks (x.fl.drop i) ++ pks [zeroP]) := by rw [← pks_append, ← pks_append, ← List.append_assoc, List.take_append_drop]
    have e2 : (pks (x.fl.take i)).length = i * 5 := by rw [pks_len]; simp; omega
    rw [e, List.getElem?_append_right (by omega), e2, Nat.add_sub_cancel_left, List.getElem?_append_left (List.getElem?_eq_some_iff.1 hj).1]
    exact hj
  intro W2 hl2 ht2
  have k2 := KK.out W2 ((touch_drew W _).trans ht2)
  refine hK _ _ ⟨k2, ?_⟩
  clear hK K s1 s2 kd
  refine li_done (by kernel_rfl) ?_
  have HL2 := Lib.hid hl2
  have T2 := Lib.hid ((touch_drew W (fun k => k = gg)).trans ht2)
  have hi2 : i < ((x.fl ++ [zeroP]).take (i + 1) ++ x.fl.drop i ++ (x.fl ++ [zeroP]).drop (i + 1 + (x.fl.drop i).length)).length := by rw [in_copy_len _ _ _ j1]; omega
  have HI2 := Lib.hid hi2
  obtain ⟨m0, m1, m2, m3, m4⟩ := hl2.at5 (List.getElem?_eq_getElem hi2)
  generalize ((x.fl ++ [zeroP]).take (i + 1) ++ x.fl.drop i ++ (x.fl ++ [zeroP]).drop (i + 1 + (x.fl.drop i).length))[i] = q at *
  have f0 := hl2.frz (i * 5)
  have f1 := hl2.frz (i * 5 + 1)
  have f2 := hl2.frz (i * 5 + 2)
  have f3 := hl2.frz (i * 5 + 3)
  have f4 := hl2.frz (i * 5 + 4)
  have zb := (T2.out.block w.heap.size (Array.getElem?_eq_some_iff.1 ZB.out).1 (fun e => HGW.out e.symm)).trans ZB.out
  have n0 := cellB (j := 0) zb rfl
  have n1 := cellB (j := 1) zb rfl
  have n2 := cellB (j := 2) zb rfl
  have n3 := cellB (j := 3) zb rfl
  have n4 := cellB (j := 4) zb rfl
  have j5 : (i : Int) < (x.fl.length : Int) + 1 := by omega
  have j6 : i < x.fl.length + 1 := by omega
  clear hl2 ht2 hi2 zb hw1
  generalize (if gc = i + 1 then some (⟨gg, 0, none⟩ : Addr) else some ⟨gg, (i + 1) * 5, none⟩) = dd1
  generalize (if gc = i then (⟨gg, 0, none⟩ : Addr) else ⟨gg, i * 5, none⟩) = dd2
  have HEND : Hid (WentN B a F H { x with fl := inP x.fl i p } w (((((W2.setCell ⟨gg, i * 5, none⟩ (.int .i64 p.id)).setCell ⟨gg, i * 5 + 1, none⟩ (.int .i64 (p.fr : Int))).setCell ⟨gg, i * 5 + 2, none⟩ (.int .i64 (p.tt : Int))).setCell ⟨gg, i * 5 + 3, none⟩ (.string p.bd)).setCell ⟨gg, i * 5 + 4, none⟩ (.int .i64 p.hl)).drew) := Lib.hid (by
    have hs := (HL2.out.set (k := i) p HI2.out).below (bd _)
    rw [in_copy _ _ _ _ j1] at hs
    have t3 : Touch (fun k => k = gg) W2 (((((W2.setCell ⟨gg, i * 5, none⟩ (.int .i64 p.id)).setCell ⟨gg, i * 5 + 1, none⟩ (.int .i64 (p.fr : Int))).setCell ⟨gg, i * 5 + 2, none⟩ (.int .i64 (p.tt : Int))).setCell ⟨gg, i * 5 + 3, none⟩ (.string p.bd)).setCell ⟨gg, i * 5 + 4, none⟩ (.int .i64 p.hl)).drew :=
      (touch5 W2 gg (i * 5) p (fun k => k = gg) rfl).trans (touch_drew _ _)
    have t4 := T2.out.trans t3
    refine ⟨_, H, H2.out.wroteF t4 hs (by rw [in_len _ _ _ j1]), TT.out.step t4 (fun k hk => ?_), fun k hk => ?_⟩
    · subst hk; exact (HNW.out k rfl).elim (fun e => .inl (.inr (.inl e))) .inr
    · rcases hk with rfl | hk | hk
      · exact .inl (.inl rfl)
      · exact (HNW.out k hk).elim (fun e => .inl (.inr (.inl e))) .inr
      · exact .inl (.inr (.inr hk)))
  go_wp2_with fail
  go_region
  all_goals
    go_end0
    exact ⟨rfl, HEND.out⟩
theorem out_copy {l A C : List Pk} {p : Pk} (h : l = A ++ p :: C) : ∃ q, l.take A.length ++ C ++ l.drop (A.length + C.length) = A ++ C ++ [q] := by
  have h1 : l.take A.length = A := by rw [h, List.take_append_of_le_length (Nat.le_refl _), List.take_length]
  have h2 : (l.drop (A.length + C.length)).length = 1 := by rw [h]; simp
  obtain ⟨q, hq⟩ := List.length_eq_one_iff.1 h2
  exact ⟨q, by rw [h1, hq]⟩
set_option maxRecDepth 100000 in
set_option maxHeartbeats 3200000 in
theorem takeOut_any {w : World} {B a : Nat} {F H : Value} {x : Nt} (h : IsN w B a F H x) {A C : List Pk} {p : Pk} (hsp : x.fl = A ++ p :: C) (hl : x.fl.length ≤ 5000) :
    Calls Try.prog 46 #[.pointer (some ⟨a, 0, none⟩), .int .i64 (A.length : Int)] w fun e w' => e = .returned p.val ∧ WentN B a F H { x with fl := A ++ C } w w' := by
  have hlen : x.fl.length = A.length + C.length + 1 := by rw [hsp]; simp; omega
  obtain ⟨gg, gc, rfl⟩ := own_slice h.rowF (by omega)
  obtain ⟨hla, _, _, _⟩ := laid_of_own h.rowF
  have hcap : x.fl.length ≤ gc := by obtain ⟨_, _, _, q, _⟩ := hla; exact q
  have b0 : Below w.heap.size w (w.alloc (.cells zC PkT)) := (Below.refl _ _).alloc (Nat.le_refl _) _
  have b1 : Below w.heap.size w ((w.alloc (.cells zC PkT)).alloc (.cells (pkCells p) PkT)) := b0.alloc (by simp) _
  have hsz : ((w.alloc (.cells zC PkT)).alloc (.cells (pkCells p) PkT)).heap.size = w.heap.size + 2 := by simp
  have z0 : ((w.alloc (.cells zC PkT)).alloc (.cells (pkCells p) PkT)).heap[w.heap.size]? = some (.cells zC PkT) := by
    rw [((Below.refl _ _).alloc (Nat.le_refl _) _ : Below (w.alloc (.cells zC PkT)).heap.size (w.alloc (.cells zC PkT)) _).block _ (by simp)]; exact heap_alloc_new _ _
  have z1 : ((w.alloc (.cells zC PkT)).alloc (.cells (pkCells p) PkT)).heap[w.heap.size + 1]? = some (.cells (pkCells p) PkT) := by
    have e : w.heap.size + 1 = (w.alloc (.cells zC PkT)).heap.size := by simp
    rw [e]; exact heap_alloc_new _ _
  have c1 := bcellAt b0 h.c0.2.1
  obtain ⟨t0, t1, t2, t3, t4⟩ := (hla.below b0).at5 (k := A.length) (t := p) (by rw [hsp, List.getElem?_append_right (Nat.le_refl _)]; simp)
  have HX := Lib.hid (h.below b1)
  have H0 := Lib.hid h
  have HLA := Lib.hid (hla.below b1)
  have HGL := Lib.hid hla.lt
  have B1 := Lib.hid b1
  have Z0 := Lib.hid z0
  have Z1 := Lib.hid z1
  have HSZ := Lib.hid hsz
  have HL := Lib.hid hl
  have HLEN := Lib.hid hlen
  have HSP := Lib.hid hsp
  have HCAP := Lib.hid hcap
  have HNE := Lib.hid (show gg ≠ a from fun e => h.ne_row.1 (by rw [e]; rfl))
  have i0 : (0 : Int) ≤ (A.length : Int) := by omega
  have i1 : (A.length : Int) < (x.fl.length : Int) := by omega
  have i2 : A.length < x.fl.length := by omega
  clear h b0 b1 z0 z1 hsz hl hlen hsp hcap hla
  go_enter Try.func46, Try.ntmps46
  go_wp2_with fail
  clear c1 t0 t1 t2 t3 t4
  generalize ((w.alloc (.cells zC PkT)).alloc (.cells (pkCells p) PkT)) = W at *
  generalize hn : x.fl.length = n at *
  have HN := Lib.hid hn
  clear hn
  have KK : Hid (∀ V : World, Touch (fun k => k = gg) W V → V.cell? ⟨a, 1, none⟩ = some (.slice (some ⟨gg, 0, none⟩) n gc)) := Lib.hid (fun V hV => by
    have e := hV.block a HX.out.lt (fun e => HNE.out e.symm)
    have k1 := HX.out.c0.2.1
    unfold World.cell? at k1 ⊢; rw [e]; exact k1)
  have hw1 : IntKind.i64.wrap ((A.length : Int) + 1) = ((A.length + 1 : Nat) : Int) := by rw [show (A.length : Int) + 1 = ((A.length + 1 : Nat) : Int) by omega]; exact IntWalk.i64_in _ (by have := HL.out; omega)
  have s1 := fun V => run_dropP (g := gg) (cap := gc) (n := n) (k := A.length) (by omega) HCAP.out V
  have s2 := fun V => run_dropP (g := gg) (cap := gc) (n := n) (k := A.length + 1) (by omega) HCAP.out V
  have kd := KK.out W.drew (touch_drew W _)
  have j0 : (0 : Int) ≤ (A.length : Int) + 1 := by omega
  have j1 : A.length ≤ n := by omega
  have j2 : A.length + 1 ≤ n := by omega
  have j3 : (A.length : Int) ≤ (n : Int) := by omega
  have j4 : (A.length : Int) + 1 ≤ (n : Int) := by omega
  refine li_start [0, 1, 2, 3, 4, 5, 6, 7, 8, 9, 10, 11, 12, 13, 14, 15, 16] (S := fun V => V.cell? ⟨a, 1, none⟩ = some (.slice (some ⟨gg, 0, none⟩) n gc)) (by kernel_rfl) kd ?_
  simp only [inOrder, List.filterMap, List.getElem?_cons_succ, List.getElem?_cons_zero]
  iterate 14 (refine li_take rfl (by kernel_rfl) (by rfl) kd (by (intro V s0; go_simp) <;> with_reducible rfl) ?_); simp only [Act.put, List.setIfInBounds_toArray, List.set_cons_zero, List.set_cons_succ]
  refine li_do rfl (by kernel_rfl) (by rfl) (fun K hK => ?_)
  refine wp_copyP (.tmp 20) (.tmp 27) rfl _ _ _ _ _ _ rfl rfl (g := gg) (cap := gc) (k := A.length) (L := x.fl) (M := C) (HLA.out.below (bd W)) (by have := HLEN.out; have := HN.out; omega) (by have := HLEN.out; have := HN.out; exact (Eq.trans (Nat.min_eq_left (by omega)) (by omega)).symm) (fun h0 => ?_) ?_
  · have hc := HCAP.out
    have hl2 := HLEN.out
    have hn2 := HN.out
    refine ⟨by rw [if_neg (by omega)], gg, (A.length + 1) * 5, by rw [if_neg (by omega)], fun j u hj => ?_⟩
    refine (HLA.out.below (bd W)).cells ?_
    have e : pks x.fl = pks (A ++ [p]) ++ pks C := by rw [← pks_append, HSP.out]; simp
    have e2 : (pks (A ++ [p])).length = (A.length + 1) * 5 := by rw [pks_len]; simp
    rw [e, List.getElem?_append_right (by omega), e2, Nat.add_sub_cancel_left]
    exact hj
  intro W2 hl2 ht2
  have k2 := KK.out W2 ((touch_drew W _).trans ht2)
  refine hK _ _ ⟨k2, ?_⟩
  clear hK K s1 s2 kd
  simp only [Act.put, List.setIfInBounds_toArray, List.set_cons_zero, List.set_cons_succ]
  have hw2 : IntKind.i64.wrap ((A.length : Int) + (C.length : Int)) = ((A.length + C.length : Nat) : Int) := by rw [show (A.length : Int) + (C.length : Int) = ((A.length + C.length : Nat) : Int) by omega]; exact IntWalk.i64_in _ (by have := HL.out; have := HLEN.out; have := HN.out; omega)
  iterate 2 (refine li_take rfl (by kernel_rfl) (by rfl) k2 (by (intro V s0; go_simp) <;> with_reducible rfl) ?_); simp only [Act.put, List.setIfInBounds_toArray, List.set_cons_zero, List.set_cons_succ]
  refine li_done (by kernel_rfl) ?_
  obtain ⟨q, hq⟩ := out_copy HSP.out
  rw [hq] at hl2
  have HL2 := Lib.hid hl2
  have T2 := Lib.hid ((touch_drew W (fun k => k = gg)).trans ht2)
  rw [show (A.length : Int) + (C.length : Int) = ((A.length + C.length : Nat) : Int) by omega]
  obtain ⟨m, hm⟩ : ∃ m, m = A.length + C.length := ⟨_, rfl⟩
  rw [← hm]
  have HM := Lib.hid hm
  have hqm : (A ++ C ++ [q])[m]? = some q := by rw [List.getElem?_append_right (by simp; omega)]; simp [hm]
  obtain ⟨m0, m1, m2, m3, m4⟩ := hl2.at5 hqm
  have f0 := hl2.frz (m * 5)
  have f1 := hl2.frz (m * 5 + 1)
  have f2 := hl2.frz (m * 5 + 2)
  have f3 := hl2.frz (m * 5 + 3)
  have f4 := hl2.frz (m * 5 + 4)
  have l0 : (0 : Int) ≤ (m : Int) := by omega
  have l1 : (m : Int) < (n : Int) := by have := HLEN.out; omega
  have l2 : m < n := by have := HLEN.out; omega
  have l3 : m ≤ n := by omega
  have l4 : (m : Int) ≤ (n : Int) := by omega
  have HL4 := Lib.hid l2
  have s3 := fun V => run_takeP (g := gg) (cap := gc) (n := n) (k := m) l3 HCAP.out V
  obtain ⟨W3, hW3⟩ : ∃ W3, W3 = (((((W2.setCell ⟨gg, m * 5, none⟩ (.int .i64 0)).setCell ⟨gg, m * 5 + 1, none⟩ (.int .i64 0)).setCell ⟨gg, m * 5 + 2, none⟩ (.int .i64 0)).setCell ⟨gg, m * 5 + 3, none⟩ (.string ⟨#[]⟩)).setCell ⟨gg, m * 5 + 4, none⟩ (.int .i64 0)) := ⟨_, rfl⟩
  have HS : Hid (LaidP W3 gg gc (A ++ C ++ [zeroP])) := Lib.hid (by
    have := HL2.out.set (k := m) zeroP (by simp; omega)
    rw [hW3]
    rw [List.set_append_right _ _ (by simp; omega), show m - (A ++ C).length = 0 by simp; omega] at this
    exact this)
  have T3 : Hid (Touch (fun k => k = gg) W W3) := Lib.hid (by rw [hW3]; exact T2.out.trans (touch5 W2 gg (m * 5) zeroP (fun k => k = gg) rfl))
  have HW3 := Lib.hid hW3
  clear hW3
  generalize (if gc = A.length then (⟨gg, 0, none⟩ : Addr) else ⟨gg, A.length * 5, none⟩) = dd1
  generalize (if gc = A.length + 1 then some (⟨gg, 0, none⟩ : Addr) else some ⟨gg, (A.length + 1) * 5, none⟩) = dd2
  clear hl2 ht2 hqm hw1 hw2 i0 i1 i2 j0 j1 j2 j3 j4 hm
  go_upto_region 4 with fail
  rw [← HW3.out]
  have H3 := Lib.hid (HX.out.wroteF (n := n) T3.out HS.out (by simp; have := HLEN.out; omega))
  have H4 := Lib.hid (H3.out.newF (v := .slice (some ⟨gg, 0, none⟩) m gc) (L := A ++ C) (Touch.refl _ W3) (by
    have ho := own_of_laid (B := B) HS.out.short (laid_of_own H0.out.rowF).2.1 (laid_of_own H0.out.rowF).2.2.1
    rw [show (A ++ C).length = m by simp; have := HM.out; omega] at ho ⊢
    exact ho) (fun k hk => .inl hk))
  have T4 : Hid (Touch (fun k => k = a ∨ k = gg) W (W3.setCell ⟨a, 1, none⟩ (.slice (some ⟨gg, 0, none⟩) m gc))) := Lib.hid ((T3.out.mono (fun k _ hk => .inr hk)).trans (touch_set W3 a 1 _ _ (.inl rfl)))
  have k3 := KK.out W3 T3.out
  have fa := H3.out.frz 1
  go_upto_region 5 with fail
  clear k2 k3 fa m0 m1 m2 m3 m4 f0 f1 f2 f3 f4 s3
  generalize (W3.setCell ⟨a, 1, none⟩ (.slice (some ⟨gg, 0, none⟩) m gc)) = W4 at *
  have zb := (T4.out.block w.heap.size (Nat.lt_of_lt_of_eq (show w.heap.size < w.heap.size + 2 by omega) HSZ.out.symm) (fun e => by have := H0.out.lt; have := HGL.out; omega)).trans Z0.out
  have zp := (T4.out.block (w.heap.size + 1) (Nat.lt_of_lt_of_eq (show w.heap.size + 1 < w.heap.size + 2 by omega) HSZ.out.symm) (fun e => by have := H0.out.lt; have := HGL.out; omega)).trans Z1.out
  have n0 := cellB (j := 0) zb rfl
  have n1 := cellB (j := 1) zb rfl
  have n2 := cellB (j := 2) zb rfl
  have n3 := cellB (j := 3) zb rfl
  have n4 := cellB (j := 4) zb rfl
  have p0 := cellB (j := 0) zp rfl
  have p1 := cellB (j := 1) zp rfl
  have p2 := cellB (j := 2) zp rfl
  have p3 := cellB (j := 3) zp rfl
  have p4 := cellB (j := 4) zp rfl
  have f0 := frozenB (j := 0) zb
  have f1 := frozenB (j := 1) zb
  have f2 := frozenB (j := 2) zb
  have f3 := frozenB (j := 3) zb
  have f4 := frozenB (j := 4) zb
  obtain ⟨W5, hW5⟩ : ∃ W5, W5 = (((((W4.setCell ⟨w.heap.size, 0, none⟩ (.int .i64 p.id)).setCell ⟨w.heap.size, 1, none⟩ (.int .i64 (p.fr : Int))).setCell ⟨w.heap.size, 2, none⟩ (.int .i64 (p.tt : Int))).setCell ⟨w.heap.size, 3, none⟩ (.string p.bd)).setCell ⟨w.heap.size, 4, none⟩ (.int .i64 p.hl)) := ⟨_, rfl⟩
  have T5 : Hid (Touch (fun k => k = w.heap.size) W4 W5) := Lib.hid (by rw [hW5]; exact touch5 W4 w.heap.size 0 p (fun k => k = w.heap.size) rfl)
  have hb5 : W5.heap[w.heap.size]? = some (.cells (pkCells p) PkT) := by
    have := setCellB (j := 4) (u := .int .i64 p.hl) (setCellB (j := 3) (u := .string p.bd) (setCellB (j := 2) (u := .int .i64 (p.tt : Int)) (setCellB (j := 1) (u := .int .i64 (p.fr : Int)) (setCellB (j := 0) (u := .int .i64 p.id) zb))))
    rw [hW5]; simpa using this
  have HB5 := Lib.hid hb5
  have HW5 := Lib.hid hW5
  clear zb zp hb5 hW5
  go_wp2_with fail
  rw [← HW5.out]
  clear n0 n1 n2 n3 n4 p0 p1 p2 p3 p4 f0 f1 f2 f3 f4
  have n0 := cellB (j := 0) HB5.out rfl
  have n1 := cellB (j := 1) HB5.out rfl
  have n2 := cellB (j := 2) HB5.out rfl
  have n3 := cellB (j := 3) HB5.out rfl
  have n4 := cellB (j := 4) HB5.out rfl
  refine bodyPost_ret (v := p.val) (by simp [results, Try.results46, go_sem, n0, n1, n2, n3, n4]) rfl ⟨rfl, _, H, H4.out.keep T5.out (fun k hk e => ?_), ?_, fun k hk => ?_⟩
  · have := H0.out.own_lt (k := k) (by rcases hk with e | e | e; exact .inl e; exact .inr (.inl e); exact .inr (.inr e)); omega
  · exact ((touch_of_below B1.out _).step T4.out (fun k hk => hk.elim (fun e => .inl (.inl e)) (fun e => .inl (.inr (.inl (by rw [e]; rfl)))))).step T5.out (fun k hk => .inr (by omega))
  · exact .inl (by rcases hk with e | e | e; exact .inl e; exact .inr (.inl e); exact .inr (.inr e))
end Go.Proofs.Ytgnmieobgdbafaa
