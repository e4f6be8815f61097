/-
  Add: one more term is given.
-/
import Derived.Test.YtjmcaceegfdkkaaGreatDoorQcEApart
namespace Go.Proofs.YtjmcaceegfdkkaaGreatDoor
open Go.RowKit Go.Maps
set_option linter.unusedVariables false
structure KG (w : World) (B2 k mb : Nat) (gv : Value) (w' : World) : Prop where
 below : Below B2 w w'
 keep : ∀ j, j < w.heap.size → j ≠ k → j ≠ mb → gv.ownBlock ≠ some j → w'.heap[j]? = w.heap[j]?
theorem KG.of {w w' : World} {B2 k mb : Nat} {gv : Value} (hB : B2 ≤ w.heap.size) (h : Below w.heap.size w w') : KG w B2 k mb gv w' := ⟨h.mono hB, fun j hj _ _ _ => h.block j hj⟩
theorem IsPool.heldK {w w' : World} {B a b : Nat} {v : Value} {p : Pl} (h : IsPool w B a b v p) (h1 : Hold PoolT w w') (h2 : Hold MadeT w w') (h3 : ∀ es c, w.heap[b]? = some (.map es c) → w'.heap[b]? = some (.map es c)) : IsPool w' B a b v p := by
 obtain ⟨D, ⟨es, c, hm, r⟩, hd⟩ := h.dict
 exact ⟨h1 _ _ h.lay, h.ga, h.gb, own_hold h.row h2, ⟨D, ⟨es, c, h3 _ _ hm, r⟩, hd⟩, h.ok, h.nok⟩
theorem kg_chain {w V w5 w6 w7 : World} {B2 k mb : Nat} {gv u : Value} (hB : B2 ≤ w.heap.size) (hk : B2 ≤ k) (hm : B2 ≤ mb) (hgv : ∀ q, gv.ownBlock = some q → B2 ≤ q) (h1 : Below w.heap.size w V) (h5 : V.grownBy w5 gv.ownBlock)
  (h6 : (w5.setCell ⟨k, 1, none⟩ u).grownBy w6 (some mb)) (h7 : w6.grownBy w7 (some mb)) : KG w B2 k mb gv w7 := by
 have hV : Below B2 w V := h1.mono hB
 have hBV : B2 ≤ V.heap.size := Nat.le_trans hB h1.size
 have h5' : Below B2 w w5 := hV.trans (grown_below h5 hBV hgv)
 have hs5 : (w5.setCell ⟨k, 1, none⟩ u).heap.size = w5.heap.size := by simp [World.setCell]
 have h5s : Below B2 w (w5.setCell ⟨k, 1, none⟩ u) := h5'.setCell (p := ⟨k, 1, none⟩) hk _
 have hB5 : B2 ≤ (w5.setCell ⟨k, 1, none⟩ u).heap.size := by rw [hs5]; exact Nat.le_trans hBV h5.size
 have h6' : Below B2 w w6 := h5s.trans (grown_below h6 hB5 (fun q e => by cases e; exact hm))
 have hB6 : B2 ≤ w6.heap.size := Nat.le_trans hB5 h6.size
 refine ⟨h6'.trans (grown_below h7 hB6 (fun q e => by cases e; exact hm)), fun j hj j1 j2 j3 => ?_⟩
 have e1 : j < V.heap.size := Nat.lt_of_lt_of_le hj h1.size
 have e5 : j < w5.heap.size := Nat.lt_of_lt_of_le e1 h5.size
 have e6 : j < w6.heap.size := Nat.lt_of_lt_of_le (by rw [hs5]; exact e5) h6.size
 rw [h7.block j e6 (fun e => j2 (Option.some.inj e)), h6.block j (by rw [hs5]; exact e5) (fun e => j2 (Option.some.inj e)), Below.heap_setCell _ _ _ _ j1, h5.block j e1 (fun e => j3 e.symm), h1.block j hj]
def AddPost (w : World) (B2 k : Nat) (gv : Value) (mb a : Nat) (p : Pl) (g : List Int) (t : Int) (e : Ending) (w' : World) : Prop :=
 e = .returned (.int .i64 (if inP p t = true then 0 else 51)) ∧ ∃ gv' s', IsKnow w' B2 k gv' mb a p (addG p g t) s' ∧ KG w B2 k mb gv w' ∧ (gv'.ownBlock = gv.ownBlock ∨ ∃ q, gv'.ownBlock = some q ∧ w.heap.size ≤ q)
section
variable {w : World} {B a b : Nat} {v : Value} {p : Pl} {B2 k : Nat} {gv : Value} {mb : Nat} {g : List Int} {s : Int → Option Way}
set_option maxRecDepth 100000 in
set_option maxHeartbeats 12800000 in
theorem add_out (hp : IsPool w B a b v p) (hk : IsKnow w B2 k gv mb a p g s) (hmb : mb ≠ b) {t : Int} (ht : i64R t) (hin : inP p t = false) : Calls Tryz.prog 73 #[.pointer (some ⟨k, 0, none⟩), .int .i64 t] w (AddPost w B2 k gv mb a p g t) := by
 have hB : B2 ≤ w.heap.size := Nat.le_trans hk.gk (Nat.le_of_lt hk.lt)
 have HN := Lib.hid (pnode hp t)
 have c0 : w.cell? ⟨k, 0, none⟩ = some (.pointer (some ⟨a, 0, none⟩)) := cellB hk.lay rfl
 have c2 : w.cell? ⟨k, 2, none⟩ = some (.map (some mb)) := cellB hk.lay rfl
 have HP := Lib.hid hp
 have HK := Lib.hid hk
 have HIN := Lib.hid hin
 rw [hin] at HN
 have HT := Lib.hid ht
 clear hp hk hin ht
 generalize (atP p t).1 = n at *
 obtain ⟨kk, ff, tt, uu, ss, xa, xb⟩ := n
 simp only [nodeA] at HN
 go_enter Tryz.func73, Tryz.ntmps73
 go_wp2_with fail
 refine HN.out.mono ?_
 rintro e w1 ⟨rfl, u1⟩
 have HU := Lib.hid (bmore u1 (bA0 w1 (.cells #[.int .i64 kk, .int .i64 ff, .int .i64 tt, .int .u64 uu, .string ss, .int .i64 xa, .int .i64 xb] NodeT)))
 clear u1
 go_wp2_with fail
 go_returns
 refine ⟨by rw [HIN.out]; rfl, gv, s, ?_, KG.of hB HU.out, .inl rfl⟩
 unfold addG
 rw [if_neg (fun h => by rw [HIN.out] at h; cases h.1)]
 exact HK.out.below HU.out
set_option maxRecDepth 100000 in
set_option maxHeartbeats 12800000 in
theorem add_again (hp : IsPool w B a b v p) (hk : IsKnow w B2 k gv mb a p g s) (hmb : mb ≠ b) {t : Int} (ht : i64R t) (hin : inP p t = true) (hs : s t = some (0, 0)) : Calls Tryz.prog 73 #[.pointer (some ⟨k, 0, none⟩), .int .i64 t] w (AddPost w B2 k gv mb a p g t) := by
 have hB : B2 ≤ w.heap.size := Nat.le_trans hk.gk (Nat.le_of_lt hk.lt)
 have HN := Lib.hid (pnode hp t)
 have c0 : w.cell? ⟨k, 0, none⟩ = some (.pointer (some ⟨a, 0, none⟩)) := cellB hk.lay rfl
 have c2 : w.cell? ⟨k, 2, none⟩ = some (.map (some mb)) := cellB hk.lay rfl
 have HP := Lib.hid hp
 have HK := Lib.hid hk
 have HIN := Lib.hid hin
 rw [hin] at HN
 have HT := Lib.hid ht
 clear hp hk hin ht
 generalize (atP p t).1 = n at *
 obtain ⟨kk, ff, tt, uu, ss, xa, xb⟩ := n
 simp only [nodeA] at HN
 go_enter Tryz.func73, Tryz.ntmps73
 go_wp2_with fail
 refine HN.out.mono ?_
 rintro e w1 ⟨rfl, u1⟩
 have b2 := bmore u1 (bA0 w1 (.cells #[.int .i64 kk, .int .i64 ff, .int .i64 tt, .int .u64 uu, .string ss, .int .i64 xa, .int .i64 xb] NodeT))
 have HW := Lib.hid b2
 have hlk := (HK.out.below b2).seen.look HT.out
 replace c0 := bcellAt b2 c0
 replace c2 := bcellAt b2 c2
 rw [hs] at hlk
 simp only [wayV, Option.getD_some, Option.isSome_some] at hlk
 clear u1 b2
 have hV := heap_alloc_new (w1.alloc (.cells #[.int .i64 kk, .int .i64 ff, .int .i64 tt, .int .u64 uu, .string ss, .int .i64 xa, .int .i64 xb] NodeT)) (.cells #[.int .i64 0, .int .i64 0] WayT)
 have y0 := cellB (j := 0) hV rfl
 have HV := Lib.hid (bmore HW.out (bA0 (w1.alloc (.cells #[.int .i64 kk, .int .i64 ff, .int .i64 tt, .int .u64 uu, .string ss, .int .i64 xa, .int .i64 xb] NodeT)) (.cells #[.int .i64 0, .int .i64 0] WayT)))
 clear hV
 go_wp2_with fail
 go_returns
 refine ⟨by rw [HIN.out]; rfl, gv, s, ?_, KG.of hB HV.out, .inl rfl⟩
 unfold addG
 rw [if_neg (fun h => h.2 ((HK.out.ok.given t).1 hs))]
 exact HK.out.below HV.out
set_option maxRecDepth 100000 in
set_option maxHeartbeats 12800000 in
theorem add_seen (hp : IsPool w B a b v p) (hk : IsKnow w B2 k gv mb a p g s) (hmb : mb ≠ b) {t : Int} (ht : i64R t) (hin : inP p t = true) {r y : Int} (hs : s t = some (r, y)) (hr : r ≠ 0) : Calls Tryz.prog 73 #[.pointer (some ⟨k, 0, none⟩), .int .i64 t] w (AddPost w B2 k gv mb a p g t) := by
 have hB : B2 ≤ w.heap.size := Nat.le_trans hk.gk (Nat.le_of_lt hk.lt)
 have HN := Lib.hid (pnode hp t)
 have c0 : w.cell? ⟨k, 0, none⟩ = some (.pointer (some ⟨a, 0, none⟩)) := cellB hk.lay rfl
 have c2 : w.cell? ⟨k, 2, none⟩ = some (.map (some mb)) := cellB hk.lay rfl
 have HP := Lib.hid hp
 have HK := Lib.hid hk
 have HIN := Lib.hid hin
 rw [hin] at HN
 have HT := Lib.hid ht
 clear hp hk hin ht
 generalize (atP p t).1 = n at *
 obtain ⟨kk, ff, tt, uu, ss, xa, xb⟩ := n
 simp only [nodeA] at HN
 have hr' := ebF hr
 go_enter Tryz.func73, Tryz.ntmps73
 go_wp2_with fail
 refine HN.out.mono ?_
 rintro e w1 ⟨rfl, u1⟩
 have b2 := bmore u1 (bA0 w1 (.cells #[.int .i64 kk, .int .i64 ff, .int .i64 tt, .int .u64 uu, .string ss, .int .i64 xa, .int .i64 xb] NodeT))
 have HW := Lib.hid b2
 have hlk := (HK.out.below b2).seen.look HT.out
 replace c0 := bcellAt b2 c0
 replace c2 := bcellAt b2 c2
 rw [hs] at hlk
 simp only [wayV, Option.getD_some, Option.isSome_some] at hlk
 clear u1 b2
 go_upto_region 6 with fail
 generalize (w1.alloc (.cells #[.int .i64 kk, .int .i64 ff, .int .i64 tt, .int .u64 uu, .string ss, .int .i64 xa, .int .i64 xb] NodeT)) = W at *
 have hV := heap_alloc_new W (.cells #[.int .i64 r, .int .i64 y] WayT)
 have y0 := cellB (j := 0) hV rfl
 have HV1 := Lib.hid (bmore HW.out (bA0 W (.cells #[.int .i64 r, .int .i64 y] WayT)))
 clear hV
 go_upto_region 9 with fail
 generalize (W.alloc (.cells #[.int .i64 r, .int .i64 y] WayT)) = V at *
 clear y0
 have HV := Lib.hid (bmore HV1.out (bA0 V (.cells #[.int .i64 t] TermT)))
 have hkv := HK.out.below HV1.out
 obtain ⟨av, cv, rfl⟩ := (row_of_own hkv.row).shape
 have c1 : V.cell? ⟨k, 1, none⟩ = some (.slice av g.length cv) := cellB hkv.lay rfl
 have hRV := (HK.out.below HV.out).row
 have HRV := Lib.hid hRV
 have hLV := (HK.out.below HV.out).lay
 have hap := HK.out.apart
 have hq : ∀ w', (V.alloc (.cells #[.int .i64 t] TermT)).grownBy w' (Value.slice av g.length cv).ownBlock → w'.heap[k]? = some (Obj.cells #[.pointer (some ⟨a, 0, none⟩), .slice av g.length cv, .map (some mb)] KnowT) ∧ w'.cell? ⟨k, 1, none⟩ = some (.slice av g.length cv) ∧ w'.frozen? ⟨k, 1, none⟩ = false ∧ w'.cell? ⟨k, 2, none⟩ = some (.map (some mb)) := fun w' hg => by
  have e : w'.heap[k]? = some (Obj.cells #[.pointer (some ⟨a, 0, none⟩), .slice av g.length cv, .map (some mb)] KnowT) := hold_row hRV hg (by decide) _ _ hLV
  exact ⟨e, cellB e rfl, frozenB e, cellB e rfl⟩
 have HQ := Lib.hid hq
 have hBV : B2 ≤ (V.alloc (.cells #[.int .i64 t] TermT)).heap.size := Nat.le_trans hB HV.out.size
 have HGL := Lib.hid HK.out.glen
 have hpl : p.length ≤ 65536 := HP.out.ok.len
 have HSV := Lib.hid (HK.out.below HV.out).seen
 have HAP := Lib.hid hap
 have hgl : g.length ≤ 65536 := by have := HGL.out; omega
 have HNEW := Lib.hid (show (V.alloc (.cells #[.int .i64 t] TermT)).cell? ⟨V.heap.size, 0, none⟩ = some (.int .i64 t) from cellB (j := 0) (heap_alloc_new _ _) rfl)
 clear hq hRV hLV hkv hap hlk c0 c2
 go_wp2_with (first
  | (at_builtin; refine wpList_append_tw rfl _ _ rfl B2 (.slice av g.length cv) g rfl HRV.out _ t rfl HNEW.out (by omega) hBV ?_; intro v5 w5 hrow5 hg5 hw5; obtain ⟨q0, q1, q2, q3⟩ := HQ.out w5 hg5; obtain ⟨sa, sc, rfl⟩ := (row_of_own hrow5).shape)
  | (at_mapUpdate; obtain ⟨n0, D0, hown0, hn0, hst0⟩ := (HSV.out.same (w' := w5.setCell ⟨k, 1, none⟩ (.slice sa (g.length + 1) sc)) (fun es c hm => (Below.heap_setCell _ _ _ _ (Ne.symm HAP.out.1)).trans (map_row HRV.out hg5 hm))).store hpl hgl; refine wpList_mapUpdate_own _ rfl _ _ _ SeenT rfl TermT WayT lawT Tryz.underlying203 wayElem mb n0 D0 rfl hown0 hn0 _ _ (.int .i64 t) rfl rfl (keyT HT.out) (wayD (0, 0)) [] (wayElem_mk (0, 0)) ?_; intro w6 hown6 hg6))
 have hlen1 : (g ++ [t]).length = g.length + 1 := by simp
 have hr5 : w5.ownsRow B2 TermT 1 (.slice sa (g.length + 1) sc) (g ++ [t]).length (ints (g ++ [t])) := by have h9 := hrow5; rw [hlen1] at h9 ⊢; exact h9
 have hl5 := setCellB (j := 1) (u := .slice sa (g.length + 1) sc) q0
 have hr6 := own_hold hr5 (Hold.setCell (o := 1) (v := .slice sa (g.length + 1) sc) q0 (by decide))
 have hm5 : ∃ es c, (w5.setCell ⟨k, 1, none⟩ (.slice sa (g.length + 1) sc)).heap[mb]? = some (.map es c) := by
  obtain ⟨es, c, hm⟩ := HSV.out.mapb
  exact ⟨es, c, (Below.heap_setCell _ _ _ _ (Ne.symm HAP.out.1)).trans (map_row HRV.out hg5 hm)⟩
 have hl6 := hold_map hm5 hg6 KnowT _ _ hl5
 have hrw6 := own_hold hr6 (hold_map hm5 hg6 TermT)
 have hw2 : (Value.slice sa (g.length + 1) sc).ownBlock = (Value.slice av g.length cv).ownBlock ∨ ∃ q, (Value.slice sa (g.length + 1) sc).ownBlock = some q ∧ w.heap.size ≤ q := by
  have h9 := hw5
  rw [hlen1] at h9
  rcases h9 with e | e
  ·exact .inl e
  ·exact .inr ⟨_, e, HV.out.size⟩
 have hsm6 := (hst0 t (0, 0) w6 HT.out hown6).2 (g ++ [t]) (by simp) (.inl (by rw [hs]; rfl))
 have hkg := kg_chain hB HK.out.gk HK.out.gm (fun q e => (HAP.out.2 q e).2.2.2) HV.out hg5 hg6 (grown_of (Below.refl _ w6))
 have hgn : t ∉ g := fun hm => by
  have := (HK.out.ok.given t).2 hm
  rw [hs] at this
  simp only [Option.some.injEq, Prod.mk.injEq] at this
  exact hr this.1
 have hfin : AddPost w B2 k (.slice av g.length cv) mb a p g t (.returned (.int .i64 0)) w6 := ⟨by rw [HIN.out]; rfl, .slice sa (g.length + 1) sc, updS s t (0, 0), by
  unfold addG
  rw [if_pos ⟨HIN.out, hgn⟩]
  exact ⟨hl6, HK.out.gk, HK.out.gm, hrw6, hsm6, HK.out.ok.again (by rw [hs]; rfl) HIN.out hgn⟩, hkg, hw2⟩
 have HFIN := Lib.hid hfin
 clear hfin hkg hsm6 hw2 hrw6 hl6 hm5 hr6 hl5 hr5 hrow5 hg5 hg6 hw5 hown6 hst0 hown0 q0 q1 q2 q3
 go_wp2_with fail
 go_returns
 exact HFIN.out
set_option maxRecDepth 100000 in
set_option maxHeartbeats 12800000 in
theorem add_new (hp : IsPool w B a b v p) (hk : IsKnow w B2 k gv mb a p g s) (hmb : mb ≠ b) {t : Int} (ht : i64R t) (hin : inP p t = true) (hs : s t = none) : Calls Tryz.prog 73 #[.pointer (some ⟨k, 0, none⟩), .int .i64 t] w (AddPost w B2 k gv mb a p g t) := by
 have hB : B2 ≤ w.heap.size := Nat.le_trans hk.gk (Nat.le_of_lt hk.lt)
 have HN := Lib.hid (pnode hp t)
 have c0 : w.cell? ⟨k, 0, none⟩ = some (.pointer (some ⟨a, 0, none⟩)) := cellB hk.lay rfl
 have c2 : w.cell? ⟨k, 2, none⟩ = some (.map (some mb)) := cellB hk.lay rfl
 have HP := Lib.hid hp
 have HK := Lib.hid hk
 have HIN := Lib.hid hin
 rw [hin] at HN
 have HT := Lib.hid ht
 clear hp hk hin ht
 generalize (atP p t).1 = n at *
 obtain ⟨kk, ff, tt, uu, ss, xa, xb⟩ := n
 simp only [nodeA] at HN
 go_enter Tryz.func73, Tryz.ntmps73
 go_wp2_with fail
 refine HN.out.mono ?_
 rintro e w1 ⟨rfl, u1⟩
 have b2 := bmore u1 (bA0 w1 (.cells #[.int .i64 kk, .int .i64 ff, .int .i64 tt, .int .u64 uu, .string ss, .int .i64 xa, .int .i64 xb] NodeT))
 have HW := Lib.hid b2
 have hlk := (HK.out.below b2).seen.look HT.out
 replace c0 := bcellAt b2 c0
 replace c2 := bcellAt b2 c2
 rw [hs] at hlk
 simp only [wayV, Option.getD_none, Option.isSome_none] at hlk
 clear u1 b2
 go_upto_region 6 with fail
 generalize (w1.alloc (.cells #[.int .i64 kk, .int .i64 ff, .int .i64 tt, .int .u64 uu, .string ss, .int .i64 xa, .int .i64 xb] NodeT)) = W at *
 have hV := heap_alloc_new W (.cells #[.int .i64 0, .int .i64 0] WayT)
 have y0 := cellB (j := 0) hV rfl
 have HV1 := Lib.hid (bmore HW.out (bA0 W (.cells #[.int .i64 0, .int .i64 0] WayT)))
 clear hV
 go_upto_region 9 with fail
 generalize (W.alloc (.cells #[.int .i64 0, .int .i64 0] WayT)) = V at *
 clear y0
 have HV := Lib.hid (bmore HV1.out (bA0 V (.cells #[.int .i64 t] TermT)))
 have hkv := HK.out.below HV1.out
 obtain ⟨av, cv, rfl⟩ := (row_of_own hkv.row).shape
 have c1 : V.cell? ⟨k, 1, none⟩ = some (.slice av g.length cv) := cellB hkv.lay rfl
 have hRV := (HK.out.below HV.out).row
 have HRV := Lib.hid hRV
 have hLV := (HK.out.below HV.out).lay
 have hap := HK.out.apart
 have hq : ∀ w', (V.alloc (.cells #[.int .i64 t] TermT)).grownBy w' (Value.slice av g.length cv).ownBlock → w'.heap[k]? = some (Obj.cells #[.pointer (some ⟨a, 0, none⟩), .slice av g.length cv, .map (some mb)] KnowT) ∧ w'.cell? ⟨k, 1, none⟩ = some (.slice av g.length cv) ∧ w'.frozen? ⟨k, 1, none⟩ = false ∧ w'.cell? ⟨k, 2, none⟩ = some (.map (some mb)) := fun w' hg => by
  have e : w'.heap[k]? = some (Obj.cells #[.pointer (some ⟨a, 0, none⟩), .slice av g.length cv, .map (some mb)] KnowT) := hold_row hRV hg (by decide) _ _ hLV
  exact ⟨e, cellB e rfl, frozenB e, cellB e rfl⟩
 have HQ := Lib.hid hq
 have hBV : B2 ≤ (V.alloc (.cells #[.int .i64 t] TermT)).heap.size := Nat.le_trans hB HV.out.size
 have HGL := Lib.hid HK.out.glen
 have hpl : p.length ≤ 65536 := HP.out.ok.len
 have HSV := Lib.hid (HK.out.below HV.out).seen
 have HAP := Lib.hid hap
 have hgl : g.length ≤ 65536 := by have := HGL.out; omega
 have HNEW := Lib.hid (show (V.alloc (.cells #[.int .i64 t] TermT)).cell? ⟨V.heap.size, 0, none⟩ = some (.int .i64 t) from cellB (j := 0) (heap_alloc_new _ _) rfl)
 clear hq hRV hLV hkv hap hlk c0 c2
 go_wp2_with (first
  | (at_builtin; refine wpList_append_tw rfl _ _ rfl B2 (.slice av g.length cv) g rfl HRV.out _ t rfl HNEW.out (by omega) hBV ?_; intro v5 w5 hrow5 hg5 hw5; obtain ⟨q0, q1, q2, q3⟩ := HQ.out w5 hg5; obtain ⟨sa, sc, rfl⟩ := (row_of_own hrow5).shape)
  | (at_mapUpdate; obtain ⟨n0, D0, hown0, hn0, hst0⟩ := (HSV.out.same (w' := w5.setCell ⟨k, 1, none⟩ (.slice sa (g.length + 1) sc)) (fun es c hm => (Below.heap_setCell _ _ _ _ (Ne.symm HAP.out.1)).trans (map_row HRV.out hg5 hm))).store hpl hgl; refine wpList_mapUpdate_own _ rfl _ _ _ SeenT rfl TermT WayT lawT Tryz.underlying203 wayElem mb n0 D0 rfl hown0 hn0 _ _ (.int .i64 t) rfl rfl (keyT HT.out) (wayD (0, 0)) [] (wayElem_mk (0, 0)) ?_; intro w6 hown6 hg6))
 have hlen1 : (g ++ [t]).length = g.length + 1 := by simp
 have hr5 : w5.ownsRow B2 TermT 1 (.slice sa (g.length + 1) sc) (g ++ [t]).length (ints (g ++ [t])) := by have h9 := hrow5; rw [hlen1] at h9 ⊢; exact h9
 have hl5 := setCellB (j := 1) (u := .slice sa (g.length + 1) sc) q0
 have hr6 := own_hold hr5 (Hold.setCell (o := 1) (v := .slice sa (g.length + 1) sc) q0 (by decide))
 have hm5 : ∃ es c, (w5.setCell ⟨k, 1, none⟩ (.slice sa (g.length + 1) sc)).heap[mb]? = some (.map es c) := by
  obtain ⟨es, c, hm⟩ := HSV.out.mapb
  exact ⟨es, c, (Below.heap_setCell _ _ _ _ (Ne.symm HAP.out.1)).trans (map_row HRV.out hg5 hm)⟩
 have hl6 := hold_map hm5 hg6 KnowT _ _ hl5
 have hrw6 := own_hold hr6 (hold_map hm5 hg6 TermT)
 have hw2 : (Value.slice sa (g.length + 1) sc).ownBlock = (Value.slice av g.length cv).ownBlock ∨ ∃ q, (Value.slice sa (g.length + 1) sc).ownBlock = some q ∧ w.heap.size ≤ q := by
  have h9 := hw5
  rw [hlen1] at h9
  rcases h9 with e | e
  ·exact .inl e
  ·exact .inr ⟨_, e, HV.out.size⟩
 have hsm6 := (hst0 t (0, 0) w6 HT.out hown6).2 (g ++ [t]) (by simp) (.inr HIN.out)
 have hp6 : IsPool w6 B a b v p := ((HP.out.below HV.out).heldK ((hold_row HRV.out hg5 (by decide)).trans ((Hold.setCell q0 (by decide)).trans (hold_map hm5 hg6 _))) ((hold_row HRV.out hg5 (by decide)).trans ((Hold.setCell q0 (by decide)).trans (hold_map hm5 hg6 _))) (fun es c hm => by
  have e1 := map_row HRV.out hg5 hm
  have e2 : b ≠ k := fun e => by
   rw [e, q0] at e1; cases e1
  rw [hg6.block b (by rw [show (w5.setCell ⟨k, 1, none⟩ (.slice sa (g.length + 1) sc)).heap.size = w5.heap.size by simp [World.setCell]]; exact (Array.getElem?_eq_some_iff.1 e1).1) (fun e => hmb (Option.some.inj e).symm), Below.heap_setCell _ _ _ _ e2]
  exact e1))
 have hgn : t ∉ g := fun hm => by
  have := (HK.out.ok.given t).2 hm
  rw [hs] at this; cases this
 have hgl2 : (g ++ [t]).length ≤ p.length := nodup_in (List.nodup_append.2 ⟨HK.out.ok.nodup, by simp, fun x hx z hz e => hgn (by rw [List.mem_singleton] at hz; rw [← hz, ← e]; exact hx)⟩) (fun x hx => by
  rcases List.mem_append.1 hx with hx | hx
  ·exact HK.out.ok.ing x hx
  ·rw [List.mem_singleton.1 hx]; exact HIN.out)
 have AP := Lib.hid (apart_any hp6 hl6 hmb hgl2 hsm6 HIN.out (by unfold updS; rw [if_pos rfl]; rfl))
 have HFIN : Hid (∀ (ws : List Int) (s1 : Int → Option Way) (w7 : World), Took p (updS s t (0, 0)) t ws ws.length s1 → SeenM w7 mb p (g ++ [t]) s1 → w6.grownBy w7 (some mb) → AddPost w B2 k (.slice av g.length cv) mb a p g t (.returned (.int .i64 0)) w7) := Lib.hid (fun ws s1 w7 h1 h2 h3 => ⟨by rw [HIN.out]; rfl, .slice sa (g.length + 1) sc, s1, by
  unfold addG
  rw [if_pos ⟨HIN.out, hgn⟩]
  exact ⟨hold_map hsm6.mapb h3 _ _ _ hl6, HK.out.gk, HK.out.gm, own_hold hrw6 (hold_map hsm6.mapb h3 _), h2, HK.out.ok.took hs HIN.out h1⟩, kg_chain hB HK.out.gk HK.out.gm (fun q e => (HAP.out.2 q e).2.2.2) HV.out hg5 hg6 h3, hw2⟩)
 clear hgl2 hp6 hsm6 hw2 hrw6 hl6 hm5 hr6 hl5 hr5 hrow5 hg5 hg6 hw5 hown6 hst0 hown0 q0 q1 q2 q3
 go_wp2_with fail
 refine AP.out.mono ?_
 rintro e w7 ⟨rfl, ws, s1, h1, h2, h3⟩
 have HF := Lib.hid (HFIN.out ws s1 w7 h1 h2 h3)
 clear h1 h2 h3 HFIN AP
 go_wp2_with fail
 go_returns
 exact HF.out
theorem add_any (hp : IsPool w B a b v p) (hk : IsKnow w B2 k gv mb a p g s) (hmb : mb ≠ b) {t : Int} (ht : i64R t) : Calls Tryz.prog 73 #[.pointer (some ⟨k, 0, none⟩), .int .i64 t] w (AddPost w B2 k gv mb a p g t) := by
 cases hin : inP p t with
 | false => exact add_out hp hk hmb ht hin
 | true =>
  cases hs : s t with
  | none => exact add_new hp hk hmb ht hin hs
  | some z =>
   obtain ⟨r, y⟩ := z
   by_cases hr : r = 0
   ·subst hr
    obtain rfl := hk.ok.zero t y hs
    exact add_again hp hk hmb ht hin hs
   ·exact add_seen hp hk hmb ht hin hs hr
end
end Go.Proofs.YtjmcaceegfdkkaaGreatDoor
