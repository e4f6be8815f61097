/-
  The document's Know in memory: Add, seen.
-/
import Derived.Test.YtjmcaceegfdkkaaGreatDoorQcEDocP
import Derived.Test.YtjmcaceegfdkkaaGreatDoorQcZHas
namespace Go.Proofs.YtjmcaceegfdkkaaGreatDoor
open Go.RowKit Go.Maps
set_option linter.unusedVariables false
abbrev RKT : TypeId := 79
structure IsBo (w : World) (B sb n cap : Nat) (f : Nat → Bool) : Prop where
 lay : ∃ C, w.heap[sb]? = some (.cells C BooT) ∧ C.size = cap ∧ ∀ x, x < n → C[x]? = some (.bool (f x))
 gs : B ≤ sb
 le : n ≤ cap
theorem IsBo.below {w w' : World} {B sb n cap : Nat} {f : Nat → Bool} (h : IsBo w B sb n cap f) (hb : Below w.heap.size w w') : IsBo w' B sb n cap f := by
 obtain ⟨C, h1, h2⟩ := h.lay
 exact ⟨⟨C, Hold.below hb _ _ h1, h2⟩, h.gs, h.le⟩
theorem IsBo.cell {w : World} {B sb n cap : Nat} {f : Nat → Bool} (h : IsBo w B sb n cap f) {x : Nat} (hx : x < n) : w.cell? ⟨sb, x, none⟩ = some (.bool (f x)) := by
 obtain ⟨C, h1, _, h3⟩ := h.lay
 exact cellB h1 (h3 x hx)
theorem IsBo.warm {w : World} {B sb n cap : Nat} {f : Nat → Bool} (h : IsBo w B sb n cap f) (x : Nat) : w.frozen? ⟨sb, x, none⟩ = false := by
 obtain ⟨C, h1, _⟩ := h.lay
 exact frozenB (j := x) h1
theorem IsBo.put {w : World} {B sb n cap : Nat} {f : Nat → Bool} (h : IsBo w B sb n cap f) {x : Nat} (hx : x < n) (b : Bool) : IsBo (w.setCell ⟨sb, x, none⟩ (.bool b)) B sb n cap (updF f x b) := by
 obtain ⟨C, h1, h2, h3⟩ := h.lay
 refine ⟨⟨C.setIfInBounds x (.bool b), setCellB h1, by simpa using h2, fun y hy => ?_⟩, h.gs, h.le⟩
 by_cases e : y = x
 ·subst e
  rw [updF_at, Array.getElem?_setIfInBounds_self_of_lt (by have := h.le; omega)]
 ·rw [updF_ne e, Array.getElem?_setIfInBounds_ne (fun h => e h.symm)]
  exact h3 y hy
theorem IsBo.hold {w : World} {B sb n cap : Nat} {f : Nat → Bool} (h : IsBo w B sb n cap f) {T : TypeId} (hT : BooT ≠ T) (x : Nat) (u : Value) : Hold T w (w.setCell ⟨sb, x, none⟩ u) := by
 obtain ⟨C, h1, _⟩ := h.lay
 exact Hold.setCell h1 hT
structure IsRK (w : World) (B xb ra : Nat) (gv : Value) (g : List Int) : Prop where
 lay : w.heap[xb]? = some (Obj.cells #[.pointer (some ⟨ra, 0, none⟩), gv] RKT)
 gx : B ≤ xb
 row : w.ownsRow B TermT 1 gv g.length (ints g)
theorem IsRK.below {w w' : World} {B xb ra : Nat} {gv : Value} {g : List Int} (h : IsRK w B xb ra gv g) (hb : Below w.heap.size w w') : IsRK w' B xb ra gv g :=
 ⟨Hold.below hb _ _ h.lay, h.gx, own_hold h.row (Hold.below hb)⟩
theorem IsRK.lt {w : World} {B xb ra : Nat} {gv : Value} {g : List Int} (h : IsRK w B xb ra gv g) : xb < w.heap.size := (Array.getElem?_eq_some_iff.1 h.lay).1
structure RG (w : World) (B xb : Nat) (gv : Value) (w' : World) : Prop where
 below : Below B w w'
 keep : ∀ j, j < w.heap.size → j ≠ xb → gv.ownBlock ≠ some j → w'.heap[j]? = w.heap[j]?
theorem RG.of {w w' : World} {B xb : Nat} {gv : Value} (hB : B ≤ w.heap.size) (h : Below w.heap.size w w') : RG w B xb gv w' := ⟨h.mono hB, fun j hj _ _ => h.block j hj⟩
def RAddPost (w : World) (B xb ra : Nat) (gv : Value) (p : Pl) (g : List Int) (t : Int) (e : Ending) (w' : World) : Prop :=
 e = .returned (.int .i64 (if inP p t = true then 0 else 51)) ∧ ∃ gv', IsRK w' B xb ra gv' (addG p g t) ∧ RG w B xb gv w' ∧ (gv'.ownBlock = gv.ownBlock ∨ ∃ q, gv'.ownBlock = some q ∧ w.heap.size ≤ q)
section
variable {w : World} {B0 ra : Nat} {rl rs rd : Value} {p : Pl} {B xb : Nat} {gv : Value} {g : List Int}
set_option maxRecDepth 100000 in
set_option maxHeartbeats 12800000 in
theorem radd_any (hr : IsRef w B0 ra rl rs rd p) (hx : IsRK w B xb ra gv g) (hgl : g.length ≤ 65536) (t : Int) : Calls Tryz.prog 39 #[.pointer (some ⟨xb, 0, none⟩), .int .i64 t] w (RAddPost w B xb ra gv p g t) := by
 have hB : B ≤ w.heap.size := Nat.le_trans hx.gx (Nat.le_of_lt hx.lt)
 have c0 : w.cell? ⟨xb, 0, none⟩ = some (.pointer (some ⟨ra, 0, none⟩)) := cellB hx.lay rfl
 have c1 : w.cell? ⟨xb, 1, none⟩ = some gv := cellB hx.lay rfl
 have f1 := frozenB (j := 1) hx.lay
 have HX := Lib.hid hx
 have RI := Lib.hid (rin hr t)
 have HH := Lib.hid (rhasL (row_of_own hx.row) (by omega) t)
 cases hin : inP p t with
 | false =>
  rw [hin] at RI
  have HF : Hid (RAddPost w B xb ra gv p g t (.returned (.int .i64 51)) w) := Lib.hid ⟨by rw [hin]; rfl, gv, by unfold addG; rw [if_neg (fun h => by rw [hin] at h; cases h.1)]; exact hx, RG.of hB (Below.refl _ _), .inl rfl⟩
  clear hr hx HH HX hin
  go_enter Tryz.func39, Tryz.ntmps39
  go_wp2_with fail
  refine RI.out.mono ?_
  rintro e w1 ⟨rfl, rfl⟩
  go_wp2_with fail
  go_returns
  exact HF.out
 | true =>
  rw [hin] at RI
  by_cases hm : t ∈ g
  ·rw [decide_eq_true hm] at HH
   have HF : Hid (RAddPost w B xb ra gv p g t (.returned (.int .i64 0)) w) := Lib.hid ⟨by rw [hin]; rfl, gv, by unfold addG; rw [if_neg (fun h => h.2 hm)]; exact hx, RG.of hB (Below.refl _ _), .inl rfl⟩
   clear hr hx HX hin hm
   go_enter Tryz.func39, Tryz.ntmps39
   go_wp2_with fail
   refine RI.out.mono ?_
   rintro e w1 ⟨rfl, rfl⟩
   go_wp2_with fail
   refine HH.out.mono ?_
   rintro e w2 ⟨rfl, rfl⟩
   go_wp2_with fail
   go_returns
   exact HF.out
  ·rw [decide_eq_false hm] at HH
   have HIN := Lib.hid hin
   have HG : Hid (addG p g t = g ++ [t]) := Lib.hid (by unfold addG; rw [if_pos ⟨hin, hm⟩])
   obtain ⟨ga, gc, rfl⟩ := (row_of_own hx.row).shape
   clear hr hx hin hm
   go_enter Tryz.func39, Tryz.ntmps39
   go_wp2_with fail
   refine RI.out.mono ?_
   rintro e w1 ⟨rfl, rfl⟩
   go_wp2_with fail
   refine HH.out.mono ?_
   rintro e w2 ⟨rfl, rfl⟩
   have hA := bA0 w (.cells #[.int .i64 t] TermT)
   have hn : (w.alloc (.cells #[.int .i64 t] TermT)).heap[w.heap.size]? = some (Obj.cells #[.int .i64 t] TermT) := heap_alloc_new _ _
   have HXA := Lib.hid (HX.out.below hA)
   have c1A : (w.alloc (.cells #[.int .i64 t] TermT)).cell? ⟨xb, 1, none⟩ = some (.slice ga g.length gc) := bcellAt hA c1
   have HN := Lib.hid hn
   clear hn
   go_wp2_with (at_builtin; refine wpList_append_tw rfl _ _ rfl B _ g rfl HXA.out.row w.heap.size t rfl (cellB (j := 0) HN.out rfl) (by omega) (Nat.le_trans hB hA.size) ?_; intro v5 w5 hrow5 hg5 hob5; obtain ⟨va, vc, rfl⟩ := (row_of_own hrow5).shape; have f5 : w5.frozen? ⟨xb, 1, none⟩ = false := frozenB (j := 1) (hold_row HXA.out.row hg5 (by decide) _ _ HXA.out.lay); have c5 : w5.cell? ⟨xb, 1, none⟩ = some (.slice ga g.length gc) := cellB (j := 1) (hold_row HXA.out.row hg5 (by decide) _ _ HXA.out.lay) rfl)
   have hlay5 := hold_row HXA.out.row hg5 (T' := RKT) (by decide) _ _ HXA.out.lay
   have hB5 : Below B w w5 := (hA.mono hB).trans (grown_below hg5 (Nat.le_trans hB hA.size) (fun x e => (own_type HXA.out.row e).1))
   have HF : Hid (RAddPost w B xb ra (.slice ga g.length gc) p g t (.returned (.int .i64 0)) (w5.setCell ⟨xb, 1, none⟩ (.slice va (g ++ [t]).length vc))) := Lib.hid ⟨by rw [HIN.out]; rfl, _, ⟨setCellB hlay5, HX.out.gx, by rw [HG.out]; exact own_hold hrow5 (Hold.setCell hlay5 (by decide))⟩, ⟨hB5.setCell (p := ⟨xb, 1, none⟩) HX.out.gx _, fun j hj j1 j2 => by
    have e1 : j < (w.alloc (.cells #[.int .i64 t] TermT)).heap.size := Nat.lt_of_lt_of_le hj hA.size
    have e5 : (w5.setCell ⟨xb, 1, none⟩ (.slice va (g ++ [t]).length vc)).heap[j]? = w5.heap[j]? := by
     simp only [World.setCell]
     rw [Array.getElem?_modify, if_neg (fun e => j1 e.symm)]
    rw [e5, hg5.block j e1 (fun e => j2 e.symm), hA.block j hj]⟩, by
    rcases hob5 with e | e
    ·exact .inl e
    ·exact .inr ⟨_, e, hA.size⟩⟩
   rw [show (g ++ [t]).length = g.length + 1 by simp] at HF
   clear hrow5 hg5 hob5 hlay5 hB5 c1A c0 c1 f1
   go_wp2_with fail
   go_returns
   exact HF.out
end
section
variable {w : World} {B0 ra : Nat} {rl rs rd : Value} {p : Pl} {B xb : Nat} {gv : Value} {g : List Int}
def RSeenPost (w : World) (p : Pl) (g : List Int) (e : Ending) (w' : World) : Prop :=
 ∃ sb f, e = .returned (.slice (some ⟨sb, 0, none⟩) (p.length + 1) (p.length + 1)) ∧ IsBo w' w.heap.size sb (p.length + 1) (p.length + 1) f ∧ (∀ x : Nat, f x = true ↔ Reach p g (x : Int)) ∧ Below w.heap.size w w'
set_option maxRecDepth 100000 in
set_option maxHeartbeats 25600000 in
theorem rseen_any (hr : IsRef w B0 ra rl rs rd p) (hx : IsRK w B xb ra gv g) (hgin : ∀ x ∈ g, inP p x = true) (hgl : g.length ≤ 65536) : Calls Tryz.prog 103 #[.pointer (some ⟨xb, 0, none⟩)] w (RSeenPost w p g) := by
 obtain ⟨i1, hi, hz0, hz1, hz2⟩ := info_parts rowBo
 have hlen : p.length ≤ 65536 := hr.ok.len
 have hmk : ∀ W : World, (Instr.makeSlice 170 (.int .i64 ((p.length : Int) + 1)) (.int .i64 ((p.length : Int) + 1))).run Tryz.prog W = .ok (.slice (some ⟨W.heap.size, 0, none⟩) (p.length + 1) (p.length + 1)) (W.alloc (.cells (booC (p.length + 1)) BooT)) := fun W => by
  have := run_make (P := Tryz.prog) W 170 BooT i1 (.bool false) Tryz.underlying170 hi hz0 .i64 .i64 (p.length + 1) (p.length + 1) (by omega) (Int.le_refl _) (by rw [hz2]; omega) (by omega)
  rw [hz1] at this
  simpa [booC] using this
 have hmk2 := hmk w
 obtain ⟨av, cv, rfl⟩ := (row_of_own hr.rl).shape
 obtain ⟨ga, gc, rfl, hgx⟩ := (row_of_own hx.row).at
 have r0 : w.cell? ⟨ra, 0, none⟩ = some (.slice av p.length cv) := cellB hr.lay rfl
 have c0 : w.cell? ⟨xb, 0, none⟩ = some (.pointer (some ⟨ra, 0, none⟩)) := cellB hx.lay rfl
 have c1 : w.cell? ⟨xb, 1, none⟩ = some (.slice ga g.length gc) := cellB hx.lay rfl
 have hn1 : (p.length : Int) ≤ 65536 := by omega
 have HR := Lib.hid hr
 have HX := Lib.hid hx
 have HGX := Lib.hid hgx
 have HGI := Lib.hid hgin
 clear hi hz0 hz1 hz2 hmk hr hx hgx hgin
 have hb0 := bA0 w (.cells (booC (p.length + 1)) BooT)
 have bo0 : IsBo (w.alloc (.cells (booC (p.length + 1)) BooT)) w.heap.size w.heap.size (p.length + 1) (p.length + 1) (fun _ => false) := ⟨⟨_, heap_alloc_new _ _, booC_size _, fun x hx => booC_at _ _ hx⟩, Nat.le_refl _, Nat.le_refl _⟩
 have HB0 := Lib.hid hb0
 have HBO0 := Lib.hid bo0
 have C0 := Lib.hid c0
 have C1 := Lib.hid c1
 have R0 := Lib.hid r0
 clear hb0 bo0
 go_enter Tryz.func103, Tryz.ntmps103
 go_wp2_with fail
 generalize (w.alloc (.cells (booC (p.length + 1)) BooT)) = wa at *
 obtain ⟨wo, hwo⟩ : ∃ wo, wo = wa := ⟨_, rfl⟩
 clear c0 c1 r0 hmk2
 go_loopw [4] (fun v4 wr => ∃ (i : Nat) (f : Nat → Bool), v4 = .int .i64 (i : Int) ∧ i ≤ g.length ∧ (∀ x : Nat, f x = true ↔ (x : Int) ∈ g.take i) ∧ IsBo wr w.heap.size w.heap.size (p.length + 1) (p.length + 1) f ∧ Below w.heap.size w wr) (fun v _ => g.length - (intOf v).toNat)
 case atStart => exact ⟨0, _, rfl, Nat.zero_le _, fun x => by simp, HBO0.out, HB0.out⟩
 case round =>
  obtain ⟨i, f, rfl, hi, hf, hbo, hb⟩ := hrel
  have HBO := Lib.hid hbo
  have HB := Lib.hid hb
  have HF := Lib.hid hf
  have c0 := bcellAt hb C0.out
  have c1 := bcellAt hb C1.out
  clear hf hbo HB0 HBO0
  by_cases hlt : i < g.length
  ·obtain ⟨gb, go, rfl, q⟩ := HGX.out (by omega)
   have d0 := bcellAt hb (q i _ (ints_at g i hlt))
   obtain ⟨z, hz, z1, z2⟩ := in_nat (HGI.out _ (List.getElem_mem hlt))
   rw [hz] at d0
   have HTK : Hid (g.take (i + 1) = g.take i ++ [(z : Int)]) := Lib.hid (by rw [← hz]; simp)
   have hi0 : (0 : Int) ≤ (i : Int) := by omega
   have hi1 : (i : Int) < (g.length : Int) := by omega
   have hz0 : (0 : Int) ≤ (z : Int) := by omega
   have hz1 : (z : Int) < ((p.length + 1 : Nat) : Int) := by omega
   have e0 := HBO.out.cell (x := z) (by omega)
   have f0 := HBO.out.warm z
   have HP := Lib.hid (HBO.out.put (x := z) (by omega) true)
   have HBP := Lib.hid (HB.out.setCell (p := ⟨w.heap.size, z, none⟩) (Nat.le_refl _) (.bool true))
   clear q hb hz
   go_wp2_with fail
   go_roundw
   case rel => exact ⟨i + 1, _, by go_num, by omega, fun x => by rw [HTK.out, List.mem_append, List.mem_singleton, ← HF.out x]; unfold updF; split <;> simp_all <;> omega, HP.out, HBP.out⟩
   case measure => simp [intOf] <;> omega
  ·obtain rfl : i = g.length := by omega
   have HSD : Hid (SeenD p g p.length f) := Lib.hid ⟨fun x hx => .given (by have := (HF.out x).1 hx; rwa [List.take_of_length_le (Nat.le_refl _)] at this), fun x hx => (HF.out x).2 (by rw [List.take_of_length_le (Nat.le_refl _)]; exact hx), fun y hy hfy => by
    have := HGI.out _ (by have := (HF.out y).1 hfy; rwa [List.take_of_length_le (Nat.le_refl _)] at this)
    simp [inP] at this; omega⟩
   have r0 := bcellAt hb R0.out
   have HBI := Lib.hid hb
   obtain ⟨wo2, rfl⟩ : ∃ wo2, wo2 = wr := ⟨_, rfl⟩
   clear hb hlt hi HB
   go_wp2_with fail
   clear c0 c1 r0
   go_loopw [5] (fun v5 wr => ∃ (t : Nat) (f : Nat → Bool), v5 = .int .i64 (t : Int) ∧ t ≤ p.length ∧ SeenD p g t f ∧ IsBo wr w.heap.size w.heap.size (p.length + 1) (p.length + 1) f ∧ Below w.heap.size w wr) (fun v _ => (intOf v).toNat)
   case atStart => exact ⟨p.length, f, rfl, Nat.le_refl _, HSD.out, HBO.out, HBI.out⟩
   case round =>
    clear HSD HBO HBI HF
    obtain ⟨t, f, rfl, ht, hsd, hbo, hb2⟩ := hrel
    have HBO2 := Lib.hid hbo
    have HB2 := Lib.hid hb2
    have HSD2 := Lib.hid hsd
    have c0 := bcellAt hb2 C0.out
    clear hsd hbo
    cases t with
    | zero =>
     have HFI : Hid (RSeenPost w p g (.returned (.slice (some ⟨w.heap.size, 0, none⟩) (p.length + 1) (p.length + 1))) wr) := Lib.hid ⟨_, f, rfl, HBO2.out, HSD2.out.all HR.out.ok HGI.out, HB2.out⟩
     clear hb2
     go_wp2_with fail
     go_returns
     exact HFI.out
    | succ m =>
     have ht1 : (1 : Int) ≤ ((m + 1 : Nat) : Int) := by omega
     have ht0 : (0 : Int) ≤ ((m + 1 : Nat) : Int) := by omega
     have ht2 : ((m + 1 : Nat) : Int) < ((p.length + 1 : Nat) : Int) := by omega
     have hin : inP p ((m + 1 : Nat) : Int) = true := by simp [inP]; omega
     have RN := Lib.hid (rnode (HR.out.below hb2) ((m + 1 : Nat) : Int))
     rw [hin] at RN
     have hwr : wrap64 (((m + 1 : Nat) : Int) - 1) = (m : Int) := by unfold wrap64; omega
     have KA := Lib.hid (kid_a HR.out.ok hin)
     have KB := Lib.hid (kid_b HR.out.ok hin)
     have QU := Lib.hid (fun hn => HSD2.out.quiet hn)
     have PA := Lib.hid (fun (A B : Nat) hf h4 ea eb a1 b1 la lb => HSD2.out.pair (A := A) (B := B) hf h4 ea eb a1 b1 la lb)
     have SH := Lib.hid (fun (A : Nat) hf h4 h7 ea a1 la => HSD2.out.show (A := A) hf h4 h7 ea a1 la)
     generalize (atP p ((m + 1 : Nat) : Int)).1 = n at *
     obtain ⟨kk, ff, tt, uu, ss, xa, xb'⟩ := n
     simp only [nodeA] at RN
     simp only at KA KB QU PA SH
     clear hb2 hin
     go_wp2_with fail
     refine RN.out.mono ?_
     rintro e w4 ⟨rfl, u4⟩
     have b5 := bA0 w4 (.cells #[.int .i64 kk, .int .i64 ff, .int .i64 tt, .int .u64 uu, .string ss, .int .i64 xa, .int .i64 xb'] NodeT)
     have hn5 : (w4.alloc (.cells #[.int .i64 kk, .int .i64 ff, .int .i64 tt, .int .u64 uu, .string ss, .int .i64 xa, .int .i64 xb'] NodeT)).heap[w4.heap.size]? = some (Obj.cells #[.int .i64 kk, .int .i64 ff, .int .i64 tt, .int .u64 uu, .string ss, .int .i64 xa, .int .i64 xb'] NodeT) := heap_alloc_new _ _
     have H5 := Lib.hid (bmore u4 b5)
     have HN5 := Lib.hid hn5
     clear u4 b5 hn5 RN
     go_upto_region 10 with fail
     generalize (w4.alloc (.cells #[.int .i64 kk, .int .i64 ff, .int .i64 tt, .int .u64 uu, .string ss, .int .i64 xa, .int .i64 xb'] NodeT)) = w5 at *
     generalize w4.heap.size = nb at *
     have hn5 := HN5.out
     have y0 : w5.cell? ⟨nb, 0, none⟩ = some (.int .i64 kk) := cellB (j := 0) hn5 rfl
     have y5 : w5.cell? ⟨nb, 5, none⟩ = some (.int .i64 xa) := cellB (j := 5) hn5 rfl
     have y6 : w5.cell? ⟨nb, 6, none⟩ = some (.int .i64 xb') := cellB (j := 6) hn5 rfl
     have HBO5 := Lib.hid (HBO2.out.below H5.out)
     have HB5 := Lib.hid (bmore HB2.out H5.out)
     have e0 := HBO5.out.cell (x := m + 1) (by omega)
     clear hn5 H5
     cases hfm : f (m + 1) with
     | false =>
      have HS3 := Lib.hid (QU.out (.inl hfm))
      rw [hfm] at e0
      clear QU PA SH KA KB hfm y0 y5 y6
      go_wp2_with fail
      go_roundw
      case rel => exact ⟨m, _, by go_num, by omega, HS3.out, HBO5.out, HB5.out⟩
      case measure => simp [intOf] <;> omega
     | true =>
      rw [hfm] at e0
      by_cases h4 : kk = 4
      ·subst h4
       obtain ⟨A, rfl, a1, a2⟩ := KA.out (.inl rfl)
       obtain ⟨Bb, rfl, b1, b2⟩ := KB.out rfl
       have HS3 := Lib.hid (PA.out A Bb hfm rfl rfl rfl a1 b1 a2 b2)
       have hA0 : (0 : Int) ≤ (A : Int) := by omega
       have hA1 : (A : Int) < ((p.length + 1 : Nat) : Int) := by omega
       have hB0' : (0 : Int) ≤ (Bb : Int) := by omega
       have hB1' : (Bb : Int) < ((p.length + 1 : Nat) : Int) := by omega
       have eA := HBO5.out.cell (x := A) (by omega)
       have fA := HBO5.out.warm A
       have HP6 := Lib.hid (HBO5.out.put (x := A) (by omega) true)
       have HB6 := Lib.hid (HB5.out.setCell (p := ⟨w.heap.size, A, none⟩) (Nat.le_refl _) (.bool true))
       have HN6 := Lib.hid (HBO5.out.hold (T := NodeT) (by decide) A (.bool true) _ _ HN5.out)
       clear QU PA SH KA KB hfm
       go_upto_region 12 with fail
       clear e0 y0 y5 y6 eA fA
       generalize (w5.setCell ⟨w.heap.size, A, none⟩ (.bool true)) = w6 at *
       have hn6 := HN6.out
       have y0 : w6.cell? ⟨nb, 0, none⟩ = some (.int .i64 4) := cellB (j := 0) hn6 rfl
       have y6 : w6.cell? ⟨nb, 6, none⟩ = some (.int .i64 (Bb : Int)) := cellB (j := 6) hn6 rfl
       have eB := HP6.out.cell (x := Bb) (by omega)
       have fB := HP6.out.warm Bb
       have HP7 := Lib.hid (HP6.out.put (x := Bb) (by omega) true)
       have HB7 := Lib.hid (HB6.out.setCell (p := ⟨w.heap.size, Bb, none⟩) (Nat.le_refl _) (.bool true))
       clear hn6
       go_wp2_with fail
       go_roundw
       case rel => exact ⟨m, _, by go_num, by omega, HS3.out, HP7.out, HB7.out⟩
       case measure => simp [intOf] <;> omega
      ·have h4' := ebF h4
       cases h7 : showB kk with
       | true =>
        have hk7 : kk = 4 ∨ kk = 5 ∨ kk = 7 ∨ kk = 8 ∨ kk = 9 := by simp [showB] at h7; omega
        obtain ⟨A, rfl, a1, a2⟩ := KA.out hk7
        have HS3 := Lib.hid (SH.out A hfm h4 h7 rfl a1 a2)
        have hA0 : (0 : Int) ≤ (A : Int) := by omega
        have hA1 : (A : Int) < ((p.length + 1 : Nat) : Int) := by omega
        have eA := HBO5.out.cell (x := A) (by omega)
        have fA := HBO5.out.warm A
        have HP6 := Lib.hid (HBO5.out.put (x := A) (by omega) true)
        have HB6 := Lib.hid (HB5.out.setCell (p := ⟨w.heap.size, A, none⟩) (Nat.le_refl _) (.bool true))
        have HN6 := Lib.hid (HBO5.out.hold (T := NodeT) (by decide) A (.bool true) _ _ HN5.out)
        have SW := Lib.hid (shows_any kk w5)
        rw [h7] at SW
        clear QU PA SH KA KB hfm hk7 h7 h4
        go_wp2_with fail
        refine SW.out.mono ?_
        rintro e w6' ⟨rfl, rfl⟩
        go_upto_region 12 with fail
        clear e0 y0 y5 y6 eA fA
        generalize (w5.setCell ⟨w.heap.size, A, none⟩ (.bool true)) = w6 at *
        have hn6 := HN6.out
        have y0 : w6.cell? ⟨nb, 0, none⟩ = some (.int .i64 kk) := cellB (j := 0) hn6 rfl
        clear hn6
        go_wp2_with fail
        go_roundw
        case rel => exact ⟨m, _, by go_num, by omega, HS3.out, HP6.out, HB6.out⟩
        case measure => simp [intOf] <;> omega
       | false =>
        have HS3 := Lib.hid (QU.out (.inr ⟨h4, h7⟩))
        have SW := Lib.hid (shows_any kk w5)
        rw [h7] at SW
        clear QU PA SH KA KB hfm h7 h4
        go_wp2_with fail
        refine SW.out.mono ?_
        rintro e w6' ⟨rfl, rfl⟩
        go_wp2_with fail
        go_roundw
        case rel => exact ⟨m, _, by go_num, by omega, HS3.out, HBO5.out, HB5.out⟩
        case measure => simp [intOf] <;> omega
end
end Go.Proofs.YtjmcaceegfdkkaaGreatDoor
