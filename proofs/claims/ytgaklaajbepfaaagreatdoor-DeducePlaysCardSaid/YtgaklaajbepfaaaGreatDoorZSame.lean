/-
  The document's Has of a list, shows; bool slices. (A seat without Check.)
  The document's Know in memory: Add, seen.
  The document's key, Derived.
  The document's Same of two lists that are one; its Seen. (For a seat that reaches them.)
-/
import Derived.Test.YtgaklaajbepfaaaGreatDoorEAdd
import Derived.Test.YtgaklaajbepfaaaGreatDoorELive
import Derived.Test.YtgaklaajbepfaaaGreatDoorTRefP
import Derived.BigQuiet
import Derived.Deep.QuietTactic
import Derived.Test.YtgaklaajbepfaaaGreatDoorEDocP
namespace Go.Proofs.YtgaklaajbepfaaaGreatDoor
open Go.RowKit Go.Maps
set_option linter.unusedVariables false

abbrev BooT : TypeId := 4
set_option maxRecDepth 100000 in
theorem rhasL {w : World} {vg : Value} {g : List Int} (hg : Row w 1 vg g.length (ints g)) (hgl : g.length ≤ 1000000) (t : Int) : Calls Tryz.prog 58 #[vg, .int .i64 t] w fun e w' => e = .returned (.bool (decide (t ∈ g))) ∧ w = w' := by
  obtain ⟨ga, gc, rfl, hx⟩ := hg.at
  have HX := Lib.hid hx
  clear hg hx
  go_enter Tryz.func58, Tryz.ntmps58
  go_wp2_with fail
  go_loop [5] (fun v => ∃ i : Nat, v = .int .i64 (i : Int) ∧ i ≤ g.length ∧ t ∉ g.take i) (fun v => g.length - (intOf v).toNat)
  case atStart => exact ⟨0, rfl, Nat.zero_le _, by simp⟩
  case round =>
    obtain ⟨i, rfl, hi, hn⟩ := hrel
    by_cases hlt : i < g.length
    · obtain ⟨gb, go, rfl, q⟩ := HX.out (by omega)
      have c0 := q i _ (ints_at g i hlt)
      have hi0 : (0 : Int) ≤ (i : Int) := by omega
      have hi1 : (i : Int) < (g.length : Int) := by omega
      have htk : g.take (i + 1) = g.take i ++ [g[i]] := by simp
      have hmem : g[i] ∈ g := List.getElem_mem hlt
      have HN := Lib.hid hn
      have HTK := Lib.hid htk
      have HME := Lib.hid hmem
      generalize g[i] = x at *
      clear q hn htk hmem
      cases hq : x == t with
      | true =>
        go_wp2_with fail
        go_returns
        exact ⟨by rw [decide_eq_true (by rw [← eq_of_beq hq]; exact HME.out)]; rfl, rfl⟩
      | false =>
        go_wp2_with fail
        go_round
        case rel => exact ⟨i + 1, by go_num, by omega, by
          rw [HTK.out, List.mem_append, List.mem_singleton]
          rintro (h | h)
          · exact HN.out h
          · rw [h] at hq; simp at hq⟩
        case measure => simp [intOf]; omega
    · obtain rfl : i = g.length := by omega
      have hn' : t ∉ g := by have h9 := hn; rwa [List.take_of_length_le (Nat.le_refl _)] at h9
      have HD := Lib.hid (decide_eq_false hn')
      clear hn hn' hlt
      go_wp2_with fail
      go_returns
      exact ⟨by rw [HD.out]; rfl, rfl⟩
set_option maxRecDepth 100000 in
theorem shows_any (k : Int) (w : World) : Calls Tryz.prog 124 #[.int .i64 k] w fun e w' => e = .returned (.bool (showB k)) ∧ w = w' := by
  unfold showB
  cases h7 : k == 7 with
  | true =>
    go_enter Tryz.func124, Tryz.ntmps124
    go_wp2_with fail
    go_returns
    exact ⟨rfl, rfl⟩
  | false =>
    cases h8 : k == 8 with
    | true =>
      go_enter Tryz.func124, Tryz.ntmps124
      go_wp2_with fail
      go_returns
      exact ⟨rfl, rfl⟩
    | false =>
      cases h9 : k == 9
      all_goals
        go_enter Tryz.func124, Tryz.ntmps124
        go_wp2_with fail
        go_returns
        exact ⟨rfl, rfl⟩

def booC (n : Nat) : Array Value := madeCells (Value.bool false).cells (n * 1)
theorem booC_size (n : Nat) : (booC n).size = n := by rw [booC, size_madeCells, Nat.mul_one]
theorem booC_at (n j : Nat) (h : j < n) : (booC n)[j]? = some (.bool false) := by
  unfold booC madeCells
  rw [show (Value.bool false).cells = #[Value.bool false] from rfl]
  simp [h, Nat.mod_one]
theorem rowBo : (Tryz.prog.info? BooT).map (fun i => (i.zero, i.size, i.bytes)) = some (some (.bool false), 1, 1) := by kernel_rfl
end Go.Proofs.YtgaklaajbepfaaaGreatDoor
namespace Go.Proofs.YtgaklaajbepfaaaGreatDoor
open Go.RowKit Go.Maps
set_option linter.unusedVariables false

abbrev RKT : TypeId := 34
/-- Flags in memory. -/
structure IsBo (w : World) (B sb n cap : Nat) (f : Nat → Bool) : Prop where
  lay : ∃ C, w.heap[sb]? = some (.cells C BooT) ∧ C.size = cap ∧ ∀ x, x < n → C[x]? = some (.bool (f x))
  gs : B ≤ sb
  le : n ≤ cap
theorem IsBo.below {w w' : World} {B sb n cap : Nat} {f : Nat → Bool} (h : IsBo w B sb n cap f) (hb : Below w.heap.size w w') : IsBo w' B sb n cap f := by
  obtain ⟨C, h1, h2⟩ := h.lay
  exact ⟨⟨C, Hold.below hb _ _ h1, h2⟩, h.gs, h.le⟩
theorem IsBo.cell {w : World} {B sb n cap : Nat} {f : Nat → Bool} (h : IsBo w B sb n cap f) {x : Nat} (hx : x < n) : w.cell? ⟨sb, x, none⟩ = some (.bool (f x)) := by
  obtain ⟨C, h1, _, h3⟩ := h.lay
  exact cellB h1 (h3 x hx)
theorem IsBo.warm {w : World} {B sb n cap : Nat} {f : Nat → Bool} (h : IsBo w B sb n cap f) (x : Nat) : w.frozen? ⟨sb, x, none⟩ = false := by
  obtain ⟨C, h1, _⟩ := h.lay
  exact frozenB (j := x) h1
theorem IsBo.put {w : World} {B sb n cap : Nat} {f : Nat → Bool} (h : IsBo w B sb n cap f) {x : Nat} (hx : x < n) (b : Bool) : IsBo (w.setCell ⟨sb, x, none⟩ (.bool b)) B sb n cap (updF f x b) := by
  obtain ⟨C, h1, h2, h3⟩ := h.lay
  refine ⟨⟨C.setIfInBounds x (.bool b), setCellB h1, by simpa using h2, fun y hy => ?_⟩, h.gs, h.le⟩
  by_cases e : y = x
  · subst e
    rw [updF_at, Array.getElem?_setIfInBounds_self_of_lt (by have := h.le; omega)]
  · rw [updF_ne e, Array.getElem?_setIfInBounds_ne (fun h => e h.symm)]
    exact h3 y hy
theorem IsBo.hold {w : World} {B sb n cap : Nat} {f : Nat → Bool} (h : IsBo w B sb n cap f) {T : TypeId} (hT : BooT ≠ T) (x : Nat) (u : Value) : Hold T w (w.setCell ⟨sb, x, none⟩ u) := by
  obtain ⟨C, h1, _⟩ := h.lay
  exact Hold.setCell h1 hT

/-- The document's Know. -/
structure IsRK (w : World) (B xb ra : Nat) (gv : Value) (g : List Int) : Prop where
  lay : w.heap[xb]? = some (Obj.cells #[.pointer (some ⟨ra, 0, none⟩), gv] RKT)
  gx : B ≤ xb
  row : w.ownsRow B TermT 1 gv g.length (ints g)
theorem IsRK.below {w w' : World} {B xb ra : Nat} {gv : Value} {g : List Int} (h : IsRK w B xb ra gv g) (hb : Below w.heap.size w w') : IsRK w' B xb ra gv g :=
  ⟨Hold.below hb _ _ h.lay, h.gx, own_hold h.row (Hold.below hb)⟩
theorem IsRK.lt {w : World} {B xb ra : Nat} {gv : Value} {g : List Int} (h : IsRK w B xb ra gv g) : xb < w.heap.size := (Array.getElem?_eq_some_iff.1 h.lay).1
/-- What Add leaves as it was. -/
structure RG (w : World) (B xb : Nat) (gv : Value) (w' : World) : Prop where
  below : Below B w w'
  keep : ∀ j, j < w.heap.size → j ≠ xb → gv.ownBlock ≠ some j → w'.heap[j]? = w.heap[j]?
theorem RG.of {w w' : World} {B xb : Nat} {gv : Value} (hB : B ≤ w.heap.size) (h : Below w.heap.size w w') : RG w B xb gv w' := ⟨h.mono hB, fun j hj _ _ => h.block j hj⟩
def RAddPost (w : World) (B xb ra : Nat) (gv : Value) (p : Pl) (g : List Int) (t : Int) (e : Ending) (w' : World) : Prop :=
  e = .returned (.int .i64 (if inP p t = true then 0 else 51)) ∧ ∃ gv', IsRK w' B xb ra gv' (addG p g t) ∧ RG w B xb gv w' ∧ (gv'.ownBlock = gv.ownBlock ∨ ∃ q, gv'.ownBlock = some q ∧ w.heap.size ≤ q)
section
variable {w : World} {B0 ra : Nat} {rl rs rd : Value} {p : Pl} {B xb : Nat} {gv : Value} {g : List Int}
set_option maxRecDepth 100000 in
set_option maxHeartbeats 12800000 in
theorem radd_any (hr : IsRef w B0 ra rl rs rd p) (hx : IsRK w B xb ra gv g) (hgl : g.length ≤ 65536) (t : Int) : Calls Tryz.prog 13 #[.pointer (some ⟨xb, 0, none⟩), .int .i64 t] w (RAddPost w B xb ra gv p g t) := by
  have hB : B ≤ w.heap.size := Nat.le_trans hx.gx (Nat.le_of_lt hx.lt)
  have c0 : w.cell? ⟨xb, 0, none⟩ = some (.pointer (some ⟨ra, 0, none⟩)) := cellB hx.lay rfl
  have c1 : w.cell? ⟨xb, 1, none⟩ = some gv := cellB hx.lay rfl
  have f1 := frozenB (j := 1) hx.lay
  have HX := Lib.hid hx
  have RI := Lib.hid (rin hr t)
  have HH := Lib.hid (rhasL (row_of_own hx.row) (by omega) t)
  cases hin : inP p t with
  | false =>
    rw [hin] at RI
    have HF : Hid (RAddPost w B xb ra gv p g t (.returned (.int .i64 51)) w) := Lib.hid ⟨by rw [hin]; rfl, gv, by unfold addG; rw [if_neg (fun h => by rw [hin] at h; cases h.1)]; exact hx, RG.of hB (Below.refl _ _), .inl rfl⟩
    clear hr hx HH HX hin
    go_enter Tryz.func13, Tryz.ntmps13
    go_wp2_with fail
    refine RI.out.mono ?_
    rintro e w1 ⟨rfl, rfl⟩
    go_wp2_with fail
    go_returns
    exact HF.out
  | true =>
    rw [hin] at RI
    by_cases hm : t ∈ g
    · rw [decide_eq_true hm] at HH
      have HF : Hid (RAddPost w B xb ra gv p g t (.returned (.int .i64 0)) w) := Lib.hid ⟨by rw [hin]; rfl, gv, by unfold addG; rw [if_neg (fun h => h.2 hm)]; exact hx, RG.of hB (Below.refl _ _), .inl rfl⟩
      clear hr hx HX hin hm
      go_enter Tryz.func13, Tryz.ntmps13
      go_wp2_with fail
      refine RI.out.mono ?_
      rintro e w1 ⟨rfl, rfl⟩
      go_wp2_with fail
      refine HH.out.mono ?_
      rintro e w2 ⟨rfl, rfl⟩
      go_wp2_with fail
      go_returns
      exact HF.out
    · rw [decide_eq_false hm] at HH
      have HIN := Lib.hid hin
      have HG : Hid (addG p g t = g ++ [t]) := Lib.hid (by unfold addG; rw [if_pos ⟨hin, hm⟩])
      obtain ⟨ga, gc, rfl⟩ := (row_of_own hx.row).shape
      clear hr hx hin hm
      go_enter Tryz.func13, Tryz.ntmps13
      go_wp2_with fail
      refine RI.out.mono ?_
      rintro e w1 ⟨rfl, rfl⟩
      go_wp2_with fail
      refine HH.out.mono ?_
      rintro e w2 ⟨rfl, rfl⟩
      have hA := bA0 w (.cells #[.int .i64 t] TermT)
      have hn : (w.alloc (.cells #[.int .i64 t] TermT)).heap[w.heap.size]? = some (Obj.cells #[.int .i64 t] TermT) := heap_alloc_new _ _
      have HXA := Lib.hid (HX.out.below hA)
      have c1A : (w.alloc (.cells #[.int .i64 t] TermT)).cell? ⟨xb, 1, none⟩ = some (.slice ga g.length gc) := bcellAt hA c1
      have HN := Lib.hid hn
      clear hn
      go_wp2_with (at_builtin; refine wpList_append_tw rfl _ _ rfl B _ g rfl HXA.out.row w.heap.size t rfl (cellB (j := 0) HN.out rfl) (by omega) (Nat.le_trans hB hA.size) ?_; intro v5 w5 hrow5 hg5 hob5; obtain ⟨va, vc, rfl⟩ := (row_of_own hrow5).shape; have f5 : w5.frozen? ⟨xb, 1, none⟩ = false := frozenB (j := 1) (hold_row HXA.out.row hg5 (by decide) _ _ HXA.out.lay); have c5 : w5.cell? ⟨xb, 1, none⟩ = some (.slice ga g.length gc) := cellB (j := 1) (hold_row HXA.out.row hg5 (by decide) _ _ HXA.out.lay) rfl)
      have hlay5 := hold_row HXA.out.row hg5 (T' := RKT) (by decide) _ _ HXA.out.lay
      have hB5 : Below B w w5 := (hA.mono hB).trans (grown_below hg5 (Nat.le_trans hB hA.size) (fun x e => (own_type HXA.out.row e).1))
      have HF : Hid (RAddPost w B xb ra (.slice ga g.length gc) p g t (.returned (.int .i64 0)) (w5.setCell ⟨xb, 1, none⟩ (.slice va (g ++ [t]).length vc))) := Lib.hid ⟨by rw [HIN.out]; rfl, _, ⟨setCellB hlay5, HX.out.gx, by rw [HG.out]; exact own_hold hrow5 (Hold.setCell hlay5 (by decide))⟩, ⟨hB5.setCell (p := ⟨xb, 1, none⟩) HX.out.gx _, fun j hj j1 j2 => by
        have e1 : j < (w.alloc (.cells #[.int .i64 t] TermT)).heap.size := Nat.lt_of_lt_of_le hj hA.size
        have e5 : (w5.setCell ⟨xb, 1, none⟩ (.slice va (g ++ [t]).length vc)).heap[j]? = w5.heap[j]? := by
          simp only [World.setCell]
          rw [Array.getElem?_modify, if_neg (fun e => j1 e.symm)]
        rw [e5, hg5.block j e1 (fun e => j2 e.symm), hA.block j hj]⟩, by
        rcases hob5 with e | e
        · exact .inl e
        · exact .inr ⟨_, e, hA.size⟩⟩
      rw [show (g ++ [t]).length = g.length + 1 by simp] at HF
      clear hrow5 hg5 hob5 hlay5 hB5 c1A c0 c1 f1
      go_wp2_with fail
      go_returns
      exact HF.out
end
section
variable {w : World} {B0 ra : Nat} {rl rs rd : Value} {p : Pl} {B xb : Nat} {gv : Value} {g : List Int}
def RSeenPost (w : World) (p : Pl) (g : List Int) (e : Ending) (w' : World) : Prop :=
  ∃ sb f, e = .returned (.slice (some ⟨sb, 0, none⟩) (p.length + 1) (p.length + 1)) ∧ IsBo w' w.heap.size sb (p.length + 1) (p.length + 1) f ∧ (∀ x : Nat, f x = true ↔ Reach p g (x : Int)) ∧ Below w.heap.size w w'
set_option maxRecDepth 100000 in
set_option maxHeartbeats 25600000 in
theorem rseen_any (hr : IsRef w B0 ra rl rs rd p) (hx : IsRK w B xb ra gv g) (hgin : ∀ x ∈ g, inP p x = true) (hgl : g.length ≤ 65536) : Calls Tryz.prog 97 #[.pointer (some ⟨xb, 0, none⟩)] w (RSeenPost w p g) := by
  obtain ⟨i1, hi, hz0, hz1, hz2⟩ := info_parts rowBo
  have hlen : p.length ≤ 65536 := hr.ok.len
  have hmk : ∀ W : World, (Instr.makeSlice 105 (.int .i64 ((p.length : Int) + 1)) (.int .i64 ((p.length : Int) + 1))).run Tryz.prog W = .ok (.slice (some ⟨W.heap.size, 0, none⟩) (p.length + 1) (p.length + 1)) (W.alloc (.cells (booC (p.length + 1)) BooT)) := fun W => by
    have := run_make (P := Tryz.prog) W 105 BooT i1 (.bool false) Tryz.underlying105 hi hz0 .i64 .i64 (p.length + 1) (p.length + 1) (by omega) (Int.le_refl _) (by rw [hz2]; omega) (by omega)
    rw [hz1] at this
    simpa [booC] using this
  have hmk2 := hmk w
  obtain ⟨av, cv, rfl⟩ := (row_of_own hr.rl).shape
  obtain ⟨ga, gc, rfl, hgx⟩ := (row_of_own hx.row).at
  have r0 : w.cell? ⟨ra, 0, none⟩ = some (.slice av p.length cv) := cellB hr.lay rfl
  have c0 : w.cell? ⟨xb, 0, none⟩ = some (.pointer (some ⟨ra, 0, none⟩)) := cellB hx.lay rfl
  have c1 : w.cell? ⟨xb, 1, none⟩ = some (.slice ga g.length gc) := cellB hx.lay rfl
  have hn1 : (p.length : Int) ≤ 65536 := by omega
  have HR := Lib.hid hr
  have HX := Lib.hid hx
  have HGX := Lib.hid hgx
  have HGI := Lib.hid hgin
  clear hi hz0 hz1 hz2 hmk hr hx hgx hgin
  have hb0 := bA0 w (.cells (booC (p.length + 1)) BooT)
  have bo0 : IsBo (w.alloc (.cells (booC (p.length + 1)) BooT)) w.heap.size w.heap.size (p.length + 1) (p.length + 1) (fun _ => false) := ⟨⟨_, heap_alloc_new _ _, booC_size _, fun x hx => booC_at _ _ hx⟩, Nat.le_refl _, Nat.le_refl _⟩
  have HB0 := Lib.hid hb0
  have HBO0 := Lib.hid bo0
  have C0 := Lib.hid c0
  have C1 := Lib.hid c1
  have R0 := Lib.hid r0
  clear hb0 bo0
  go_enter Tryz.func97, Tryz.ntmps97
  go_wp2_with fail
  generalize (w.alloc (.cells (booC (p.length + 1)) BooT)) = wa at *
  obtain ⟨wo, hwo⟩ : ∃ wo, wo = wa := ⟨_, rfl⟩
  clear c0 c1 r0 hmk2
  go_loopw [4] (fun v4 wr => ∃ (i : Nat) (f : Nat → Bool), v4 = .int .i64 (i : Int) ∧ i ≤ g.length ∧ (∀ x : Nat, f x = true ↔ (x : Int) ∈ g.take i) ∧ IsBo wr w.heap.size w.heap.size (p.length + 1) (p.length + 1) f ∧ Below w.heap.size w wr) (fun v _ => g.length - (intOf v).toNat)
  case atStart => exact ⟨0, _, rfl, Nat.zero_le _, fun x => by simp, HBO0.out, HB0.out⟩
  case round =>
    obtain ⟨i, f, rfl, hi, hf, hbo, hb⟩ := hrel
    have HBO := Lib.hid hbo
    have HB := Lib.hid hb
    have HF := Lib.hid hf
    have c0 := bcellAt hb C0.out
    have c1 := bcellAt hb C1.out
    clear hf hbo HB0 HBO0
    by_cases hlt : i < g.length
    · obtain ⟨gb, go, rfl, q⟩ := HGX.out (by omega)
      have d0 := bcellAt hb (q i _ (ints_at g i hlt))
      obtain ⟨z, hz, z1, z2⟩ := in_nat (HGI.out _ (List.getElem_mem hlt))
      rw [hz] at d0
      have HTK : Hid (g.take (i + 1) = g.take i ++ [(z : Int)]) := Lib.hid (by rw [← hz]; simp)
      have hi0 : (0 : Int) ≤ (i : Int) := by omega
      have hi1 : (i : Int) < (g.length : Int) := by omega
      have hz0 : (0 : Int) ≤ (z : Int) := by omega
      have hz1 : (z : Int) < ((p.length + 1 : Nat) : Int) := by omega
      have e0 := HBO.out.cell (x := z) (by omega)
      have f0 := HBO.out.warm z
      have HP := Lib.hid (HBO.out.put (x := z) (by omega) true)
      have HBP := Lib.hid (HB.out.setCell (p := ⟨w.heap.size, z, none⟩) (Nat.le_refl _) (.bool true))
      clear q hb hz
      go_wp2_with fail
      go_roundw
      case rel => exact ⟨i + 1, _, by go_num, by omega, fun x => by rw [HTK.out, List.mem_append, List.mem_singleton, ← HF.out x]; unfold updF; split <;> simp_all <;> omega, HP.out, HBP.out⟩
      case measure => simp [intOf] <;> omega
    · obtain rfl : i = g.length := by omega
      have HSD : Hid (SeenD p g p.length f) := Lib.hid ⟨fun x hx => .given (by have := (HF.out x).1 hx; rwa [List.take_of_length_le (Nat.le_refl _)] at this), fun x hx => (HF.out x).2 (by rw [List.take_of_length_le (Nat.le_refl _)]; exact hx), fun y hy hfy => by
        have := HGI.out _ (by have := (HF.out y).1 hfy; rwa [List.take_of_length_le (Nat.le_refl _)] at this)
        simp [inP] at this; omega⟩
      have r0 := bcellAt hb R0.out
      have HBI := Lib.hid hb
      obtain ⟨wo2, rfl⟩ : ∃ wo2, wo2 = wr := ⟨_, rfl⟩
      clear hb hlt hi HB
      go_wp2_with fail
      clear c0 c1 r0
      go_loopw [5] (fun v5 wr => ∃ (t : Nat) (f : Nat → Bool), v5 = .int .i64 (t : Int) ∧ t ≤ p.length ∧ SeenD p g t f ∧ IsBo wr w.heap.size w.heap.size (p.length + 1) (p.length + 1) f ∧ Below w.heap.size w wr) (fun v _ => (intOf v).toNat)
      case atStart => exact ⟨p.length, f, rfl, Nat.le_refl _, HSD.out, HBO.out, HBI.out⟩
      case round =>
        clear HSD HBO HBI HF
        obtain ⟨t, f, rfl, ht, hsd, hbo, hb2⟩ := hrel
        have HBO2 := Lib.hid hbo
        have HB2 := Lib.hid hb2
        have HSD2 := Lib.hid hsd
        have c0 := bcellAt hb2 C0.out
        clear hsd hbo
        cases t with
        | zero =>
          have HFI : Hid (RSeenPost w p g (.returned (.slice (some ⟨w.heap.size, 0, none⟩) (p.length + 1) (p.length + 1))) wr) := Lib.hid ⟨_, f, rfl, HBO2.out, HSD2.out.all HR.out.ok HGI.out, HB2.out⟩
          clear hb2
          go_wp2_with fail
          go_returns
          exact HFI.out
        | succ m =>
          have ht1 : (1 : Int) ≤ ((m + 1 : Nat) : Int) := by omega
          have ht0 : (0 : Int) ≤ ((m + 1 : Nat) : Int) := by omega
          have ht2 : ((m + 1 : Nat) : Int) < ((p.length + 1 : Nat) : Int) := by omega
          have hin : inP p ((m + 1 : Nat) : Int) = true := by simp [inP]; omega
          have RN := Lib.hid (rnode (HR.out.below hb2) ((m + 1 : Nat) : Int))
          rw [hin] at RN
          have hwr : wrap64 (((m + 1 : Nat) : Int) - 1) = (m : Int) := by unfold wrap64; omega
          have KA := Lib.hid (kid_a HR.out.ok hin)
          have KB := Lib.hid (kid_b HR.out.ok hin)
          have QU := Lib.hid (fun hn => HSD2.out.quiet hn)
          have PA := Lib.hid (fun (A B : Nat) hf h4 ea eb a1 b1 la lb => HSD2.out.pair (A := A) (B := B) hf h4 ea eb a1 b1 la lb)
          have SH := Lib.hid (fun (A : Nat) hf h4 h7 ea a1 la => HSD2.out.show (A := A) hf h4 h7 ea a1 la)
          generalize (atP p ((m + 1 : Nat) : Int)).1 = n at *
          obtain ⟨kk, ff, tt, uu, ss, xa, xb'⟩ := n
          simp only [nodeA] at RN
          simp only at KA KB QU PA SH
          clear hb2 hin
          go_wp2_with fail
          refine RN.out.mono ?_
          rintro e w4 ⟨rfl, u4⟩
          have b5 := bA0 w4 (.cells #[.int .i64 kk, .int .i64 ff, .int .i64 tt, .int .u64 uu, .string ss, .int .i64 xa, .int .i64 xb'] NodeT)
          have hn5 : (w4.alloc (.cells #[.int .i64 kk, .int .i64 ff, .int .i64 tt, .int .u64 uu, .string ss, .int .i64 xa, .int .i64 xb'] NodeT)).heap[w4.heap.size]? = some (Obj.cells #[.int .i64 kk, .int .i64 ff, .int .i64 tt, .int .u64 uu, .string ss, .int .i64 xa, .int .i64 xb'] NodeT) := heap_alloc_new _ _
          have H5 := Lib.hid (bmore u4 b5)
          have HN5 := Lib.hid hn5
          clear u4 b5 hn5 RN
          go_upto_region 10 with fail
          generalize (w4.alloc (.cells #[.int .i64 kk, .int .i64 ff, .int .i64 tt, .int .u64 uu, .string ss, .int .i64 xa, .int .i64 xb'] NodeT)) = w5 at *
          generalize w4.heap.size = nb at *
          have hn5 := HN5.out
          have y0 : w5.cell? ⟨nb, 0, none⟩ = some (.int .i64 kk) := cellB (j := 0) hn5 rfl
          have y5 : w5.cell? ⟨nb, 5, none⟩ = some (.int .i64 xa) := cellB (j := 5) hn5 rfl
          have y6 : w5.cell? ⟨nb, 6, none⟩ = some (.int .i64 xb') := cellB (j := 6) hn5 rfl
          have HBO5 := Lib.hid (HBO2.out.below H5.out)
          have HB5 := Lib.hid (bmore HB2.out H5.out)
          have e0 := HBO5.out.cell (x := m + 1) (by omega)
          clear hn5 H5
          cases hfm : f (m + 1) with
          | false =>
            have HS3 := Lib.hid (QU.out (.inl hfm))
            rw [hfm] at e0
            clear QU PA SH KA KB hfm y0 y5 y6
            go_wp2_with fail
            go_roundw
            case rel => exact ⟨m, _, by go_num, by omega, HS3.out, HBO5.out, HB5.out⟩
            case measure => simp [intOf] <;> omega
          | true =>
            rw [hfm] at e0
            by_cases h4 : kk = 4
            · subst h4
              obtain ⟨A, rfl, a1, a2⟩ := KA.out (.inl rfl)
              obtain ⟨Bb, rfl, b1, b2⟩ := KB.out rfl
              have HS3 := Lib.hid (PA.out A Bb hfm rfl rfl rfl a1 b1 a2 b2)
              have hA0 : (0 : Int) ≤ (A : Int) := by omega
              have hA1 : (A : Int) < ((p.length + 1 : Nat) : Int) := by omega
              have hB0' : (0 : Int) ≤ (Bb : Int) := by omega
              have hB1' : (Bb : Int) < ((p.length + 1 : Nat) : Int) := by omega
              have eA := HBO5.out.cell (x := A) (by omega)
              have fA := HBO5.out.warm A
              have HP6 := Lib.hid (HBO5.out.put (x := A) (by omega) true)
              have HB6 := Lib.hid (HB5.out.setCell (p := ⟨w.heap.size, A, none⟩) (Nat.le_refl _) (.bool true))
              have HN6 := Lib.hid (HBO5.out.hold (T := NodeT) (by decide) A (.bool true) _ _ HN5.out)
              clear QU PA SH KA KB hfm
              go_upto_region 12 with fail
              clear e0 y0 y5 y6 eA fA
              generalize (w5.setCell ⟨w.heap.size, A, none⟩ (.bool true)) = w6 at *
              have hn6 := HN6.out
              have y0 : w6.cell? ⟨nb, 0, none⟩ = some (.int .i64 4) := cellB (j := 0) hn6 rfl
              have y6 : w6.cell? ⟨nb, 6, none⟩ = some (.int .i64 (Bb : Int)) := cellB (j := 6) hn6 rfl
              have eB := HP6.out.cell (x := Bb) (by omega)
              have fB := HP6.out.warm Bb
              have HP7 := Lib.hid (HP6.out.put (x := Bb) (by omega) true)
              have HB7 := Lib.hid (HB6.out.setCell (p := ⟨w.heap.size, Bb, none⟩) (Nat.le_refl _) (.bool true))
              clear hn6
              go_wp2_with fail
              go_roundw
              case rel => exact ⟨m, _, by go_num, by omega, HS3.out, HP7.out, HB7.out⟩
              case measure => simp [intOf] <;> omega
            · have h4' := ebF h4
              cases h7 : showB kk with
              | true =>
                have hk7 : kk = 4 ∨ kk = 5 ∨ kk = 7 ∨ kk = 8 ∨ kk = 9 := by simp [showB] at h7; omega
                obtain ⟨A, rfl, a1, a2⟩ := KA.out hk7
                have HS3 := Lib.hid (SH.out A hfm h4 h7 rfl a1 a2)
                have hA0 : (0 : Int) ≤ (A : Int) := by omega
                have hA1 : (A : Int) < ((p.length + 1 : Nat) : Int) := by omega
                have eA := HBO5.out.cell (x := A) (by omega)
                have fA := HBO5.out.warm A
                have HP6 := Lib.hid (HBO5.out.put (x := A) (by omega) true)
                have HB6 := Lib.hid (HB5.out.setCell (p := ⟨w.heap.size, A, none⟩) (Nat.le_refl _) (.bool true))
                have HN6 := Lib.hid (HBO5.out.hold (T := NodeT) (by decide) A (.bool true) _ _ HN5.out)
                have SW := Lib.hid (shows_any kk w5)
                rw [h7] at SW
                clear QU PA SH KA KB hfm hk7 h7 h4
                go_wp2_with fail
                refine SW.out.mono ?_
                rintro e w6' ⟨rfl, rfl⟩
                go_upto_region 12 with fail
                clear e0 y0 y5 y6 eA fA
                generalize (w5.setCell ⟨w.heap.size, A, none⟩ (.bool true)) = w6 at *
                have hn6 := HN6.out
                have y0 : w6.cell? ⟨nb, 0, none⟩ = some (.int .i64 kk) := cellB (j := 0) hn6 rfl
                clear hn6
                go_wp2_with fail
                go_roundw
                case rel => exact ⟨m, _, by go_num, by omega, HS3.out, HP6.out, HB6.out⟩
                case measure => simp [intOf] <;> omega
              | false =>
                have HS3 := Lib.hid (QU.out (.inr ⟨h4, h7⟩))
                have SW := Lib.hid (shows_any kk w5)
                rw [h7] at SW
                clear QU PA SH KA KB hfm h7 h4
                go_wp2_with fail
                refine SW.out.mono ?_
                rintro e w6' ⟨rfl, rfl⟩
                go_wp2_with fail
                go_roundw
                case rel => exact ⟨m, _, by go_num, by omega, HS3.out, HBO5.out, HB5.out⟩
                case measure => simp [intOf] <;> omega
end
end Go.Proofs.YtgaklaajbepfaaaGreatDoor
namespace Go.Proofs.YtgaklaajbepfaaaGreatDoor
open Go.RowKit Go.Maps
set_option linter.unusedVariables false

theorem IsBo.beside {w : World} {B B' sb n cap ob m cap' : Nat} {f o : Nat → Bool} (h : IsBo w B sb n cap f) (ho : IsBo w B' ob m cap' o) (hne : sb ≠ ob) (x : Nat) (u : Value) : IsBo (w.setCell ⟨ob, x, none⟩ u) B sb n cap f := by
  obtain ⟨C, h1, h2, h3⟩ := h.lay
  refine ⟨⟨C, ?_, h2, h3⟩, h.gs, h.le⟩
  simp only [World.setCell]
  rw [Array.getElem?_modify, if_neg (fun e => hne e.symm)]
  exact h1
def bls (n : Nat) (f : Nat → Bool) : List Value := (List.range n).map fun x => .bool (f x)
theorem bls_len (n : Nat) (f : Nat → Bool) : (bls n f).length = n := by simp [bls]
theorem bls_at {n : Nat} (f : Nat → Bool) {x : Nat} (h : x < n) : (bls n f)[x]? = some (.bool (f x)) := by simp [bls, h]
theorem bls_one (n : Nat) (f : Nat → Bool) : ∀ u ∈ bls n f, u.oneCell' = true := by
  intro u hu
  obtain ⟨x, _, rfl⟩ := List.mem_map.1 hu
  rfl
/-- append of flags to an empty list of the call's own. -/
theorem wpList_append_bo {w : World} {ops : Array Oper} {rest : List Oper} {o : Oper} {a : Act} {Q : Exit → Act → World → Prop} (hg : o.guard = none) (s x : Operand)
    (ho : o.op = .call { callee := .builtin .append, args := #[s, x], argTypes := #[105, 105] })
    (base : Nat) (v : Value) (hs : a.eval s = v) (hown : w.ownsRow base BooT 1 v 0 []) {B sb n cap : Nat} {f : Nat → Bool} (hx : a.eval x = .slice (some ⟨sb, 0, none⟩) n cap) (hb : IsBo w B sb n cap f)
    (hlen : n ≤ 1000000) (h0 : 0 < n) (hbase : base ≤ w.heap.size)
    (h : ∀ ob cap' w', IsBo w' base ob n cap' f → w.grownBy w' v.ownBlock → wpList Tryz.prog ops Q rest (a.put o.dst (.slice (some ⟨ob, 0, none⟩) n cap')) w') : wpList Tryz.prog ops Q (o :: rest) a w := by
  refine wpList_plain hg fun K hK => ?_
  obtain ⟨i0, hi, hz0, hz1, hz2⟩ := info_parts rowBo
  refine wp_append_own w s x 105 ho base BooT i0 (.bool false) 1 1 Tryz.underlying105 hi hz0 hz1 hz2 rfl (by decide) v _ _ hs hown ⟨sb, 0, none⟩ n cap (bls n f) hx (by simp [bls]) (fun j u hj => ?_) (bls_one n f) (by unfold maxLen; omega) (by omega) hbase ?_
  · have hjn : j < n := by
      have := (List.getElem?_eq_some_iff.1 hj).1
      rwa [bls_len] at this
    rw [bls_at f hjn] at hj
    cases hj
    have := hb.cell hjn
    by_cases e : j = 0
    · subst e; simpa [Addr.add] using this
    · simp only [Addr.add, Nat.zero_add]; first | exact this | (split <;> simp_all)
  · intro v' w' h6 h7 _
    rcases h6.2 with ⟨_, e⟩ | ⟨g, cap', cur, rfl, h1, h2, h3, h4, h5, h8⟩
    · omega
    · rw [Nat.zero_add] at *
      refine hK _ _ (h g cap' w' ⟨⟨cur, h2, by simpa using h5, fun y hy => ?_⟩, h1, h3⟩ h7)
      have e := bls_at f hy
      rw [List.nil_append, Nat.mul_one] at h8
      rw [← h8, List.getElem?_take_of_lt hy] at e
      simpa using e

section
variable {w : World} {B0 ra : Nat} {rl rs rd : Value} {p : Pl} {B xb : Nat} {gv : Value} {g : List Int}
set_option maxRecDepth 100000 in
set_option maxHeartbeats 12800000 in
theorem rkey_any (hr : IsRef w B0 ra rl rs rd p) (hx : IsRK w B xb ra gv g) {B2 sb : Nat} {f : Nat → Bool} (hbo : IsBo w B2 sb (p.length + 1) (p.length + 1) f) {name : Int} (hn : i64R name) : Calls Tryz.prog 98 #[.pointer (some ⟨xb, 0, none⟩), .slice (some ⟨sb, 0, none⟩) (p.length + 1) (p.length + 1), .int .i64 name] w fun e w' => e = .returned (.bool (decide (numP p (keyNd name) ≠ 0) && f (numP p (keyNd name)))) ∧ Below w.heap.size w w' := by
  have c0 : w.cell? ⟨xb, 0, none⟩ = some (.pointer (some ⟨ra, 0, none⟩)) := cellB hx.lay rfl
  have RH := Lib.hid (rhas hr (nok_key hn))
  have hk : numP p (keyNd name) ≠ 0 → numP p (keyNd name) < p.length + 1 := fun h => by
    obtain ⟨i, hi, h1, _⟩ := numP_some h
    omega
  have HBO := Lib.hid hbo
  generalize numP p (keyNd name) = kn at *
  simp only [nodeA, keyNd, emptyS] at RH
  by_cases h0 : kn = 0
  · have hd : decide (kn ≠ 0) = false := decide_eq_false (by simpa using h0)
    rw [hd] at RH
    rw [hd]
    clear hr hx hbo hk HBO hd h0
    go_enter Tryz.func98, Tryz.ntmps98
    go_wp2_with fail
    refine RH.out.mono ?_
    rintro e w1 ⟨rfl, u1⟩
    go_wp2_with fail
    go_returns
    exact ⟨rfl, u1⟩
  · have hd : decide (kn ≠ 0) = true := decide_eq_true h0
    rw [hd] at RH
    rw [hd]
    have hlt := hk h0
    have hk0 : (0 : Int) ≤ (kn : Int) := by omega
    have hk1 : (kn : Int) < ((p.length + 1 : Nat) : Int) := by omega
    clear hr hx hbo hk hd h0
    go_enter Tryz.func98, Tryz.ntmps98
    go_wp2_with fail
    refine RH.out.mono ?_
    rintro e w1 ⟨rfl, u1⟩
    have e0 := (HBO.out.below u1).cell hlt
    go_wp2_with fail
    go_returns
    exact ⟨rfl, u1⟩
def RDerPost (w : World) (p : Pl) (s : Int → Option Way) (e : Ending) (w' : World) : Prop :=
  ∃ ob cap d, e = .returned (.slice (some ⟨ob, 0, none⟩) (p.length + 1) cap) ∧ IsBo w' w.heap.size ob (p.length + 1) cap d ∧ (∀ x : Nat, 1 ≤ x → x ≤ p.length → d x = derB p s (x : Int)) ∧ Below w.heap.size w w'
set_option maxRecDepth 100000 in
set_option maxHeartbeats 51200000 in
theorem rderived_any (hr : IsRef w B0 ra rl rs rd p) (hx : IsRK w B xb ra gv g) (hgin : ∀ x ∈ g, inP p x = true) (hgl : g.length ≤ 65536) {s : Int → Option Way} (hs : ∀ x, (s x).isSome = true ↔ Reach p g x) : Calls Tryz.prog 62 #[.pointer (some ⟨xb, 0, none⟩)] w (RDerPost w p s) := by
  have hlen : p.length ≤ 65536 := hr.ok.len
  have c0 : w.cell? ⟨xb, 0, none⟩ = some (.pointer (some ⟨ra, 0, none⟩)) := cellB hx.lay rfl
  have C0 := Lib.hid c0
  have SE := Lib.hid (rseen_any hr hx hgin hgl)
  have HR := Lib.hid hr
  have HX := Lib.hid hx
  clear hr hx hgin c0
  go_enter Tryz.func62, Tryz.ntmps62
  go_wp2_with fail
  refine SE.out.mono ?_
  rintro e w1 ⟨sb, f, rfl, hbo, hf, u1⟩
  have HFS : Hid (∀ x : Nat, f x = (s (x : Int)).isSome) := Lib.hid fun x => by
    have h1 := hf x
    rw [← hs] at h1
    cases hfx : f x <;> cases hsx : (s (x : Int)).isSome <;> simp_all
  have HBO1 := Lib.hid hbo
  have HU1 := Lib.hid u1
  clear hbo hf hs u1 SE
  have hA := bA0 w1 (.cells #[] BooT)
  have hown0 : (w1.alloc (.cells #[] BooT)).ownsRow w1.heap.size BooT 1 (.slice (some ⟨w1.heap.size, 0, none⟩) 0 0) 0 [] := World.ownsRow_made w1 #[] 0 (Nat.le_refl _) (by unfold maxLen; omega) rfl
  have HO0 := Lib.hid hown0
  have HA := Lib.hid hA
  clear hA hown0
  go_wp2_with (at_builtin; refine wpList_append_bo rfl _ _ rfl w1.heap.size _ rfl HO0.out rfl (HBO1.out.below HA.out) (by omega) (by omega) HA.out.size ?_; intro ob cap w2 hbo2 hg2)
  have HBO2 := Lib.hid hbo2
  have hB2 : Below w1.heap.size w1 w2 := HA.out.trans (grown_below hg2 HA.out.size (fun x e => (own_type HO0.out e).1))
  have HI2 := Lib.hid (HBO1.out.below hB2)
  have HU2 := Lib.hid (bmore HU1.out hB2)
  have hne : sb ≠ ob := by
    have h1 := hbo2.gs
    obtain ⟨C, h2, _⟩ := HBO1.out.lay
    have := (Array.getElem?_eq_some_iff.1 h2).1
    omega
  have HOG : Hid (w.heap.size ≤ ob) := Lib.hid (Nat.le_trans HU1.out.size hbo2.gs)
  have HIG : Hid (w.heap.size ≤ sb) := Lib.hid HBO1.out.gs
  have hbo2' : IsBo w2 w.heap.size ob (p.length + 1) cap f := ⟨hbo2.lay, HOG.out, hbo2.le⟩
  have HBO2' := Lib.hid hbo2'
  clear hbo2 hg2 hB2 HO0 HA HBO1 HU1 HBO2 hbo2'
  obtain ⟨wo, rfl⟩ : ∃ wo, wo = w2 := ⟨_, rfl⟩
  go_loopw [5] (fun v5 wr => ∃ (t : Nat) (o : Nat → Bool), v5 = .int .i64 (t : Int) ∧ 1 ≤ t ∧ t ≤ p.length + 1 ∧ DerD p s t o ∧ IsBo wr w.heap.size ob (p.length + 1) cap o ∧ IsBo wr w.heap.size sb (p.length + 1) (p.length + 1) f ∧ Below w.heap.size w wr) (fun v _ => p.length + 2 - (intOf v).toNat)
  case atStart => exact ⟨1, f, rfl, Nat.le_refl _, by omega, ⟨fun x h1 h2 => by omega, fun x _ => HFS.out x⟩, HBO2'.out, HI2.out, HU2.out⟩
  case round =>
    clear HBO2' HI2 HU2
    obtain ⟨t, o, rfl, ht1, ht2, hdd, hbo, hbi, hb⟩ := hrel
    have HDD := Lib.hid hdd
    have HBOr := Lib.hid hbo
    have HBIr := Lib.hid hbi
    have HBr := Lib.hid hb
    have c0 := bcellAt hb C0.out
    clear hdd hbo hbi
    by_cases hlt : t ≤ p.length
    · have hti0 : (0 : Int) ≤ (t : Int) := by omega
      have hti1 : (t : Int) < ((p.length + 1 : Nat) : Int) := by omega
      have hin : inP p (t : Int) = true := by simp [inP]; omega
      have RN := Lib.hid (rnode (HR.out.below hb) (t : Int))
      rw [hin] at RN
      have hno := atP_nok HR.out.nok (t : Int)
      have hfi := hno.frm
      have hto := hno.to
      have KA := Lib.hid (kid_a HR.out.ok hin)
      have KB := Lib.hid (kid_b HR.out.ok hin)
      have sdt : o t = (s (t : Int)).isSome := HDD.out.high t (Nat.le_refl _)
      have PUT := Lib.hid (fun (b : Bool) (h : b = derB p s (t : Int)) => HDD.out.put (t := t) h)
      have SKP := Lib.hid (fun (h : derB p s (t : Int) = (s (t : Int)).isSome) => HDD.out.skip (t := t) h)
      have F1 := Lib.hid (fun (h : freeB (atP p (t : Int)).1.kind = true) => der_free (s := s) h)
      have F4 := Lib.hid (fun (h : (atP p (t : Int)).1.kind = 4) => der_pair (s := s) HR.out.ok hin h)
      have F5 := Lib.hid (fun (h : (atP p (t : Int)).1.kind = 5) => der_hash (s := s) h)
      have F7 := Lib.hid (fun (h : (atP p (t : Int)).1.kind = 7 ∨ (atP p (t : Int)).1.kind = 8 ∨ (atP p (t : Int)).1.kind = 9) => show_eq (s := s) h)
      have F0 := Lib.hid (fun (h : (atP p (t : Int)).1.kind ≠ 1 ∧ (atP p (t : Int)).1.kind ≠ 2 ∧ (atP p (t : Int)).1.kind ≠ 3 ∧ (atP p (t : Int)).1.kind ≠ 4 ∧ (atP p (t : Int)).1.kind ≠ 5 ∧ (atP p (t : Int)).1.kind ≠ 7 ∧ (atP p (t : Int)).1.kind ≠ 8 ∧ (atP p (t : Int)).1.kind ≠ 9) => der_other (s := s) h)
      unfold keyP holdN at F7
      simp only [← HFS.out] at F7
      rw [HFS.out t] at F7
      generalize derB p s (t : Int) = dd at PUT SKP F1 F4 F5 F7 F0
      generalize (s (t : Int)).isSome = sd at sdt SKP F4 F5 F7 F0
      generalize (atP p (t : Int)).1 = n at *
      obtain ⟨kk, ff, tt, uu, ss, xa, xb'⟩ := n
      simp only [nodeA] at RN
      simp only at hfi hto F1 F4 F5 F7 F0 KA KB
      clear hno hin hb HFS
      go_wp2_with fail
      refine RN.out.mono ?_
      rintro e w4 ⟨rfl, u4⟩
      have b5 := bA0 w4 (.cells #[.int .i64 kk, .int .i64 ff, .int .i64 tt, .int .u64 uu, .string ss, .int .i64 xa, .int .i64 xb'] NodeT)
      have hn5 : (w4.alloc (.cells #[.int .i64 kk, .int .i64 ff, .int .i64 tt, .int .u64 uu, .string ss, .int .i64 xa, .int .i64 xb'] NodeT)).heap[w4.heap.size]? = some (Obj.cells #[.int .i64 kk, .int .i64 ff, .int .i64 tt, .int .u64 uu, .string ss, .int .i64 xa, .int .i64 xb'] NodeT) := heap_alloc_new _ _
      have H5 := Lib.hid (bmore u4 b5)
      have HN5 := Lib.hid hn5
      clear u4 b5 hn5 RN
      go_upto_region 7 with fail
      generalize (w4.alloc (.cells #[.int .i64 kk, .int .i64 ff, .int .i64 tt, .int .u64 uu, .string ss, .int .i64 xa, .int .i64 xb'] NodeT)) = w5 at *
      generalize w4.heap.size = nb at *
      have hn5 := HN5.out
      have y0 : w5.cell? ⟨nb, 0, none⟩ = some (.int .i64 kk) := cellB (j := 0) hn5 rfl
      have y1 : w5.cell? ⟨nb, 1, none⟩ = some (.int .i64 ff) := cellB (j := 1) hn5 rfl
      have y2 : w5.cell? ⟨nb, 2, none⟩ = some (.int .i64 tt) := cellB (j := 2) hn5 rfl
      have y5 : w5.cell? ⟨nb, 5, none⟩ = some (.int .i64 xa) := cellB (j := 5) hn5 rfl
      have y6 : w5.cell? ⟨nb, 6, none⟩ = some (.int .i64 xb') := cellB (j := 6) hn5 rfl
      have HBO5 := Lib.hid (HBOr.out.below H5.out)
      have HBI5 := Lib.hid (HBIr.out.below H5.out)
      have HB5 := Lib.hid (bmore HBr.out H5.out)
      have eT := HBO5.out.cell (x := t) (by omega)
      have fT := HBO5.out.warm t
      rw [sdt] at eT
      clear hn5 c0
      by_cases h1 : kk = 1
      · subst h1
        obtain rfl : dd = true := F1.out (by rfl)
        clear F1 F4 F5 F7 F0 KA KB SKP HDD
        have HD6 := Lib.hid (PUT.out true (by rfl))
        have HP6 := Lib.hid (HBO5.out.put (x := t) (by omega) true)
        have HI6 := Lib.hid (HBI5.out.beside HBO5.out hne t (.bool true))
        have HB6 := Lib.hid (HB5.out.setCell (p := ⟨ob, t, none⟩) HBO5.out.gs (.bool true))
        clear PUT
        go_wp2_with fail
        go_roundw
        case rel => exact ⟨t + 1, _, by go_num, by omega, by omega, HD6.out, HP6.out, HI6.out, HB6.out⟩
        case measure => simp [intOf] <;> omega
      have h1' := ebF h1
      by_cases h2 : kk = 2
      · subst h2
        obtain rfl : dd = true := F1.out (by rfl)
        clear F1 F4 F5 F7 F0 KA KB SKP HDD
        have HD6 := Lib.hid (PUT.out true (by rfl))
        have HP6 := Lib.hid (HBO5.out.put (x := t) (by omega) true)
        have HI6 := Lib.hid (HBI5.out.beside HBO5.out hne t (.bool true))
        have HB6 := Lib.hid (HB5.out.setCell (p := ⟨ob, t, none⟩) HBO5.out.gs (.bool true))
        clear PUT
        go_wp2_with fail
        go_roundw
        case rel => exact ⟨t + 1, _, by go_num, by omega, by omega, HD6.out, HP6.out, HI6.out, HB6.out⟩
        case measure => simp [intOf] <;> omega
      have h2' := ebF h2
      by_cases h3 : kk = 3
      · subst h3
        obtain rfl : dd = true := F1.out (by rfl)
        clear F1 F4 F5 F7 F0 KA KB SKP HDD
        have HD6 := Lib.hid (PUT.out true (by rfl))
        have HP6 := Lib.hid (HBO5.out.put (x := t) (by omega) true)
        have HI6 := Lib.hid (HBI5.out.beside HBO5.out hne t (.bool true))
        have HB6 := Lib.hid (HB5.out.setCell (p := ⟨ob, t, none⟩) HBO5.out.gs (.bool true))
        clear PUT
        go_wp2_with fail
        go_roundw
        case rel => exact ⟨t + 1, _, by go_num, by omega, by omega, HD6.out, HP6.out, HI6.out, HB6.out⟩
        case measure => simp [intOf] <;> omega
      have h3' := ebF h3
      by_cases h4 : kk = 4
      · subst h4
        obtain ⟨A, rfl, a1, a2⟩ := KA.out (.inl rfl)
        obtain ⟨Bb, rfl, b1, b2⟩ := KB.out rfl
        have hA0 : (0 : Int) ≤ (A : Int) := by omega
        have hA1 : (A : Int) < ((p.length + 1 : Nat) : Int) := by omega
        have hB0' : (0 : Int) ≤ (Bb : Int) := by omega
        have hB1' : (Bb : Int) < ((p.length + 1 : Nat) : Int) := by omega
        have eA := HBO5.out.cell (x := A) (by omega)
        have eB := HBO5.out.cell (x := Bb) (by omega)
        rw [HDD.out.low A a2 a1] at eA
        rw [HDD.out.low Bb b2 b1] at eB
        have f4 := F4.out rfl
        clear F1 F4 F5 F7 F0 KA KB SKP HDD
        generalize derB p s (A : Int) = da at *
        generalize derB p s (Bb : Int) = db at *
        subst f4
        cases sd with
        | true =>
          have HD6 := Lib.hid (PUT.out true (by simp))
          have HP6 := Lib.hid (HBO5.out.put (x := t) (by omega) true)
          have HI6 := Lib.hid (HBI5.out.beside HBO5.out hne t (.bool true))
          have HB6 := Lib.hid (HB5.out.setCell (p := ⟨ob, t, none⟩) HBO5.out.gs (.bool true))
          clear PUT
          go_wp2_with fail
          go_roundw
          case rel => exact ⟨t + 1, _, by go_num, by omega, by omega, HD6.out, HP6.out, HI6.out, HB6.out⟩
          case measure => simp [intOf] <;> omega
        | false =>
          cases da with
          | false =>
            have HD6 := Lib.hid (PUT.out false (by simp))
            have HP6 := Lib.hid (HBO5.out.put (x := t) (by omega) false)
            have HI6 := Lib.hid (HBI5.out.beside HBO5.out hne t (.bool false))
            have HB6 := Lib.hid (HB5.out.setCell (p := ⟨ob, t, none⟩) HBO5.out.gs (.bool false))
            clear PUT
            go_wp2_with fail
            go_roundw
            case rel => exact ⟨t + 1, _, by go_num, by omega, by omega, HD6.out, HP6.out, HI6.out, HB6.out⟩
            case measure => simp [intOf] <;> omega
          | true =>
            have HD6 := Lib.hid (PUT.out db (by simp))
            have HP6 := Lib.hid (HBO5.out.put (x := t) (by omega) db)
            have HI6 := Lib.hid (HBI5.out.beside HBO5.out hne t (.bool db))
            have HB6 := Lib.hid (HB5.out.setCell (p := ⟨ob, t, none⟩) HBO5.out.gs (.bool db))
            clear PUT
            go_wp2_with fail
            go_roundw
            case rel => exact ⟨t + 1, _, by go_num, by omega, by omega, HD6.out, HP6.out, HI6.out, HB6.out⟩
            case measure => simp [intOf] <;> omega
      have h4' := ebF h4
      by_cases h5 : kk = 5
      · subst h5
        obtain ⟨A, rfl, a1, a2⟩ := KA.out (.inr (.inl rfl))
        have hA0 : (0 : Int) ≤ (A : Int) := by omega
        have hA1 : (A : Int) < ((p.length + 1 : Nat) : Int) := by omega
        have eA := HBO5.out.cell (x := A) (by omega)
        rw [HDD.out.low A a2 a1] at eA
        have f5 := F5.out rfl
        clear F1 F4 F5 F7 F0 KA KB SKP HDD
        generalize derB p s (A : Int) = da at *
        subst f5
        cases sd with
        | true =>
          have HD6 := Lib.hid (PUT.out true (by simp))
          have HP6 := Lib.hid (HBO5.out.put (x := t) (by omega) true)
          have HI6 := Lib.hid (HBI5.out.beside HBO5.out hne t (.bool true))
          have HB6 := Lib.hid (HB5.out.setCell (p := ⟨ob, t, none⟩) HBO5.out.gs (.bool true))
          clear PUT
          go_wp2_with fail
          go_roundw
          case rel => exact ⟨t + 1, _, by go_num, by omega, by omega, HD6.out, HP6.out, HI6.out, HB6.out⟩
          case measure => simp [intOf] <;> omega
        | false =>
          have HD6 := Lib.hid (PUT.out da (by simp))
          have HP6 := Lib.hid (HBO5.out.put (x := t) (by omega) da)
          have HI6 := Lib.hid (HBI5.out.beside HBO5.out hne t (.bool da))
          have HB6 := Lib.hid (HB5.out.setCell (p := ⟨ob, t, none⟩) HBO5.out.gs (.bool da))
          clear PUT
          go_wp2_with fail
          go_roundw
          case rel => exact ⟨t + 1, _, by go_num, by omega, by omega, HD6.out, HP6.out, HI6.out, HB6.out⟩
          case measure => simp [intOf] <;> omega
      have h5' := ebF h5
      by_cases h7 : kk = 7
      · subst h7
        obtain ⟨A, rfl, a1, a2⟩ := KA.out (.inr (.inr (.inl rfl)))
        have hA0 : (0 : Int) ≤ (A : Int) := by omega
        have hA1 : (A : Int) < ((p.length + 1 : Nat) : Int) := by omega
        have eA := HBO5.out.cell (x := A) (by omega)
        rw [HDD.out.low A a2 a1] at eA
        have f7 := F7.out (.inl rfl)
        rw [if_neg (by decide)] at f7
        have RK := Lib.hid (rkey_any (HR.out.below HB5.out) (HX.out.below HB5.out) HBI5.out hfi)
        clear F1 F4 F5 F7 F0 KA KB SKP HDD
        generalize derB p s (A : Int) = da at *
        generalize (decide (numP p (keyNd ff) ≠ 0) && f (numP p (keyNd ff))) = kb at *
        subst f7
        cases sd with
        | true =>
          have HD6 := Lib.hid (PUT.out true (by simp))
          have HP6 := Lib.hid (HBO5.out.put (x := t) (by omega) true)
          have HI6 := Lib.hid (HBI5.out.beside HBO5.out hne t (.bool true))
          have HB6 := Lib.hid (HB5.out.setCell (p := ⟨ob, t, none⟩) HBO5.out.gs (.bool true))
          clear PUT
          go_wp2_with fail
          go_roundw
          case rel => exact ⟨t + 1, _, by go_num, by omega, by omega, HD6.out, HP6.out, HI6.out, HB6.out⟩
          case measure => simp [intOf] <;> omega
        | false =>
          cases da with
          | false =>
            have HD6 := Lib.hid (PUT.out false (by simp))
            have HP6 := Lib.hid (HBO5.out.put (x := t) (by omega) false)
            have HI6 := Lib.hid (HBI5.out.beside HBO5.out hne t (.bool false))
            have HB6 := Lib.hid (HB5.out.setCell (p := ⟨ob, t, none⟩) HBO5.out.gs (.bool false))
            clear PUT
            go_wp2_with fail
            go_roundw
            case rel => exact ⟨t + 1, _, by go_num, by omega, by omega, HD6.out, HP6.out, HI6.out, HB6.out⟩
            case measure => simp [intOf] <;> omega
          | true =>
            go_wp2_with fail
            refine RK.out.mono ?_
            rintro e w6 ⟨rfl, u6⟩
            have HBO7 := Lib.hid (HBO5.out.below u6)
            have HBI7 := Lib.hid (HBI5.out.below u6)
            have HB7 := Lib.hid (bmore HB5.out u6)
            clear HBO5 HBI5 HB5 eA eT fT y0 y1 y2 y5 y6 u6
            have HBO5 := HBO7
            have HBI5 := HBI7
            have HB5 := HB7
            have eT := HBO5.out.cell (x := t) (by omega)
            have fT := HBO5.out.warm t
            rw [sdt] at eT
            have HD6 := Lib.hid (PUT.out kb (by simp))
            have HP6 := Lib.hid (HBO5.out.put (x := t) (by omega) kb)
            have HI6 := Lib.hid (HBI5.out.beside HBO5.out hne t (.bool kb))
            have HB6 := Lib.hid (HB5.out.setCell (p := ⟨ob, t, none⟩) HBO5.out.gs (.bool kb))
            clear PUT
            go_wp2_with fail
            go_roundw
            case rel => exact ⟨t + 1, _, by go_num, by omega, by omega, HD6.out, HP6.out, HI6.out, HB6.out⟩
            case measure => simp [intOf] <;> omega
      have h7' := ebF h7
      by_cases h8 : kk = 8
      · subst h8
        obtain ⟨A, rfl, a1, a2⟩ := KA.out (.inr (.inr (.inr (.inl rfl))))
        have hA0 : (0 : Int) ≤ (A : Int) := by omega
        have hA1 : (A : Int) < ((p.length + 1 : Nat) : Int) := by omega
        have eA := HBO5.out.cell (x := A) (by omega)
        rw [HDD.out.low A a2 a1] at eA
        have f7 := F7.out (.inr (.inl rfl))
        rw [if_neg (by decide)] at f7
        have RK := Lib.hid (rkey_any (HR.out.below HB5.out) (HX.out.below HB5.out) HBI5.out hfi)
        clear F1 F4 F5 F7 F0 KA KB SKP HDD
        generalize derB p s (A : Int) = da at *
        generalize (decide (numP p (keyNd ff) ≠ 0) && f (numP p (keyNd ff))) = kb at *
        subst f7
        cases sd with
        | true =>
          have HD6 := Lib.hid (PUT.out true (by simp))
          have HP6 := Lib.hid (HBO5.out.put (x := t) (by omega) true)
          have HI6 := Lib.hid (HBI5.out.beside HBO5.out hne t (.bool true))
          have HB6 := Lib.hid (HB5.out.setCell (p := ⟨ob, t, none⟩) HBO5.out.gs (.bool true))
          clear PUT
          go_wp2_with fail
          go_roundw
          case rel => exact ⟨t + 1, _, by go_num, by omega, by omega, HD6.out, HP6.out, HI6.out, HB6.out⟩
          case measure => simp [intOf] <;> omega
        | false =>
          cases da with
          | false =>
            have HD6 := Lib.hid (PUT.out false (by simp))
            have HP6 := Lib.hid (HBO5.out.put (x := t) (by omega) false)
            have HI6 := Lib.hid (HBI5.out.beside HBO5.out hne t (.bool false))
            have HB6 := Lib.hid (HB5.out.setCell (p := ⟨ob, t, none⟩) HBO5.out.gs (.bool false))
            clear PUT
            go_wp2_with fail
            go_roundw
            case rel => exact ⟨t + 1, _, by go_num, by omega, by omega, HD6.out, HP6.out, HI6.out, HB6.out⟩
            case measure => simp [intOf] <;> omega
          | true =>
            go_wp2_with fail
            refine RK.out.mono ?_
            rintro e w6 ⟨rfl, u6⟩
            have HBO7 := Lib.hid (HBO5.out.below u6)
            have HBI7 := Lib.hid (HBI5.out.below u6)
            have HB7 := Lib.hid (bmore HB5.out u6)
            clear HBO5 HBI5 HB5 eA eT fT y0 y1 y2 y5 y6 u6
            have HBO5 := HBO7
            have HBI5 := HBI7
            have HB5 := HB7
            have eT := HBO5.out.cell (x := t) (by omega)
            have fT := HBO5.out.warm t
            rw [sdt] at eT
            have HD6 := Lib.hid (PUT.out kb (by simp))
            have HP6 := Lib.hid (HBO5.out.put (x := t) (by omega) kb)
            have HI6 := Lib.hid (HBI5.out.beside HBO5.out hne t (.bool kb))
            have HB6 := Lib.hid (HB5.out.setCell (p := ⟨ob, t, none⟩) HBO5.out.gs (.bool kb))
            clear PUT
            go_wp2_with fail
            go_roundw
            case rel => exact ⟨t + 1, _, by go_num, by omega, by omega, HD6.out, HP6.out, HI6.out, HB6.out⟩
            case measure => simp [intOf] <;> omega
      have h8' := ebF h8
      by_cases h9 : kk = 9
      · subst h9
        obtain ⟨A, rfl, a1, a2⟩ := KA.out (.inr (.inr (.inr (.inr rfl))))
        have hA0 : (0 : Int) ≤ (A : Int) := by omega
        have hA1 : (A : Int) < ((p.length + 1 : Nat) : Int) := by omega
        have eA := HBO5.out.cell (x := A) (by omega)
        rw [HDD.out.low A a2 a1] at eA
        have f7 := F7.out (.inr (.inr rfl))
        rw [if_pos rfl] at f7
        have RK := Lib.hid (rkey_any (HR.out.below HB5.out) (HX.out.below HB5.out) HBI5.out hto)
        clear F1 F4 F5 F7 F0 KA KB SKP HDD
        generalize derB p s (A : Int) = da at *
        generalize (decide (numP p (keyNd tt) ≠ 0) && f (numP p (keyNd tt))) = kb at *
        subst f7
        cases sd with
        | true =>
          have HD6 := Lib.hid (PUT.out true (by simp))
          have HP6 := Lib.hid (HBO5.out.put (x := t) (by omega) true)
          have HI6 := Lib.hid (HBI5.out.beside HBO5.out hne t (.bool true))
          have HB6 := Lib.hid (HB5.out.setCell (p := ⟨ob, t, none⟩) HBO5.out.gs (.bool true))
          clear PUT
          go_wp2_with fail
          go_roundw
          case rel => exact ⟨t + 1, _, by go_num, by omega, by omega, HD6.out, HP6.out, HI6.out, HB6.out⟩
          case measure => simp [intOf] <;> omega
        | false =>
          cases da with
          | false =>
            have HD6 := Lib.hid (PUT.out false (by simp))
            have HP6 := Lib.hid (HBO5.out.put (x := t) (by omega) false)
            have HI6 := Lib.hid (HBI5.out.beside HBO5.out hne t (.bool false))
            have HB6 := Lib.hid (HB5.out.setCell (p := ⟨ob, t, none⟩) HBO5.out.gs (.bool false))
            clear PUT
            go_wp2_with fail
            go_roundw
            case rel => exact ⟨t + 1, _, by go_num, by omega, by omega, HD6.out, HP6.out, HI6.out, HB6.out⟩
            case measure => simp [intOf] <;> omega
          | true =>
            go_wp2_with fail
            refine RK.out.mono ?_
            rintro e w6 ⟨rfl, u6⟩
            have HBO7 := Lib.hid (HBO5.out.below u6)
            have HBI7 := Lib.hid (HBI5.out.below u6)
            have HB7 := Lib.hid (bmore HB5.out u6)
            clear HBO5 HBI5 HB5 eA eT fT y0 y1 y2 y5 y6 u6
            have HBO5 := HBO7
            have HBI5 := HBI7
            have HB5 := HB7
            have eT := HBO5.out.cell (x := t) (by omega)
            have fT := HBO5.out.warm t
            rw [sdt] at eT
            have HD6 := Lib.hid (PUT.out kb (by simp))
            have HP6 := Lib.hid (HBO5.out.put (x := t) (by omega) kb)
            have HI6 := Lib.hid (HBI5.out.beside HBO5.out hne t (.bool kb))
            have HB6 := Lib.hid (HB5.out.setCell (p := ⟨ob, t, none⟩) HBO5.out.gs (.bool kb))
            clear PUT
            go_wp2_with fail
            go_roundw
            case rel => exact ⟨t + 1, _, by go_num, by omega, by omega, HD6.out, HP6.out, HI6.out, HB6.out⟩
            case measure => simp [intOf] <;> omega
      have h9' := ebF h9
      have HD6 := Lib.hid (SKP.out (F0.out ⟨h1, h2, h3, h4, h5, h7, h8, h9⟩))
      clear F1 F4 F5 F7 F0 KA KB SKP HDD PUT
      go_wp2_with fail
      go_roundw
      case rel => exact ⟨t + 1, _, by go_num, by omega, by omega, HD6.out, HBO5.out, HBI5.out, HB5.out⟩
      case measure => simp [intOf] <;> omega
    · obtain rfl : t = p.length + 1 := by omega
      have HFI : Hid (RDerPost w p s (.returned (.slice (some ⟨ob, 0, none⟩) (p.length + 1) cap)) wr) := Lib.hid ⟨ob, cap, o, rfl, HBOr.out, fun x x1 x2 => HDD.out.low x (by omega) x1, HBr.out⟩
      clear hb
      go_wp2_with fail
      go_returns
      exact HFI.out
end
end Go.Proofs.YtgaklaajbepfaaaGreatDoor
namespace Go.Proofs.YtgaklaajbepfaaaGreatDoor
open Go.RowKit Go.Maps
set_option linter.unusedVariables false

set_option maxRecDepth 100000 in
set_option maxHeartbeats 6400000 in
theorem rsame_any {w : World} {va vb : Value} {l : List Int} (ha : Row w 1 va l.length (ints l)) (hb : Row w 1 vb l.length (ints l)) (hl : l.length ≤ 1000000) : Calls Tryz.prog 60 #[va, vb] w fun e w' => e = .returned (.bool true) ∧ Below w.heap.size w w' := by
  obtain ⟨aa, ac, rfl, hax⟩ := ha.at
  obtain ⟨ba, bc, rfl, hbx⟩ := hb.at
  have HAX := Lib.hid hax
  have HBX := Lib.hid hbx
  clear ha hb hax hbx
  go_enter Tryz.func60, Tryz.ntmps60
  go_wp2_with fail
  skip
  go_loopw [5] (fun v5 wr => ∃ i : Nat, v5 = .int .i64 (i : Int) ∧ i ≤ l.length ∧ Below w.heap.size w wr) (fun v _ => l.length - (intOf v).toNat)
  case atStart => exact ⟨0, rfl, Nat.zero_le _, Below.refl _ _⟩
  case round =>
    obtain ⟨i, rfl, hi, hbl⟩ := hrel
    have HB := Lib.hid hbl
    by_cases hlt : i < l.length
    · obtain ⟨ab, ao, rfl, qa⟩ := HAX.out (by omega)
      obtain ⟨bb, bo, rfl, qb⟩ := HBX.out (by omega)
      have c0 := bcellAt hbl (qa i _ (ints_at l i hlt))
      have c1 := bcellAt hbl (qb i _ (ints_at l i hlt))
      have hi0 : (0 : Int) ≤ (i : Int) := by omega
      have hi1 : (i : Int) < (l.length : Int) := by omega
      generalize l[i] = y at *
      clear qa qb hbl
      go_wp2_with fail
      go_quiet (fail)
      have HBQ := Lib.hid (bmore HB.out (bdn wr nq))
      clear c0 c1
      go_wp2_with fail
      go_roundw
      case rel => exact ⟨i + 1, by go_num, by omega, HBQ.out⟩
      case measure => simp [intOf] <;> omega
    · obtain rfl : i = l.length := by omega
      clear hbl hlt
      go_wp2_with fail
      go_returns
      exact ⟨rfl, HB.out⟩
theorem own_baseS {w : World} {B B' n size : Nat} {e : TypeId} {v : Value} {xs : List Value} (h : w.ownsRow B e size v n xs) (hB : B' ≤ B) : w.ownsRow B' e size v n xs :=
  ⟨h.1, h.2.imp id fun ⟨g, cap, cur, e1, hb, rest⟩ => ⟨g, cap, cur, e1, Nat.le_trans hB hb, rest⟩⟩
def seenU (s : Int → Option Way) (n : Nat) : List Int := ((List.range n).map fun i : Nat => (i : Int) + 1).filter fun t => (s t).isSome
theorem seenU_len (s : Int → Option Way) (n : Nat) : (seenU s n).length ≤ n := by
  unfold seenU
  exact Nat.le_trans (List.length_filter_le _ _) (by simp)
theorem seenU_yes {s : Int → Option Way} {n : Nat} (h : (s ((n : Int) + 1)).isSome = true) : seenU s (n + 1) = seenU s n ++ [(n : Int) + 1] := by
  have := seenL_upto [] s n
  unfold seenU
  rw [this, if_pos h]
theorem seenU_no {s : Int → Option Way} {n : Nat} (h : (s ((n : Int) + 1)).isSome = false) : seenU s (n + 1) = seenU s n := by
  have := seenL_upto [] s n
  unfold seenU
  rw [this, if_neg (by rw [h]; decide), List.append_nil]
set_option maxRecDepth 100000 in
set_option maxHeartbeats 12800000 in
theorem rkseen_any {w : World} {B0 ra : Nat} {rl rs rd : Value} {p : Pl} {B xb : Nat} {gv : Value} {g : List Int} (hr : IsRef w B0 ra rl rs rd p) (hx : IsRK w B xb ra gv g) (hgin : ∀ x ∈ g, inP p x = true) (hgl : g.length ≤ 65536) {s : Int → Option Way} (hs : ∀ x, (s x).isSome = true ↔ Reach p g x) : Calls Tryz.prog 61 #[.pointer (some ⟨xb, 0, none⟩)] w fun e w' => ∃ v, e = .returned v ∧ w'.ownsRow w.heap.size TermT 1 v (seenL p s).length (ints (seenL p s)) ∧ Below w.heap.size w w' := by
  have hlen : p.length ≤ 65536 := hr.ok.len
  have SE := Lib.hid (rseen_any hr hx hgin hgl)
  clear hr hx hgin
  go_enter Tryz.func61, Tryz.ntmps61
  go_wp2_with fail
  refine SE.out.mono ?_
  rintro e w1 ⟨sb, f, rfl, hbo, hf, u1⟩
  have HFS : Hid (∀ x : Nat, f x = (s (x : Int)).isSome) := Lib.hid fun x => by
    have h1 := hf x
    rw [← hs] at h1
    cases hfx : f x <;> cases hsx : (s (x : Int)).isSome <;> simp_all
  have HBO := Lib.hid hbo
  have HU := Lib.hid u1
  have HSB : Hid (sb < w1.heap.size) := Lib.hid (by obtain ⟨C, h1, _⟩ := hbo.lay; exact (Array.getElem?_eq_some_iff.1 h1).1)
  clear hbo hf hs u1 SE
  go_wp2_with fail
  go_loopw [4, 5] (fun v4 v5 wr => ∃ n : Nat, v5 = .int .i64 (((n + 1 : Nat) : Int)) ∧ n ≤ p.length ∧ wr.ownsRow w1.heap.size TermT 1 v4 (seenU s n).length (ints (seenU s n)) ∧ Below w1.heap.size w1 wr) (fun _ v _ => p.length + 2 - (intOf v).toNat)
  case atStart => exact ⟨0, rfl, Nat.zero_le _, World.ownsRow_nil _ _ _ 1, Below.refl _ _⟩
  case round =>
    obtain ⟨n, rfl, hn, hrow, hb⟩ := hrel
    have HRW := Lib.hid hrow
    have HB := Lib.hid hb
    have hul := seenU_len s n
    obtain ⟨ta, tc, rfl⟩ := (row_of_own hrow).shape
    clear hrow
    by_cases hlt : n < p.length
    · have e0 := (HBO.out.below hb).cell (x := n + 1) (by omega)
      have hst : f (n + 1) = (s ((n : Int) + 1)).isSome := by rw [HFS.out]; rfl
      rw [hst] at e0
      have hn0 : (0 : Int) ≤ ((n + 1 : Nat) : Int) := by omega
      have hn1 : ((n + 1 : Nat) : Int) < ((p.length + 1 : Nat) : Int) := by omega
      have HY := Lib.hid (fun h => seenU_yes (s := s) (n := n) h)
      have HN := Lib.hid (fun h => seenU_no (s := s) (n := n) h)
      clear hst HFS
      cases hq : (s ((n : Int) + 1)).isSome with
      | false =>
        rw [hq] at e0
        have HR2 : Hid (wr.ownsRow w1.heap.size TermT 1 (.slice ta (seenU s n).length tc) (seenU s (n + 1)).length (ints (seenU s (n + 1)))) := Lib.hid (by rw [HN.out hq]; exact HRW.out)
        clear hb hq HY HN
        go_wp2_with fail
        go_roundw
        case rel => exact ⟨n + 1, by go_num, by omega, HR2.out, HB.out⟩
        case measure => simp [intOf] <;> omega
      | true =>
        rw [hq] at e0
        have hA := bA0 wr (.cells #[.int .i64 (((n + 1 : Nat) : Int))] TermT)
        have hnA : (wr.alloc (.cells #[.int .i64 (((n + 1 : Nat) : Int))] TermT)).heap[wr.heap.size]? = some (Obj.cells #[.int .i64 (((n + 1 : Nat) : Int))] TermT) := heap_alloc_new _ _
        have HA := Lib.hid hA
        have HNA := Lib.hid hnA
        have HOA := Lib.hid (own_hold HRW.out (Hold.below hA))
        have HYQ := Lib.hid (HY.out hq)
        have hsz1 : w1.heap.size ≤ wr.heap.size := hb.size
        clear hA hnA hb hq HY HN
        go_wp2_with (at_builtin; refine wpList_append_tw rfl _ _ rfl w1.heap.size _ (seenU s n) rfl HOA.out wr.heap.size (((n + 1 : Nat) : Int)) rfl (cellB (j := 0) HNA.out rfl) (by omega) (Nat.le_trans hsz1 HA.out.size) ?_; intro v5 w5 hrow5 hg5 _)
        have hB5 : Below w1.heap.size w1 w5 := (bmore HB.out HA.out).trans (grown_below hg5 (Nat.le_trans hsz1 HA.out.size) (fun x e => (own_type HOA.out e).1))
        have HB5 := Lib.hid hB5
        have HR5 : Hid (w5.ownsRow w1.heap.size TermT 1 v5 (seenU s (n + 1)).length (ints (seenU s (n + 1)))) := Lib.hid (by rw [HYQ.out]; exact hrow5)
        clear hrow5 hg5 hB5 HOA HNA HA
        go_wp2_with fail
        go_roundw
        case rel => exact ⟨n + 1, by go_num, by omega, HR5.out, HB5.out⟩
        case measure => simp [intOf] <;> omega
    · obtain rfl : n = p.length := by omega
      have HF : Hid (wr.ownsRow w.heap.size TermT 1 (.slice ta (seenU s p.length).length tc) (seenL p s).length (ints (seenL p s))) := Lib.hid (own_baseS HRW.out HU.out.size)
      have HBF := Lib.hid (bmore HU.out HB.out)
      clear hb hlt
      go_wp2_with fail
      go_returns
      exact ⟨_, rfl, HF.out, HBF.out⟩
end Go.Proofs.YtgaklaajbepfaaaGreatDoor
