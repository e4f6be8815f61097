/-
  How a proof is laid: one term.
-/
import Derived.Test.YtgaklaajbepfaaaGreatDoorEKnowP
import Derived.Test.YtgaklaajbepfaaaGreatDoorEDer
import Derived.Test.YtgaklaajbepfaaaGreatDoorEChk
namespace Go.Proofs.YtgaklaajbepfaaaGreatDoor
open Go.RowKit Go.Maps
set_option linter.unusedVariables false

abbrev NumT : TypeId := 129
abbrev PKnowT : TypeId := 30
abbrev FnT : TypeId := 40
abbrev SlStT : TypeId := 81
theorem rowSt : (Tryz.prog.info? StT).map (fun i => (i.zero, i.size, i.bytes)) = some (some (.agg #[.int .i64 0, .int .i64 0, .int .i64 0, .int .i64 0]), 4, 32) := by kernel_rfl
theorem zeroI (w : World) : (zeroValue IntT).run Tryz.prog w = .ok (.int .i64 0) w := by kernel_rfl
/-- append of one step to a list of the call's own, and where the answer lies. -/
theorem wpList_append_st {w : World} {ops : Array Oper} {rest : List Oper} {o : Oper} {a : Act} {Q : Exit → Act → World → Prop} (hg : o.guard = none) (s x : Operand)
    (ho : o.op = .call { callee := .builtin .append, args := #[s, x], argTypes := #[SlStT, SlStT] })
    (base : Nat) (v : Value) (xs : List St) (hs : a.eval s = v) (hown : w.ownsRow base StT 4 v xs.length (sts xs)) (b : Nat) (t : St) (hx : a.eval x = .slice (some ⟨b, 0, none⟩) 1 1) (hb : w.heap[b]? = some (Obj.cells (stA t) StT))
    (hlen : xs.length ≤ 1000000) (hbase : base ≤ w.heap.size)
    (h : ∀ v' w', w'.ownsRow base StT 4 v' (xs ++ [t]).length (sts (xs ++ [t])) → w.grownBy w' v.ownBlock → (v'.ownBlock = v.ownBlock ∨ v'.ownBlock = some w.heap.size) → wpList Tryz.prog ops Q rest (a.put o.dst v') w') : wpList Tryz.prog ops Q (o :: rest) a w := by
  obtain ⟨i0, hi, hz0, hz1, hz2⟩ := info_parts rowSt
  refine wpList_append_at w hg s x SlStT ho base StT i0 (.agg #[.int .i64 0, .int .i64 0, .int .i64 0, .int .i64 0]) 4 32 Tryz.underlying81 hi hz0 hz1 hz2 rfl (by decide) v _ _ hs hown ⟨b, 0, none⟩ 1 1 (stC t) hx (by decide) rfl (fun j u hj => by
    have hadd : (⟨b, 0, none⟩ : Addr).add j = ⟨b, j, none⟩ := by unfold Addr.add; split <;> simp_all
    rw [hadd]
    refine cellB hb ?_
    rw [← hj]; simp [stA, stC]) (by simp [stC]; exact ⟨rfl, rfl, rfl, rfl⟩) (by unfold maxLen; omega) (by omega) hbase ?_
  intro v' w' h6 h7 h8
  exact h v' w' (by simpa [sts_append, sts] using h6) h7 h8

/-- The numbers of the steps, in memory. -/
def NumM (w : World) (nm : Nat) (L : List St) : Prop := ∃ D : DataW Unit, w.ownsMap Tryz.prog TermT (plainElem Tryz.prog IntT) nm L.length D ∧ ∀ x, i64R x → Maps.has D (.int .i64 x) = (posL L x).isSome ∧ D.atKey (.int .i64 x) (.lit (.int .i64 0)) = .lit (.int .i64 (((posL L x).getD 0 : Nat) : Int))
theorem NumM.new (w : World) : NumM (w.alloc (.map #[] 0)) w.heap.size [] := ⟨_, World.ownsMap_made w _ _ _, fun x _ => ⟨rfl, rfl⟩⟩
theorem NumM.same {w w' : World} {nm : Nat} {L : List St} (h : NumM w nm L) (hs : ∀ es c, w.heap[nm]? = some (.map es c) → w'.heap[nm]? = some (.map es c)) : NumM w' nm L := by
  obtain ⟨D, ⟨es, c, hb, r⟩, h2⟩ := h
  exact ⟨D, ⟨es, c, hs _ _ hb, r⟩, h2⟩
theorem NumM.mapb {w : World} {nm : Nat} {L : List St} (h : NumM w nm L) : ∃ es c, w.heap[nm]? = some (.map es c) := by
  obtain ⟨D, ⟨es, c, hb, _⟩, _⟩ := h
  exact ⟨es, c, hb⟩
theorem NumM.below {w w' : World} {nm : Nat} {L : List St} (h : NumM w nm L) (hb : Below w.heap.size w w') : NumM w' nm L :=
  h.same fun es c hm => by rw [hb.block nm (Array.getElem?_eq_some_iff.1 hm).1]; exact hm
theorem NumM.look {w : World} {nm : Nat} {L : List St} (h : NumM w nm L) {x : Int} (hx : i64R x) : (Instr.lookup NumT (.map (some nm)) (.int .i64 x) true).run Tryz.prog w = .ok (.tuple #[.int .i64 (((posL L x).getD 0 : Nat) : Int), .bool (posL L x).isSome]) w := by
  obtain ⟨D, h1, h2⟩ := h
  obtain ⟨v, ps, hr, hv⟩ := h1.look_ok lawT Tryz.underlying129 (zeroI w) (plainElem_int Tryz.underlying3 (by decide)) (keyT hx)
  obtain ⟨m, rfl, h3, _⟩ := plainElem_int_inv Tryz.underlying3 hv
  rw [(h2 x hx).2] at h3
  simp at h3
  obtain ⟨rfl, _⟩ := h3
  rw [hr, (h2 x hx).1]
theorem NumM.look1 {w : World} {nm : Nat} {L : List St} (h : NumM w nm L) {x : Int} (hx : i64R x) : (Instr.lookup NumT (.map (some nm)) (.int .i64 x) false).run Tryz.prog w = .ok (.int .i64 (((posL L x).getD 0 : Nat) : Int)) w := by
  obtain ⟨D, h1, h2⟩ := h
  obtain ⟨c, hr, hc, _⟩ := h1.lookup_int lawT Tryz.underlying129 Tryz.underlying3 (zeroI w) (keyT hx)
  rw [(h2 x hx).2] at hc
  simp only [DataW.lit.injEq, Lit.int.injEq, true_and] at hc
  rw [hr, ← hc]
theorem NumM.put {w' : World} {nm : Nat} {L : List St} {D : DataW Unit} {s : St} (hm : IsMap D) (hD : ∀ x, i64R x → Maps.has D (.int .i64 x) = (posL L x).isSome ∧ D.atKey (.int .i64 x) (.lit (.int .i64 0)) = .lit (.int .i64 (((posL L x).getD 0 : Nat) : Int))) (hs : i64R s.t) (hn : posL L s.t = none)
    (h : w'.ownsMap Tryz.prog TermT (plainElem Tryz.prog IntT) nm (L.length + 1) (D.put (.int .i64 s.t) (.lit (.int .i64 (L.length : Int))))) : NumM w' nm (L ++ [s]) := by
  refine ⟨_, by simpa using h, fun x hx => ?_⟩
  rw [posL_snoc hn]
  by_cases e : x = s.t
  · subst e
    rw [has_put_same hm (lawT.key (keyT hx)), atKey_put_same hm (lawT.key (keyT hx)), if_pos rfl]; exact ⟨rfl, rfl⟩
  · rw [has_put_other (fun e' => e (by simpa using e')), atKey_put_other (fun e' => e (by simpa using e')), if_neg e]
    exact hD x hx
theorem GoodL.inp {p : Pl} {g : List Int} {R : Int → Prop} {L : List St} (h : GoodL p g R L) : ∀ s ∈ L, inP p s.t = true := by
  intro s hs
  obtain ⟨i, hi⟩ := List.getElem?_of_mem hs
  obtain ⟨hi', rfl⟩ := List.getElem?_eq_some_iff.1 hi
  have := h.fol i hi'
  unfold followsP at this
  exact (andB.1 this).1
theorem GoodL.len {p : Pl} {g : List Int} {R : Int → Prop} {L : List St} (h : GoodL p g R L) : L.length ≤ p.length := by
  have := nodup_in (p := p) h.nodup (fun x hx => by
    obtain ⟨s, hs, rfl⟩ := List.mem_map.1 hx
    exact h.inp s hs)
  simpa using this

/-- A proof under way, in memory. -/
structure IsLay (w : World) (n0 nbx kbx fbx lbx nm k : Nat) (lv : Value) (L : List St) : Prop where
  nb : w.heap[nbx]? = some (Obj.cells #[.map (some nm)] NumT)
  kb : w.heap[kbx]? = some (Obj.cells #[.pointer (some ⟨k, 0, none⟩)] PKnowT)
  fb : w.heap[fbx]? = some (Obj.cells #[.func (.func 81) #[] #[.pointer (some ⟨nbx, 0, none⟩), .pointer (some ⟨kbx, 0, none⟩), .pointer (some ⟨fbx, 0, none⟩), .pointer (some ⟨lbx, 0, none⟩)]] FnT)
  lb : w.heap[lbx]? = some (Obj.cells #[lv] SlStT)
  row : w.ownsRow n0 StT 4 lv L.length (sts L)
  num : NumM w nm L
  gl : n0 ≤ lbx
  gm : n0 ≤ nm
theorem IsLay.below {w w' : World} {n0 nbx kbx fbx lbx nm k : Nat} {lv : Value} {L : List St} (h : IsLay w n0 nbx kbx fbx lbx nm k lv L) (hb : Below w.heap.size w w') : IsLay w' n0 nbx kbx fbx lbx nm k lv L :=
  ⟨Hold.below hb _ _ h.nb, Hold.below hb _ _ h.kb, Hold.below hb _ _ h.fb, Hold.below hb _ _ h.lb, own_hold h.row (Hold.below hb), h.num.below hb, h.gl, h.gm⟩
/-- A cell of a block of its own has turned, of a step that is not one of the list. -/
theorem IsLay.set {w : World} {n0 nbx kbx fbx lbx nm k : Nat} {lv : Value} {L : List St} (h : IsLay w n0 nbx kbx fbx lbx nm k lv L) {sb : Nat} {cs : Array Value} (hs : w.heap[sb]? = some (Obj.cells cs StT)) (hn : lv.ownBlock ≠ some sb) (j : Nat) (u : Value) : IsLay (w.setCell ⟨sb, j, none⟩ u) n0 nbx kbx fbx lbx nm k lv L :=
  ⟨Hold.setCell hs (by decide) _ _ h.nb, Hold.setCell hs (by decide) _ _ h.kb, Hold.setCell hs (by decide) _ _ h.fb, Hold.setCell hs (by decide) _ _ h.lb,
    own_kept h.row (grownBy_set w sb j u) (fun r e => by cases e; exact hn), h.num.same (fun es c hm => by
      rw [Below.heap_setCell _ _ _ _ (fun e => by rw [show nm = sb from e, hs] at hm; cases hm)]
      exact hm), h.gl, h.gm⟩
/-- What laying leaves as it was. -/
structure KL (w : World) (lbx nm : Nat) (lv : Value) (w' : World) : Prop where
  size : w.heap.size ≤ w'.heap.size
  keep : ∀ j, j < w.heap.size → j ≠ lbx → j ≠ nm → lv.ownBlock ≠ some j → w'.heap[j]? = w.heap[j]?
/-- The list lies where it lay, or in a newer block. -/
def VN (w : World) (lv lv' : Value) : Prop := lv'.ownBlock = lv.ownBlock ∨ ∃ q, lv'.ownBlock = some q ∧ w.heap.size ≤ q
theorem VN.refl (w : World) (lv : Value) : VN w lv lv := .inl rfl
theorem VN.trans {A B : World} {x y z : Value} (hs : A.heap.size ≤ B.heap.size) (h : VN A x y) (k : VN B y z) : VN A x z := by
  rcases k with e | ⟨q, e, hq⟩
  · rcases h with e' | ⟨q, e', hq⟩
    · exact .inl (e.trans e')
    · exact .inr ⟨q, e.trans e', hq⟩
  · exact .inr ⟨q, e, Nat.le_trans hs hq⟩
theorem KL.of {w w' : World} {lbx nm : Nat} {lv : Value} (h : Below w.heap.size w w') : KL w lbx nm lv w' := ⟨h.size, fun j hj _ _ _ => h.block j hj⟩
theorem KL.trans {A B C : World} {lbx nm : Nat} {lv lv' : Value} (h : KL A lbx nm lv B) (k : KL B lbx nm lv' C) (hl : VN A lv lv') : KL A lbx nm lv C :=
  ⟨Nat.le_trans h.size k.size, fun j hj h1 h2 h3 => (k.keep j (Nat.lt_of_lt_of_le hj h.size) h1 h2 (fun e => by
    rcases hl with e' | ⟨q, e', hq⟩
    · exact h3 (e'.symm.trans e)
    · rw [e'] at e
      cases e
      omega)).trans (h.keep j hj h1 h2 h3)⟩
theorem KL.set {A B : World} {lbx nm : Nat} {lv : Value} (h : KL A lbx nm lv B) {sb : Nat} (hs : A.heap.size ≤ sb) (j : Nat) (u : Value) : KL A lbx nm lv (B.setCell ⟨sb, j, none⟩ u) :=
  ⟨by have := h.size; simpa [World.setCell] using this, fun i hi h1 h2 h3 => by rw [Below.heap_setCell _ _ _ _ (by simp; omega)]; exact h.keep i hi h1 h2 h3⟩

section
variable {w0 : World} {B a b : Nat} {v : Value} {p : Pl} {B2 k : Nat} {gv : Value} {mb : Nat} {g : List Int} {s : Int → Option Way} {R N : Int → Prop} {nbx kbx fbx lbx nm : Nat}
/-- What laying a term answers and leaves. -/
def LayPost (w0 : World) (p : Pl) (g : List Int) (R : Int → Prop) (nbx kbx fbx lbx nm k : Nat) (N : Int → Prop) (w : World) (lv : Value) (L : List St) (u : Int) (e : Ending) (w' : World) : Prop :=
  ∃ (i : Nat) (lv' : Value) (L' : List St), e = .returned (.int .i64 (i : Int)) ∧ IsLay w' w0.heap.size nbx kbx fbx lbx nm k lv' L' ∧ GoodL p g R L' ∧ L <+: L' ∧ (∃ hi : i < L'.length, (L'[i]).t = u) ∧ Below w0.heap.size w0 w' ∧ KL w lbx nm lv w' ∧ VN w lv lv' ∧ (∀ x ∈ L', x ∈ L ∨ N x.t) ∧ (posL L u = none → i + 1 = L'.length)
def LayC (w0 : World) (p : Pl) (g : List Int) (R : Int → Prop) (nbx kbx fbx lbx nm k : Nat) (N : Int → Prop) (u : Int) : Prop :=
  ∀ (w : World) (lv : Value) (L : List St), Below w0.heap.size w0 w → IsLay w w0.heap.size nbx kbx fbx lbx nm k lv L → GoodL p g R L → Calls Tryz.prog 81 #[.int .i64 u, .pointer (some ⟨nbx, 0, none⟩), .pointer (some ⟨kbx, 0, none⟩), .pointer (some ⟨fbx, 0, none⟩), .pointer (some ⟨lbx, 0, none⟩)] w (LayPost w0 p g R nbx kbx fbx lbx nm k N w lv L u)
set_option maxRecDepth 100000 in
set_option maxHeartbeats 25600000 in
theorem lay_old (hp : IsPool w0 B a b v p) (hk : IsKnow w0 B2 k gv mb a p g s) {u : Int} (hu : i64R u) {w : World} {lv : Value} {L : List St} {i0 : Nat} (h0 : Below w0.heap.size w0 w) (hl : IsLay w w0.heap.size nbx kbx fbx lbx nm k lv L) (hgd : GoodL p g R L) (hpos : posL L u = some i0)  :
    Calls Tryz.prog 81 #[.int .i64 u, .pointer (some ⟨nbx, 0, none⟩), .pointer (some ⟨kbx, 0, none⟩), .pointer (some ⟨fbx, 0, none⟩), .pointer (some ⟨lbx, 0, none⟩)] w (LayPost w0 p g R nbx kbx fbx lbx nm k N w lv L u) := by
  have hlk := hl.num.look hu
  rw [hpos] at hlk
  have cN : w.cell? ⟨nbx, 0, none⟩ = some (.map (some nm)) := cellB hl.nb rfl
  have H0 := Lib.hid h0
  have HL := Lib.hid hl
  have HGD := Lib.hid hgd
  have HPOS := Lib.hid hpos
  simp only [Option.getD_some, Option.isSome_some] at hlk
  clear hp hk hl hgd h0 hpos
  go_enter Tryz.func81, Tryz.ntmps81
  go_wp2_with fail
  go_returns
  exact ⟨i0, lv, L, rfl, HL.out, HGD.out, List.prefix_refl _, posL_some HPOS.out, H0.out, KL.of (Below.refl _ _), .inl rfl, fun x hx => .inl hx, fun h => by rw [HPOS.out] at h; cases h⟩
set_option maxRecDepth 100000 in
set_option maxHeartbeats 25600000 in
theorem lay_free (hp : IsPool w0 B a b v p) (hk : IsKnow w0 B2 k gv mb a p g s) {u : Int} (hu : i64R u) {w : World} {lv : Value} {L : List St} (h0 : Below w0.heap.size w0 w) (hl : IsLay w w0.heap.size nbx kbx fbx lbx nm k lv L) (hgd : GoodL p g R L) (hpos : posL L u = none) (hfr : freeB (atP p u).1.kind = true) (hru : R u) (hnu : N u) :
    Calls Tryz.prog 81 #[.int .i64 u, .pointer (some ⟨nbx, 0, none⟩), .pointer (some ⟨kbx, 0, none⟩), .pointer (some ⟨fbx, 0, none⟩), .pointer (some ⟨lbx, 0, none⟩)] w (LayPost w0 p g R nbx kbx fbx lbx nm k N w lv L u) := by
  have hlk := hl.num.look hu
  rw [hpos] at hlk
  have cN : w.cell? ⟨nbx, 0, none⟩ = some (.map (some nm)) := cellB hl.nb rfl
  have H0 := Lib.hid h0
  have HL := Lib.hid hl
  have HGD := Lib.hid hgd
  have HPOS := Lib.hid hpos
  have HRU := Lib.hid hru
  have HNU := Lib.hid hnu
  have HFOL := Lib.hid (fol_free (g := g) (L := L) hfr)
  cases hsu : s u with
  | none =>
    simp only [Option.getD_none, Option.isSome_none] at hlk
    have HU := Lib.hid hu
    have HP := Lib.hid hp
    have HK := Lib.hid hk
    have hlen : L.length ≤ 65536 := Nat.le_trans hgd.len hp.ok.len
    have b4 := bA0 w (.cells #[.int .i64 0, .int .i64 0, .int .i64 0, .int .i64 u] StT)
    have hs4 : (w.alloc (.cells #[.int .i64 0, .int .i64 0, .int .i64 0, .int .i64 u] StT)).heap[w.heap.size]? = some (Obj.cells #[.int .i64 0, .int .i64 0, .int .i64 0, .int .i64 u] StT) := heap_alloc_new _ _
    have hnl : lv.ownBlock ≠ some w.heap.size := fun e => by
      obtain ⟨_, cur, hc⟩ := own_type hl.row e
      exact absurd (Array.getElem?_eq_some_iff.1 hc).1 (Nat.lt_irrefl _)
    have HNL := Lib.hid hnl
    have cK : (w.alloc (.cells #[.int .i64 0, .int .i64 0, .int .i64 0, .int .i64 u] StT)).cell? ⟨kbx, 0, none⟩ = some (.pointer (some ⟨k, 0, none⟩)) := cellB (hl.below b4).kb rfl
    have cA : (w.alloc (.cells #[.int .i64 0, .int .i64 0, .int .i64 0, .int .i64 u] StT)).cell? ⟨k, 0, none⟩ = some (.pointer (some ⟨a, 0, none⟩)) := cellB (hk.below (bmore h0 b4)).lay rfl
    have HN := Lib.hid (pnode (hp.below (bmore h0 b4)) u)
    have FR := Lib.hid (fun (W : World) => free_any (atP p u).1 W)
    have hsk := fun (W : World) (h : Below w0.heap.size w0 W) => ((hk.below h).seen.look hu)
    have hck := fun (W : World) (h : Below w0.heap.size w0 W) => (show W.cell? ⟨k, 2, none⟩ = some (.map (some mb)) from cellB (hk.below h).lay rfl)
    have HSK := Lib.hid hsk
    have HCK := Lib.hid hck
    have HS4 := Lib.hid hs4
    have H4 := Lib.hid b4
    rw [hfr] at FR
    generalize hnn : (atP p u).1 = n at *
    have HNN := Lib.hid hnn
    generalize inP p u = iu at *
    clear hp hk hl hgd h0 hpos b4 hs4 hnl hsk hck hu hnn hfr
    have HSU := Lib.hid hsu
    clear hsu
    obtain ⟨kk, ff, tt, uu, ss, xa, xb⟩ := n
    simp only [nodeA] at HN FR
    go_enter Tryz.func81, Tryz.ntmps81
    go_wp2_with fail
    refine HN.out.mono ?_
    rintro e w5 ⟨rfl, u5⟩
    have b6 := bA0 w5 (.cells #[.int .i64 kk, .int .i64 ff, .int .i64 tt, .int .u64 uu, .string ss, .int .i64 xa, .int .i64 xb] NodeT)
    have hn6 : (w5.alloc (.cells #[.int .i64 kk, .int .i64 ff, .int .i64 tt, .int .u64 uu, .string ss, .int .i64 xa, .int .i64 xb] NodeT)).heap[w5.heap.size]? = some (Obj.cells #[.int .i64 kk, .int .i64 ff, .int .i64 tt, .int .u64 uu, .string ss, .int .i64 xa, .int .i64 xb] NodeT) := heap_alloc_new _ _
    have H6 := Lib.hid (bmore H4.out (bmore u5 b6))
    have HS6 := Lib.hid (Hold.below (bmore u5 b6) _ _ HS4.out)
    have HN6 := Lib.hid hn6
    clear u5 b6 hn6 cK cA hlk cN
    have cK := cellB (j := 0) (HL.out.below H6.out).kb rfl
    have cM := HCK.out _ (bmore H0.out H6.out)
    have hlk := HSK.out _ (bmore H0.out H6.out)
    rw [HSU.out] at hlk; simp only [wayV, Option.getD_none, Option.isSome_none] at hlk
    go_upto_region 6 with fail
    generalize (w5.alloc (.cells #[.int .i64 kk, .int .i64 ff, .int .i64 tt, .int .u64 uu, .string ss, .int .i64 xa, .int .i64 xb] NodeT)) = W6 at *
    generalize w5.heap.size = nbk at *
    have b7 := bA0 W6 (.cells #[.int .i64 0, .int .i64 0] WayT)
    have hw7 : (W6.alloc (.cells #[.int .i64 0, .int .i64 0] WayT)).heap[W6.heap.size]? = some (Obj.cells #[.int .i64 0, .int .i64 0] WayT) := heap_alloc_new _ _
    have H7 := Lib.hid (bmore H6.out b7)
    have HS7 := Lib.hid (Hold.below b7 _ _ HS6.out)
    have hn7 := Hold.below b7 _ _ HN6.out
    have HN7 := Lib.hid hn7
    have HW7 := Lib.hid hw7
    have y0 := cellB (j := 0) hn7 rfl
    have y1 := cellB (j := 1) hn7 rfl
    have y2 := cellB (j := 2) hn7 rfl
    have y3 := cellB (j := 3) hn7 rfl
    have y4 := cellB (j := 4) hn7 rfl
    have y5 := cellB (j := 5) hn7 rfl
    have y6 := cellB (j := 6) hn7 rfl
    clear b7 hw7 hn7
    go_wp2_with fail
    generalize (W6.alloc (.cells #[.int .i64 0, .int .i64 0] WayT)) = W7 at *
    generalize W6.heap.size = wb at *
    refine (FR.out _).mono ?_
    rintro e w8 ⟨rfl, u8⟩
    have H8 := Lib.hid (bmore H7.out u8)
    have HS8 := Lib.hid (Hold.below u8 _ _ HS7.out)
    have HN8 := Lib.hid (Hold.below u8 _ _ HN7.out)
    have HW8 := Lib.hid (Hold.below u8 _ _ HW7.out)
    clear u8 y0 y1 y2 y3 y4 y5 y6 cK cM hlk
    have hs8 := HS8.out
    have f0 := frozenB (j := 0) hs8
    have x0 := cellB (j := 0) hs8 rfl
    have HSX : Hid ((w8.setCell ⟨w.heap.size, 0, none⟩ (.int .i64 4)).heap[w.heap.size]? = some (Obj.cells #[.int .i64 4, .int .i64 0, .int .i64 0, .int .i64 u] StT)) := Lib.hid (setCellB hs8)
    have HLX := Lib.hid ((HL.out.below H8.out).set hs8 HNL.out 0 (.int .i64 4))
    have H0X := Lib.hid ((bmore H0.out H8.out).setCell (p := ⟨w.heap.size, 0, none⟩) (H0.out.size) (.int .i64 4))
    have HKX : Hid (KL w lbx nm lv (w8.setCell ⟨w.heap.size, 0, none⟩ (.int .i64 4))) := Lib.hid ((KL.of H8.out).set (Nat.le_refl _) 0 _)
    have HVX := Lib.hid (VN.refl w lv)
    have HGX := HGD
    have HPX := HPOS
    have HPRE : Hid (L <+: L) := Lib.hid (List.prefix_refl _)
    have HNW : Hid (∀ x ∈ L, x ∈ L ∨ N x.t) := Lib.hid (fun x hx => .inl hx)
    clear hs8
    go_upto_region 17 with fail
    generalize (w8.setCell ⟨w.heap.size, 0, none⟩ (.int .i64 4)) = W9 at *
    clear f0 x0
    obtain ⟨lva, lvc, hlvs⟩ := (row_of_own HLX.out.row).shape
    subst hlvs
    have hs9 := HSX.out
    have z0 := cellB (j := 0) hs9 rfl
    have z1 := cellB (j := 1) hs9 rfl
    have z2 := cellB (j := 2) hs9 rfl
    have z3 := cellB (j := 3) hs9 rfl
    have cL : W9.cell? ⟨lbx, 0, none⟩ = some (.slice lva L.length lvc) := cellB HLX.out.lb rfl
    have bT := bA0 W9 (.cells #[.int .i64 4, .int .i64 0, .int .i64 0, .int .i64 u] StT)
    have HBT := Lib.hid bT
    have HLT := Lib.hid (HLX.out.below bT)
    have hnew : (W9.alloc (.cells #[.int .i64 4, .int .i64 0, .int .i64 0, .int .i64 u] StT)).heap[W9.heap.size]? = some (Obj.cells (stA ⟨4, 0, 0, u⟩) StT) := heap_alloc_new _ _
    have HNEW := Lib.hid hnew
    have hlen9 : L.length ≤ 65536 := Nat.le_trans HGX.out.len HP.out.ok.len
    have hnbl : nbx ≠ lbx := fun e => by
      have h9 := HLX.out.nb
      rw [e, HLX.out.lb] at h9
      simp only [Option.some.injEq, Obj.cells.injEq] at h9
      exact absurd h9.2.1 (by decide)
    have hnb1 : ¬ nbx = lbx := hnbl
    have hnb2 : ¬ lbx = nbx := fun e => hnbl e.symm
    have hlnm : nm ≠ lbx := fun e => by
      obtain ⟨es, c, hm⟩ := HLX.out.num.mapb
      rw [e, HLX.out.lb] at hm; cases hm
    have HLNM := Lib.hid hlnm
    have hq : ∀ w', (W9.alloc (.cells #[.int .i64 4, .int .i64 0, .int .i64 0, .int .i64 u] StT)).grownBy w' (Value.slice lva L.length lvc).ownBlock → w'.heap[lbx]? = some (Obj.cells #[.slice lva L.length lvc] SlStT) ∧ w'.cell? ⟨lbx, 0, none⟩ = some (.slice lva L.length lvc) ∧ w'.frozen? ⟨lbx, 0, none⟩ = false ∧ w'.cell? ⟨nbx, 0, none⟩ = some (.map (some nm)) := fun w' hg => by
      have e : w'.heap[lbx]? = some (Obj.cells #[.slice lva L.length lvc] SlStT) := hold_row HLT.out.row hg (by decide) _ _ HLT.out.lb
      have e2 : w'.heap[nbx]? = some (Obj.cells #[.map (some nm)] NumT) := hold_row HLT.out.row hg (by decide) _ _ HLT.out.nb
      exact ⟨e, cellB e rfl, frozenB e, cellB e2 rfl⟩
    have HQ := Lib.hid hq
    have hbs : w0.heap.size ≤ (W9.alloc (.cells #[.int .i64 4, .int .i64 0, .int .i64 0, .int .i64 u] StT)).heap.size := Nat.le_trans H0X.out.size bT.size
    have hwl : wrap64 ((L.length : Int) + 1 - 1) = (L.length : Int) := by unfold wrap64; omega
    have hwl2 : (L ++ [(⟨4, 0, 0, u⟩ : St)]).length = L.length + 1 := by simp
    have HWL := Lib.hid hwl2
    clear hs9 bT hnew hq hlnm hnbl hwl2
    go_wp2_with (first
      | (at_builtin; refine wpList_append_st rfl _ _ rfl w0.heap.size (.slice lva L.length lvc) L rfl HLT.out.row _ ⟨4, 0, 0, u⟩ rfl HNEW.out (by omega) hbs ?_; intro v5 w9 hrow9 hg9 hw9; rw [HWL.out] at hrow9; obtain ⟨q0, q1, q2, q3⟩ := HQ.out w9 hg9; obtain ⟨sa, sc, rfl⟩ := (row_of_own hrow9).shape)
      | (at_mapUpdate; obtain ⟨D0, hown0, hD0⟩ := HLT.out.num.same (w' := w9.setCell ⟨lbx, 0, none⟩ (.slice sa (L.length + 1) sc)) (fun es c hm => (Below.heap_setCell _ _ _ _ HLNM.out).trans (map_row HLT.out.row hg9 hm)); have hm0 := hown0.isMap; refine wpList_mapUpdate_own _ rfl _ _ _ NumT rfl TermT IntT lawT Tryz.underlying129 (plainElem Tryz.prog IntT) nm L.length D0 rfl hown0 (by unfold maxLen; omega) _ _ (.int .i64 u) rfl rfl (keyT HU.out) (.lit (.int .i64 (L.length : Int))) [] (plainElem_int Tryz.underlying3 (wf_i64 (by unfold i64R; omega))) ?_; intro w10 hown10 hg10; have hn10 := NumM.put (s := ⟨4, 0, 0, u⟩) hm0 hD0 HU.out HPX.out hown10; have hrun10 := hn10.look1 HU.out; rw [posL_snoc HPX.out, if_pos rfl] at hrun10; simp only [Option.getD_some] at hrun10; have c10 : w10.cell? ⟨nbx, 0, none⟩ = some (.map (some nm)) := cellB (hold_map (HLT.out.num.same (w' := w9.setCell ⟨lbx, 0, none⟩ (.slice sa (L.length + 1) sc)) (fun es c hm => (Below.heap_setCell _ _ _ _ HLNM.out).trans (map_row HLT.out.row hg9 hm))).mapb hg10 _ _ _ (Hold.setCell q0 (by decide) _ _ (hold_row HLT.out.row hg9 (by decide) _ _ HLT.out.nb))) rfl))
    go_returns
    have hmb9 := (HLT.out.num.same (w' := w9.setCell ⟨lbx, 0, none⟩ (.slice sa (L.length + 1) sc)) (fun es c hm => (Below.heap_setCell _ _ _ _ HLNM.out).trans (map_row HLT.out.row hg9 hm))).mapb
    have hT : ∀ T, T ≠ StT → T ≠ SlStT → Hold T (W9.alloc (.cells #[.int .i64 4, .int .i64 0, .int .i64 0, .int .i64 u] StT)) w10 := fun T h1 h2 => ((hold_row HLT.out.row hg9 h1).trans (Hold.setCell q0 (Ne.symm h2))).trans (hold_map hmb9 hg10 T)
    have hrw10 : w10.ownsRow w0.heap.size StT 4 (.slice sa (L.length + 1) sc) (L ++ [(⟨4, 0, 0, u⟩ : St)]).length (sts (L ++ [(⟨4, 0, 0, u⟩ : St)])) := by
      rw [HWL.out]
      exact own_hold (own_hold hrow9 (Hold.setCell q0 (by decide))) (hold_map hmb9 hg10 _)
    have hb10 : Below w0.heap.size (W9.alloc (.cells #[.int .i64 4, .int .i64 0, .int .i64 0, .int .i64 u] StT)) w10 := ((((Below.refl _ _).grown hg9 hbs (fun q e => (own_type HLT.out.row e).1)).setCell (p := ⟨lbx, 0, none⟩) HLX.out.gl _)).trans (grown_below hg10 (by rw [show (w9.setCell ⟨lbx, 0, none⟩ (.slice sa (L.length + 1) sc)).heap.size = w9.heap.size by simp [World.setCell]]; exact Nat.le_trans hbs hg9.size) (fun q e => by cases e; exact HLX.out.gm))
    have hkl : KL W9 lbx nm (.slice lva L.length lvc) w10 := ⟨Nat.le_trans HBT.out.size (Nat.le_trans hg9.size (by have := hg10.size; simpa [World.setCell] using this)), fun j hj h1 h2 h3 => by
      have e1 : j < (W9.alloc (.cells #[.int .i64 4, .int .i64 0, .int .i64 0, .int .i64 u] StT)).heap.size := Nat.lt_of_lt_of_le hj HBT.out.size
      have e2 : j < w9.heap.size := Nat.lt_of_lt_of_le e1 hg9.size
      rw [hg10.block j (by simpa [World.setCell] using e2) (fun e => h2 (Option.some.inj e)), Below.heap_setCell _ _ _ _ h1, hg9.block j e1 (fun e => h3 e.symm), HBT.out.block j hj]⟩
    have hw9' : VN w (Value.slice lva L.length lvc) (Value.slice sa (L.length + 1) sc) := by
      have h9 := hw9
      try rw [HWL.out] at h9
      rcases h9 with e | e
      · exact .inl e
      · exact .inr ⟨_, e, Nat.le_trans HKX.out.size HBT.out.size⟩
    refine ⟨L.length, .slice sa (L.length + 1) sc, L ++ [⟨4, 0, 0, u⟩], rfl, ⟨hT _ (by decide) (by decide) _ _ HLT.out.nb, hT _ (by decide) (by decide) _ _ HLT.out.kb, hT _ (by decide) (by decide) _ _ HLT.out.fb, hold_map hmb9 hg10 _ _ _ (setCellB q0), hrw10, hn10, HLX.out.gl, HLX.out.gm⟩, HGX.out.snoc HPX.out HFOL.out HRU.out, HPRE.out.trans ⟨_, rfl⟩, ⟨by simp, by simp⟩, (H0X.out.trans (HBT.out.mono H0X.out.size)).trans hb10, HKX.out.trans hkl HVX.out, VN.trans (Nat.le_refl _) HVX.out hw9', fun x hx => ?_, fun _ => by simp⟩
    rcases List.mem_append.1 hx with hx | hx
    · exact HNW.out x hx
    · rw [List.mem_singleton.1 hx]; exact .inr HNU.out
  | some z =>
    obtain ⟨wr, wy⟩ := z
    simp only [Option.getD_none, Option.isSome_none] at hlk
    have HU := Lib.hid hu
    have HP := Lib.hid hp
    have HK := Lib.hid hk
    have hlen : L.length ≤ 65536 := Nat.le_trans hgd.len hp.ok.len
    have b4 := bA0 w (.cells #[.int .i64 0, .int .i64 0, .int .i64 0, .int .i64 u] StT)
    have hs4 : (w.alloc (.cells #[.int .i64 0, .int .i64 0, .int .i64 0, .int .i64 u] StT)).heap[w.heap.size]? = some (Obj.cells #[.int .i64 0, .int .i64 0, .int .i64 0, .int .i64 u] StT) := heap_alloc_new _ _
    have hnl : lv.ownBlock ≠ some w.heap.size := fun e => by
      obtain ⟨_, cur, hc⟩ := own_type hl.row e
      exact absurd (Array.getElem?_eq_some_iff.1 hc).1 (Nat.lt_irrefl _)
    have HNL := Lib.hid hnl
    have cK : (w.alloc (.cells #[.int .i64 0, .int .i64 0, .int .i64 0, .int .i64 u] StT)).cell? ⟨kbx, 0, none⟩ = some (.pointer (some ⟨k, 0, none⟩)) := cellB (hl.below b4).kb rfl
    have cA : (w.alloc (.cells #[.int .i64 0, .int .i64 0, .int .i64 0, .int .i64 u] StT)).cell? ⟨k, 0, none⟩ = some (.pointer (some ⟨a, 0, none⟩)) := cellB (hk.below (bmore h0 b4)).lay rfl
    have HN := Lib.hid (pnode (hp.below (bmore h0 b4)) u)
    have FR := Lib.hid (fun (W : World) => free_any (atP p u).1 W)
    have hsk := fun (W : World) (h : Below w0.heap.size w0 W) => ((hk.below h).seen.look hu)
    have hck := fun (W : World) (h : Below w0.heap.size w0 W) => (show W.cell? ⟨k, 2, none⟩ = some (.map (some mb)) from cellB (hk.below h).lay rfl)
    have HSK := Lib.hid hsk
    have HCK := Lib.hid hck
    have HS4 := Lib.hid hs4
    have H4 := Lib.hid b4
    rw [hfr] at FR
    generalize hnn : (atP p u).1 = n at *
    have HNN := Lib.hid hnn
    generalize inP p u = iu at *
    clear hp hk hl hgd h0 hpos b4 hs4 hnl hsk hck hu hnn hfr
    have HSU := Lib.hid hsu
    clear hsu
    obtain ⟨kk, ff, tt, uu, ss, xa, xb⟩ := n
    simp only [nodeA] at HN FR
    go_enter Tryz.func81, Tryz.ntmps81
    go_wp2_with fail
    refine HN.out.mono ?_
    rintro e w5 ⟨rfl, u5⟩
    have b6 := bA0 w5 (.cells #[.int .i64 kk, .int .i64 ff, .int .i64 tt, .int .u64 uu, .string ss, .int .i64 xa, .int .i64 xb] NodeT)
    have hn6 : (w5.alloc (.cells #[.int .i64 kk, .int .i64 ff, .int .i64 tt, .int .u64 uu, .string ss, .int .i64 xa, .int .i64 xb] NodeT)).heap[w5.heap.size]? = some (Obj.cells #[.int .i64 kk, .int .i64 ff, .int .i64 tt, .int .u64 uu, .string ss, .int .i64 xa, .int .i64 xb] NodeT) := heap_alloc_new _ _
    have H6 := Lib.hid (bmore H4.out (bmore u5 b6))
    have HS6 := Lib.hid (Hold.below (bmore u5 b6) _ _ HS4.out)
    have HN6 := Lib.hid hn6
    clear u5 b6 hn6 cK cA hlk cN
    have cK := cellB (j := 0) (HL.out.below H6.out).kb rfl
    have cM := HCK.out _ (bmore H0.out H6.out)
    have hlk := HSK.out _ (bmore H0.out H6.out)
    rw [HSU.out] at hlk; simp only [wayV, Option.getD_some, Option.isSome_some] at hlk
    go_upto_region 6 with fail
    generalize (w5.alloc (.cells #[.int .i64 kk, .int .i64 ff, .int .i64 tt, .int .u64 uu, .string ss, .int .i64 xa, .int .i64 xb] NodeT)) = W6 at *
    generalize w5.heap.size = nbk at *
    have b7 := bA0 W6 (.cells #[.int .i64 wr, .int .i64 wy] WayT)
    have hw7 : (W6.alloc (.cells #[.int .i64 wr, .int .i64 wy] WayT)).heap[W6.heap.size]? = some (Obj.cells #[.int .i64 wr, .int .i64 wy] WayT) := heap_alloc_new _ _
    have H7 := Lib.hid (bmore H6.out b7)
    have HS7 := Lib.hid (Hold.below b7 _ _ HS6.out)
    have hn7 := Hold.below b7 _ _ HN6.out
    have HN7 := Lib.hid hn7
    have HW7 := Lib.hid hw7
    have y0 := cellB (j := 0) hn7 rfl
    have y1 := cellB (j := 1) hn7 rfl
    have y2 := cellB (j := 2) hn7 rfl
    have y3 := cellB (j := 3) hn7 rfl
    have y4 := cellB (j := 4) hn7 rfl
    have y5 := cellB (j := 5) hn7 rfl
    have y6 := cellB (j := 6) hn7 rfl
    clear b7 hw7 hn7
    go_wp2_with fail
    generalize (W6.alloc (.cells #[.int .i64 wr, .int .i64 wy] WayT)) = W7 at *
    generalize W6.heap.size = wb at *
    refine (FR.out _).mono ?_
    rintro e w8 ⟨rfl, u8⟩
    have H8 := Lib.hid (bmore H7.out u8)
    have HS8 := Lib.hid (Hold.below u8 _ _ HS7.out)
    have HN8 := Lib.hid (Hold.below u8 _ _ HN7.out)
    have HW8 := Lib.hid (Hold.below u8 _ _ HW7.out)
    clear u8 y0 y1 y2 y3 y4 y5 y6 cK cM hlk
    have hs8 := HS8.out
    have f0 := frozenB (j := 0) hs8
    have x0 := cellB (j := 0) hs8 rfl
    have HSX : Hid ((w8.setCell ⟨w.heap.size, 0, none⟩ (.int .i64 4)).heap[w.heap.size]? = some (Obj.cells #[.int .i64 4, .int .i64 0, .int .i64 0, .int .i64 u] StT)) := Lib.hid (setCellB hs8)
    have HLX := Lib.hid ((HL.out.below H8.out).set hs8 HNL.out 0 (.int .i64 4))
    have H0X := Lib.hid ((bmore H0.out H8.out).setCell (p := ⟨w.heap.size, 0, none⟩) (H0.out.size) (.int .i64 4))
    have HKX : Hid (KL w lbx nm lv (w8.setCell ⟨w.heap.size, 0, none⟩ (.int .i64 4))) := Lib.hid ((KL.of H8.out).set (Nat.le_refl _) 0 _)
    have HVX := Lib.hid (VN.refl w lv)
    have HGX := HGD
    have HPX := HPOS
    have HPRE : Hid (L <+: L) := Lib.hid (List.prefix_refl _)
    have HNW : Hid (∀ x ∈ L, x ∈ L ∨ N x.t) := Lib.hid (fun x hx => .inl hx)
    clear hs8
    go_upto_region 17 with fail
    generalize (w8.setCell ⟨w.heap.size, 0, none⟩ (.int .i64 4)) = W9 at *
    clear f0 x0
    obtain ⟨lva, lvc, hlvs⟩ := (row_of_own HLX.out.row).shape
    subst hlvs
    have hs9 := HSX.out
    have z0 := cellB (j := 0) hs9 rfl
    have z1 := cellB (j := 1) hs9 rfl
    have z2 := cellB (j := 2) hs9 rfl
    have z3 := cellB (j := 3) hs9 rfl
    have cL : W9.cell? ⟨lbx, 0, none⟩ = some (.slice lva L.length lvc) := cellB HLX.out.lb rfl
    have bT := bA0 W9 (.cells #[.int .i64 4, .int .i64 0, .int .i64 0, .int .i64 u] StT)
    have HBT := Lib.hid bT
    have HLT := Lib.hid (HLX.out.below bT)
    have hnew : (W9.alloc (.cells #[.int .i64 4, .int .i64 0, .int .i64 0, .int .i64 u] StT)).heap[W9.heap.size]? = some (Obj.cells (stA ⟨4, 0, 0, u⟩) StT) := heap_alloc_new _ _
    have HNEW := Lib.hid hnew
    have hlen9 : L.length ≤ 65536 := Nat.le_trans HGX.out.len HP.out.ok.len
    have hnbl : nbx ≠ lbx := fun e => by
      have h9 := HLX.out.nb
      rw [e, HLX.out.lb] at h9
      simp only [Option.some.injEq, Obj.cells.injEq] at h9
      exact absurd h9.2.1 (by decide)
    have hnb1 : ¬ nbx = lbx := hnbl
    have hnb2 : ¬ lbx = nbx := fun e => hnbl e.symm
    have hlnm : nm ≠ lbx := fun e => by
      obtain ⟨es, c, hm⟩ := HLX.out.num.mapb
      rw [e, HLX.out.lb] at hm; cases hm
    have HLNM := Lib.hid hlnm
    have hq : ∀ w', (W9.alloc (.cells #[.int .i64 4, .int .i64 0, .int .i64 0, .int .i64 u] StT)).grownBy w' (Value.slice lva L.length lvc).ownBlock → w'.heap[lbx]? = some (Obj.cells #[.slice lva L.length lvc] SlStT) ∧ w'.cell? ⟨lbx, 0, none⟩ = some (.slice lva L.length lvc) ∧ w'.frozen? ⟨lbx, 0, none⟩ = false ∧ w'.cell? ⟨nbx, 0, none⟩ = some (.map (some nm)) := fun w' hg => by
      have e : w'.heap[lbx]? = some (Obj.cells #[.slice lva L.length lvc] SlStT) := hold_row HLT.out.row hg (by decide) _ _ HLT.out.lb
      have e2 : w'.heap[nbx]? = some (Obj.cells #[.map (some nm)] NumT) := hold_row HLT.out.row hg (by decide) _ _ HLT.out.nb
      exact ⟨e, cellB e rfl, frozenB e, cellB e2 rfl⟩
    have HQ := Lib.hid hq
    have hbs : w0.heap.size ≤ (W9.alloc (.cells #[.int .i64 4, .int .i64 0, .int .i64 0, .int .i64 u] StT)).heap.size := Nat.le_trans H0X.out.size bT.size
    have hwl : wrap64 ((L.length : Int) + 1 - 1) = (L.length : Int) := by unfold wrap64; omega
    have hwl2 : (L ++ [(⟨4, 0, 0, u⟩ : St)]).length = L.length + 1 := by simp
    have HWL := Lib.hid hwl2
    clear hs9 bT hnew hq hlnm hnbl hwl2
    go_wp2_with (first
      | (at_builtin; refine wpList_append_st rfl _ _ rfl w0.heap.size (.slice lva L.length lvc) L rfl HLT.out.row _ ⟨4, 0, 0, u⟩ rfl HNEW.out (by omega) hbs ?_; intro v5 w9 hrow9 hg9 hw9; rw [HWL.out] at hrow9; obtain ⟨q0, q1, q2, q3⟩ := HQ.out w9 hg9; obtain ⟨sa, sc, rfl⟩ := (row_of_own hrow9).shape)
      | (at_mapUpdate; obtain ⟨D0, hown0, hD0⟩ := HLT.out.num.same (w' := w9.setCell ⟨lbx, 0, none⟩ (.slice sa (L.length + 1) sc)) (fun es c hm => (Below.heap_setCell _ _ _ _ HLNM.out).trans (map_row HLT.out.row hg9 hm)); have hm0 := hown0.isMap; refine wpList_mapUpdate_own _ rfl _ _ _ NumT rfl TermT IntT lawT Tryz.underlying129 (plainElem Tryz.prog IntT) nm L.length D0 rfl hown0 (by unfold maxLen; omega) _ _ (.int .i64 u) rfl rfl (keyT HU.out) (.lit (.int .i64 (L.length : Int))) [] (plainElem_int Tryz.underlying3 (wf_i64 (by unfold i64R; omega))) ?_; intro w10 hown10 hg10; have hn10 := NumM.put (s := ⟨4, 0, 0, u⟩) hm0 hD0 HU.out HPX.out hown10; have hrun10 := hn10.look1 HU.out; rw [posL_snoc HPX.out, if_pos rfl] at hrun10; simp only [Option.getD_some] at hrun10; have c10 : w10.cell? ⟨nbx, 0, none⟩ = some (.map (some nm)) := cellB (hold_map (HLT.out.num.same (w' := w9.setCell ⟨lbx, 0, none⟩ (.slice sa (L.length + 1) sc)) (fun es c hm => (Below.heap_setCell _ _ _ _ HLNM.out).trans (map_row HLT.out.row hg9 hm))).mapb hg10 _ _ _ (Hold.setCell q0 (by decide) _ _ (hold_row HLT.out.row hg9 (by decide) _ _ HLT.out.nb))) rfl))
    go_returns
    have hmb9 := (HLT.out.num.same (w' := w9.setCell ⟨lbx, 0, none⟩ (.slice sa (L.length + 1) sc)) (fun es c hm => (Below.heap_setCell _ _ _ _ HLNM.out).trans (map_row HLT.out.row hg9 hm))).mapb
    have hT : ∀ T, T ≠ StT → T ≠ SlStT → Hold T (W9.alloc (.cells #[.int .i64 4, .int .i64 0, .int .i64 0, .int .i64 u] StT)) w10 := fun T h1 h2 => ((hold_row HLT.out.row hg9 h1).trans (Hold.setCell q0 (Ne.symm h2))).trans (hold_map hmb9 hg10 T)
    have hrw10 : w10.ownsRow w0.heap.size StT 4 (.slice sa (L.length + 1) sc) (L ++ [(⟨4, 0, 0, u⟩ : St)]).length (sts (L ++ [(⟨4, 0, 0, u⟩ : St)])) := by
      rw [HWL.out]
      exact own_hold (own_hold hrow9 (Hold.setCell q0 (by decide))) (hold_map hmb9 hg10 _)
    have hb10 : Below w0.heap.size (W9.alloc (.cells #[.int .i64 4, .int .i64 0, .int .i64 0, .int .i64 u] StT)) w10 := ((((Below.refl _ _).grown hg9 hbs (fun q e => (own_type HLT.out.row e).1)).setCell (p := ⟨lbx, 0, none⟩) HLX.out.gl _)).trans (grown_below hg10 (by rw [show (w9.setCell ⟨lbx, 0, none⟩ (.slice sa (L.length + 1) sc)).heap.size = w9.heap.size by simp [World.setCell]]; exact Nat.le_trans hbs hg9.size) (fun q e => by cases e; exact HLX.out.gm))
    have hkl : KL W9 lbx nm (.slice lva L.length lvc) w10 := ⟨Nat.le_trans HBT.out.size (Nat.le_trans hg9.size (by have := hg10.size; simpa [World.setCell] using this)), fun j hj h1 h2 h3 => by
      have e1 : j < (W9.alloc (.cells #[.int .i64 4, .int .i64 0, .int .i64 0, .int .i64 u] StT)).heap.size := Nat.lt_of_lt_of_le hj HBT.out.size
      have e2 : j < w9.heap.size := Nat.lt_of_lt_of_le e1 hg9.size
      rw [hg10.block j (by simpa [World.setCell] using e2) (fun e => h2 (Option.some.inj e)), Below.heap_setCell _ _ _ _ h1, hg9.block j e1 (fun e => h3 e.symm), HBT.out.block j hj]⟩
    have hw9' : VN w (Value.slice lva L.length lvc) (Value.slice sa (L.length + 1) sc) := by
      have h9 := hw9
      try rw [HWL.out] at h9
      rcases h9 with e | e
      · exact .inl e
      · exact .inr ⟨_, e, Nat.le_trans HKX.out.size HBT.out.size⟩
    refine ⟨L.length, .slice sa (L.length + 1) sc, L ++ [⟨4, 0, 0, u⟩], rfl, ⟨hT _ (by decide) (by decide) _ _ HLT.out.nb, hT _ (by decide) (by decide) _ _ HLT.out.kb, hT _ (by decide) (by decide) _ _ HLT.out.fb, hold_map hmb9 hg10 _ _ _ (setCellB q0), hrw10, hn10, HLX.out.gl, HLX.out.gm⟩, HGX.out.snoc HPX.out HFOL.out HRU.out, HPRE.out.trans ⟨_, rfl⟩, ⟨by simp, by simp⟩, (H0X.out.trans (HBT.out.mono H0X.out.size)).trans hb10, HKX.out.trans hkl HVX.out, VN.trans (Nat.le_refl _) HVX.out hw9', fun x hx => ?_, fun _ => by simp⟩
    rcases List.mem_append.1 hx with hx | hx
    · exact HNW.out x hx
    · rw [List.mem_singleton.1 hx]; exact .inr HNU.out
set_option maxRecDepth 100000 in
set_option maxHeartbeats 25600000 in
theorem lay_given (hp : IsPool w0 B a b v p) (hk : IsKnow w0 B2 k gv mb a p g s) {u : Int} (hu : i64R u) {w : World} {lv : Value} {L : List St} (h0 : Below w0.heap.size w0 w) (hl : IsLay w w0.heap.size nbx kbx fbx lbx nm k lv L) (hgd : GoodL p g R L) (hpos : posL L u = none) (hfr : freeB (atP p u).1.kind = false) (hin : inP p u = true) (hsu : s u = some (0, 0)) (hug : u ∈ g) (hru : R u) (hnu : N u) :
    Calls Tryz.prog 81 #[.int .i64 u, .pointer (some ⟨nbx, 0, none⟩), .pointer (some ⟨kbx, 0, none⟩), .pointer (some ⟨fbx, 0, none⟩), .pointer (some ⟨lbx, 0, none⟩)] w (LayPost w0 p g R nbx kbx fbx lbx nm k N w lv L u) := by
  have hlk := hl.num.look hu
  rw [hpos] at hlk
  have cN : w.cell? ⟨nbx, 0, none⟩ = some (.map (some nm)) := cellB hl.nb rfl
  have H0 := Lib.hid h0
  have HL := Lib.hid hl
  have HGD := Lib.hid hgd
  have HPOS := Lib.hid hpos
  have HRU := Lib.hid hru
  have HNU := Lib.hid hnu
  have HSU := Lib.hid hsu
  have HFOL := Lib.hid (fol_given (p := p) (L := L) hin hug)
  clear hsu hin hug hru hnu
  simp only [Option.getD_none, Option.isSome_none] at hlk
  have HU := Lib.hid hu
  have HP := Lib.hid hp
  have HK := Lib.hid hk
  have hlen : L.length ≤ 65536 := Nat.le_trans hgd.len hp.ok.len
  have b4 := bA0 w (.cells #[.int .i64 0, .int .i64 0, .int .i64 0, .int .i64 u] StT)
  have hs4 : (w.alloc (.cells #[.int .i64 0, .int .i64 0, .int .i64 0, .int .i64 u] StT)).heap[w.heap.size]? = some (Obj.cells #[.int .i64 0, .int .i64 0, .int .i64 0, .int .i64 u] StT) := heap_alloc_new _ _
  have hnl : lv.ownBlock ≠ some w.heap.size := fun e => by
    obtain ⟨_, cur, hc⟩ := own_type hl.row e
    exact absurd (Array.getElem?_eq_some_iff.1 hc).1 (Nat.lt_irrefl _)
  have HNL := Lib.hid hnl
  have cK : (w.alloc (.cells #[.int .i64 0, .int .i64 0, .int .i64 0, .int .i64 u] StT)).cell? ⟨kbx, 0, none⟩ = some (.pointer (some ⟨k, 0, none⟩)) := cellB (hl.below b4).kb rfl
  have cA : (w.alloc (.cells #[.int .i64 0, .int .i64 0, .int .i64 0, .int .i64 u] StT)).cell? ⟨k, 0, none⟩ = some (.pointer (some ⟨a, 0, none⟩)) := cellB (hk.below (bmore h0 b4)).lay rfl
  have HN := Lib.hid (pnode (hp.below (bmore h0 b4)) u)
  have FR := Lib.hid (fun (W : World) => free_any (atP p u).1 W)
  have hsk := fun (W : World) (h : Below w0.heap.size w0 W) => ((hk.below h).seen.look hu)
  have hck := fun (W : World) (h : Below w0.heap.size w0 W) => (show W.cell? ⟨k, 2, none⟩ = some (.map (some mb)) from cellB (hk.below h).lay rfl)
  have HSK := Lib.hid hsk
  have HCK := Lib.hid hck
  have HS4 := Lib.hid hs4
  have H4 := Lib.hid b4
  rw [hfr] at FR
  generalize hnn : (atP p u).1 = n at *
  have HNN := Lib.hid hnn
  generalize inP p u = iu at *
  clear hp hk hl hgd h0 hpos b4 hs4 hnl hsk hck hu hnn hfr
  obtain ⟨kk, ff, tt, uu, ss, xa, xb⟩ := n
  simp only [nodeA] at HN FR
  go_enter Tryz.func81, Tryz.ntmps81
  go_wp2_with fail
  refine HN.out.mono ?_
  rintro e w5 ⟨rfl, u5⟩
  have b6 := bA0 w5 (.cells #[.int .i64 kk, .int .i64 ff, .int .i64 tt, .int .u64 uu, .string ss, .int .i64 xa, .int .i64 xb] NodeT)
  have hn6 : (w5.alloc (.cells #[.int .i64 kk, .int .i64 ff, .int .i64 tt, .int .u64 uu, .string ss, .int .i64 xa, .int .i64 xb] NodeT)).heap[w5.heap.size]? = some (Obj.cells #[.int .i64 kk, .int .i64 ff, .int .i64 tt, .int .u64 uu, .string ss, .int .i64 xa, .int .i64 xb] NodeT) := heap_alloc_new _ _
  have H6 := Lib.hid (bmore H4.out (bmore u5 b6))
  have HS6 := Lib.hid (Hold.below (bmore u5 b6) _ _ HS4.out)
  have HN6 := Lib.hid hn6
  clear u5 b6 hn6 cK cA hlk cN
  have cK := cellB (j := 0) (HL.out.below H6.out).kb rfl
  have cM := HCK.out _ (bmore H0.out H6.out)
  have hlk := HSK.out _ (bmore H0.out H6.out)
  rw [HSU.out] at hlk; simp only [wayV, Option.getD_some, Option.isSome_some] at hlk
  go_upto_region 6 with fail
  generalize (w5.alloc (.cells #[.int .i64 kk, .int .i64 ff, .int .i64 tt, .int .u64 uu, .string ss, .int .i64 xa, .int .i64 xb] NodeT)) = W6 at *
  generalize w5.heap.size = nbk at *
  have b7 := bA0 W6 (.cells #[.int .i64 0, .int .i64 0] WayT)
  have hw7 : (W6.alloc (.cells #[.int .i64 0, .int .i64 0] WayT)).heap[W6.heap.size]? = some (Obj.cells #[.int .i64 0, .int .i64 0] WayT) := heap_alloc_new _ _
  have H7 := Lib.hid (bmore H6.out b7)
  have HS7 := Lib.hid (Hold.below b7 _ _ HS6.out)
  have hn7 := Hold.below b7 _ _ HN6.out
  have HN7 := Lib.hid hn7
  have HW7 := Lib.hid hw7
  have y0 := cellB (j := 0) hn7 rfl
  have y1 := cellB (j := 1) hn7 rfl
  have y2 := cellB (j := 2) hn7 rfl
  have y3 := cellB (j := 3) hn7 rfl
  have y4 := cellB (j := 4) hn7 rfl
  have y5 := cellB (j := 5) hn7 rfl
  have y6 := cellB (j := 6) hn7 rfl
  clear b7 hw7 hn7
  go_wp2_with fail
  generalize (W6.alloc (.cells #[.int .i64 0, .int .i64 0] WayT)) = W7 at *
  generalize W6.heap.size = wb at *
  refine (FR.out _).mono ?_
  rintro e w8 ⟨rfl, u8⟩
  have H8 := Lib.hid (bmore H7.out u8)
  have HS8 := Lib.hid (Hold.below u8 _ _ HS7.out)
  have HN8 := Lib.hid (Hold.below u8 _ _ HN7.out)
  have HW8 := Lib.hid (Hold.below u8 _ _ HW7.out)
  clear u8 y0 y1 y2 y3 y4 y5 y6 cK cM hlk
  have hs8 := HS8.out
  have hw8 := HW8.out
  have f0 := frozenB (j := 0) hs8
  have x0 := cellB (j := 0) hs8 rfl
  have d0 := cellB (j := 0) hw8 rfl
  have d1 := cellB (j := 1) hw8 rfl
  have hsb : w.heap.size ≠ wb := fun e => by
    rw [← e, hs8] at hw8
    simp only [Option.some.injEq, Obj.cells.injEq] at hw8
    exact absurd hw8.2.1 (by decide)
  have hsb1 : ¬ w.heap.size = wb := hsb
  have hsb2 : ¬ wb = w.heap.size := fun e => hsb e.symm
  have HSX : Hid ((w8.setCell ⟨w.heap.size, 0, none⟩ (.int .i64 0)).heap[w.heap.size]? = some (Obj.cells #[.int .i64 0, .int .i64 0, .int .i64 0, .int .i64 u] StT)) := Lib.hid (setCellB hs8)
  have HLX := Lib.hid ((HL.out.below H8.out).set hs8 HNL.out 0 (.int .i64 0))
  have H0X := Lib.hid ((bmore H0.out H8.out).setCell (p := ⟨w.heap.size, 0, none⟩) (H0.out.size) (.int .i64 0))
  have HKX : Hid (KL w lbx nm lv (w8.setCell ⟨w.heap.size, 0, none⟩ (.int .i64 0))) := Lib.hid ((KL.of H8.out).set (Nat.le_refl _) 0 _)
  have HVX := Lib.hid (VN.refl w lv)
  have HGX := HGD
  have HPX := HPOS
  have HPRE : Hid (L <+: L) := Lib.hid (List.prefix_refl _)
  have HNW : Hid (∀ x ∈ L, x ∈ L ∨ N x.t) := Lib.hid (fun x hx => .inl hx)
  clear hs8 hw8 hsb
  go_upto_region 17 with fail
  generalize (w8.setCell ⟨w.heap.size, 0, none⟩ (.int .i64 0)) = W9 at *
  clear f0 x0 d0 d1 hsb1 hsb2
  obtain ⟨lva, lvc, hlvs⟩ := (row_of_own HLX.out.row).shape
  subst hlvs
  have hs9 := HSX.out
  have z0 := cellB (j := 0) hs9 rfl
  have z1 := cellB (j := 1) hs9 rfl
  have z2 := cellB (j := 2) hs9 rfl
  have z3 := cellB (j := 3) hs9 rfl
  have cL : W9.cell? ⟨lbx, 0, none⟩ = some (.slice lva L.length lvc) := cellB HLX.out.lb rfl
  have bT := bA0 W9 (.cells #[.int .i64 0, .int .i64 0, .int .i64 0, .int .i64 u] StT)
  have HBT := Lib.hid bT
  have HLT := Lib.hid (HLX.out.below bT)
  have hnew : (W9.alloc (.cells #[.int .i64 0, .int .i64 0, .int .i64 0, .int .i64 u] StT)).heap[W9.heap.size]? = some (Obj.cells (stA ⟨0, 0, 0, u⟩) StT) := heap_alloc_new _ _
  have HNEW := Lib.hid hnew
  have hlen9 : L.length ≤ 65536 := Nat.le_trans HGX.out.len HP.out.ok.len
  have hnbl : nbx ≠ lbx := fun e => by
    have h9 := HLX.out.nb
    rw [e, HLX.out.lb] at h9
    simp only [Option.some.injEq, Obj.cells.injEq] at h9
    exact absurd h9.2.1 (by decide)
  have hnb1 : ¬ nbx = lbx := hnbl
  have hnb2 : ¬ lbx = nbx := fun e => hnbl e.symm
  have hlnm : nm ≠ lbx := fun e => by
    obtain ⟨es, c, hm⟩ := HLX.out.num.mapb
    rw [e, HLX.out.lb] at hm; cases hm
  have HLNM := Lib.hid hlnm
  have hq : ∀ w', (W9.alloc (.cells #[.int .i64 0, .int .i64 0, .int .i64 0, .int .i64 u] StT)).grownBy w' (Value.slice lva L.length lvc).ownBlock → w'.heap[lbx]? = some (Obj.cells #[.slice lva L.length lvc] SlStT) ∧ w'.cell? ⟨lbx, 0, none⟩ = some (.slice lva L.length lvc) ∧ w'.frozen? ⟨lbx, 0, none⟩ = false ∧ w'.cell? ⟨nbx, 0, none⟩ = some (.map (some nm)) := fun w' hg => by
    have e : w'.heap[lbx]? = some (Obj.cells #[.slice lva L.length lvc] SlStT) := hold_row HLT.out.row hg (by decide) _ _ HLT.out.lb
    have e2 : w'.heap[nbx]? = some (Obj.cells #[.map (some nm)] NumT) := hold_row HLT.out.row hg (by decide) _ _ HLT.out.nb
    exact ⟨e, cellB e rfl, frozenB e, cellB e2 rfl⟩
  have HQ := Lib.hid hq
  have hbs : w0.heap.size ≤ (W9.alloc (.cells #[.int .i64 0, .int .i64 0, .int .i64 0, .int .i64 u] StT)).heap.size := Nat.le_trans H0X.out.size bT.size
  have hwl : wrap64 ((L.length : Int) + 1 - 1) = (L.length : Int) := by unfold wrap64; omega
  have hwl2 : (L ++ [(⟨0, 0, 0, u⟩ : St)]).length = L.length + 1 := by simp
  have HWL := Lib.hid hwl2
  clear hs9 bT hnew hq hlnm hnbl hwl2
  go_wp2_with (first
    | (at_builtin; refine wpList_append_st rfl _ _ rfl w0.heap.size (.slice lva L.length lvc) L rfl HLT.out.row _ ⟨0, 0, 0, u⟩ rfl HNEW.out (by omega) hbs ?_; intro v5 w9 hrow9 hg9 hw9; rw [HWL.out] at hrow9; obtain ⟨q0, q1, q2, q3⟩ := HQ.out w9 hg9; obtain ⟨sa, sc, rfl⟩ := (row_of_own hrow9).shape)
    | (at_mapUpdate; obtain ⟨D0, hown0, hD0⟩ := HLT.out.num.same (w' := w9.setCell ⟨lbx, 0, none⟩ (.slice sa (L.length + 1) sc)) (fun es c hm => (Below.heap_setCell _ _ _ _ HLNM.out).trans (map_row HLT.out.row hg9 hm)); have hm0 := hown0.isMap; refine wpList_mapUpdate_own _ rfl _ _ _ NumT rfl TermT IntT lawT Tryz.underlying129 (plainElem Tryz.prog IntT) nm L.length D0 rfl hown0 (by unfold maxLen; omega) _ _ (.int .i64 u) rfl rfl (keyT HU.out) (.lit (.int .i64 (L.length : Int))) [] (plainElem_int Tryz.underlying3 (wf_i64 (by unfold i64R; omega))) ?_; intro w10 hown10 hg10; have hn10 := NumM.put (s := ⟨0, 0, 0, u⟩) hm0 hD0 HU.out HPX.out hown10; have hrun10 := hn10.look1 HU.out; rw [posL_snoc HPX.out, if_pos rfl] at hrun10; simp only [Option.getD_some] at hrun10; have c10 : w10.cell? ⟨nbx, 0, none⟩ = some (.map (some nm)) := cellB (hold_map (HLT.out.num.same (w' := w9.setCell ⟨lbx, 0, none⟩ (.slice sa (L.length + 1) sc)) (fun es c hm => (Below.heap_setCell _ _ _ _ HLNM.out).trans (map_row HLT.out.row hg9 hm))).mapb hg10 _ _ _ (Hold.setCell q0 (by decide) _ _ (hold_row HLT.out.row hg9 (by decide) _ _ HLT.out.nb))) rfl))
  go_returns
  have hmb9 := (HLT.out.num.same (w' := w9.setCell ⟨lbx, 0, none⟩ (.slice sa (L.length + 1) sc)) (fun es c hm => (Below.heap_setCell _ _ _ _ HLNM.out).trans (map_row HLT.out.row hg9 hm))).mapb
  have hT : ∀ T, T ≠ StT → T ≠ SlStT → Hold T (W9.alloc (.cells #[.int .i64 0, .int .i64 0, .int .i64 0, .int .i64 u] StT)) w10 := fun T h1 h2 => ((hold_row HLT.out.row hg9 h1).trans (Hold.setCell q0 (Ne.symm h2))).trans (hold_map hmb9 hg10 T)
  have hrw10 : w10.ownsRow w0.heap.size StT 4 (.slice sa (L.length + 1) sc) (L ++ [(⟨0, 0, 0, u⟩ : St)]).length (sts (L ++ [(⟨0, 0, 0, u⟩ : St)])) := by
    rw [HWL.out]
    exact own_hold (own_hold hrow9 (Hold.setCell q0 (by decide))) (hold_map hmb9 hg10 _)
  have hb10 : Below w0.heap.size (W9.alloc (.cells #[.int .i64 0, .int .i64 0, .int .i64 0, .int .i64 u] StT)) w10 := ((((Below.refl _ _).grown hg9 hbs (fun q e => (own_type HLT.out.row e).1)).setCell (p := ⟨lbx, 0, none⟩) HLX.out.gl _)).trans (grown_below hg10 (by rw [show (w9.setCell ⟨lbx, 0, none⟩ (.slice sa (L.length + 1) sc)).heap.size = w9.heap.size by simp [World.setCell]]; exact Nat.le_trans hbs hg9.size) (fun q e => by cases e; exact HLX.out.gm))
  have hkl : KL W9 lbx nm (.slice lva L.length lvc) w10 := ⟨Nat.le_trans HBT.out.size (Nat.le_trans hg9.size (by have := hg10.size; simpa [World.setCell] using this)), fun j hj h1 h2 h3 => by
    have e1 : j < (W9.alloc (.cells #[.int .i64 0, .int .i64 0, .int .i64 0, .int .i64 u] StT)).heap.size := Nat.lt_of_lt_of_le hj HBT.out.size
    have e2 : j < w9.heap.size := Nat.lt_of_lt_of_le e1 hg9.size
    rw [hg10.block j (by simpa [World.setCell] using e2) (fun e => h2 (Option.some.inj e)), Below.heap_setCell _ _ _ _ h1, hg9.block j e1 (fun e => h3 e.symm), HBT.out.block j hj]⟩
  have hw9' : VN w (Value.slice lva L.length lvc) (Value.slice sa (L.length + 1) sc) := by
    have h9 := hw9
    try rw [HWL.out] at h9
    rcases h9 with e | e
    · exact .inl e
    · exact .inr ⟨_, e, Nat.le_trans HKX.out.size HBT.out.size⟩
  refine ⟨L.length, .slice sa (L.length + 1) sc, L ++ [⟨0, 0, 0, u⟩], rfl, ⟨hT _ (by decide) (by decide) _ _ HLT.out.nb, hT _ (by decide) (by decide) _ _ HLT.out.kb, hT _ (by decide) (by decide) _ _ HLT.out.fb, hold_map hmb9 hg10 _ _ _ (setCellB q0), hrw10, hn10, HLX.out.gl, HLX.out.gm⟩, HGX.out.snoc HPX.out HFOL.out HRU.out, HPRE.out.trans ⟨_, rfl⟩, ⟨by simp, by simp⟩, (H0X.out.trans (HBT.out.mono H0X.out.size)).trans hb10, HKX.out.trans hkl HVX.out, VN.trans (Nat.le_refl _) HVX.out hw9', fun x hx => ?_, fun _ => by simp⟩
  rcases List.mem_append.1 hx with hx | hx
  · exact HNW.out x hx
  · rw [List.mem_singleton.1 hx]; exact .inr HNU.out
set_option maxRecDepth 100000 in
set_option maxHeartbeats 25600000 in
theorem lay_way (hp : IsPool w0 B a b v p) (hk : IsKnow w0 B2 k gv mb a p g s) {u : Int} (hu : i64R u) {w : World} {lv : Value} {L : List St} (h0 : Below w0.heap.size w0 w) (hl : IsLay w w0.heap.size nbx kbx fbx lbx nm k lv L) (hgd : GoodL p g R L) (hpos : posL L u = none) {Ny : Int → Prop} {wr wy : Int} (hfr : freeB (atP p u).1.kind = false) (hin : inP p u = true) (hsu : s u = some (wr, wy)) (hy0 : wy ≠ 0) (hwr : wr = 1 ∨ wr = 2 ∨ wr = 3) (htk : takeN wr (atP p wy).1 = u) (hly : LayC w0 p g R nbx kbx fbx lbx nm k Ny wy) (hny : ¬ Ny u) (hns : ∀ x, Ny x → N x) (hru : R u) (hnu : N u) :
    Calls Tryz.prog 81 #[.int .i64 u, .pointer (some ⟨nbx, 0, none⟩), .pointer (some ⟨kbx, 0, none⟩), .pointer (some ⟨fbx, 0, none⟩), .pointer (some ⟨lbx, 0, none⟩)] w (LayPost w0 p g R nbx kbx fbx lbx nm k N w lv L u) := by
  have hlk := hl.num.look hu
  rw [hpos] at hlk
  have cN : w.cell? ⟨nbx, 0, none⟩ = some (.map (some nm)) := cellB hl.nb rfl
  have H0 := Lib.hid h0
  have HL := Lib.hid hl
  have HGD := Lib.hid hgd
  have HPOS := Lib.hid hpos
  have HRU := Lib.hid hru
  have HNU := Lib.hid hnu
  have HSU := Lib.hid hsu
  have HFW : Hid (∀ (L1 : List St) (i1 : Nat) (hi1 : i1 < L1.length), (L1[i1]).t = wy → followsP p g L1 ⟨wr, (i1 : Int), 0, u⟩ = true) := Lib.hid (fun L1 i1 hi1 ht1 => fol_way hin hwr hi1 ht1 htk)
  have HY0 := Lib.hid hy0
  have HWR := Lib.hid hwr
  have HTK := Lib.hid htk
  have HLY := Lib.hid hly
  have HNY := Lib.hid hny
  have HNS := Lib.hid hns
  clear hsu hin hru hnu hy0 hwr htk hly hny hns
  simp only [Option.getD_none, Option.isSome_none] at hlk
  have HU := Lib.hid hu
  have HP := Lib.hid hp
  have HK := Lib.hid hk
  have hlen : L.length ≤ 65536 := Nat.le_trans hgd.len hp.ok.len
  have b4 := bA0 w (.cells #[.int .i64 0, .int .i64 0, .int .i64 0, .int .i64 u] StT)
  have hs4 : (w.alloc (.cells #[.int .i64 0, .int .i64 0, .int .i64 0, .int .i64 u] StT)).heap[w.heap.size]? = some (Obj.cells #[.int .i64 0, .int .i64 0, .int .i64 0, .int .i64 u] StT) := heap_alloc_new _ _
  have hnl : lv.ownBlock ≠ some w.heap.size := fun e => by
    obtain ⟨_, cur, hc⟩ := own_type hl.row e
    exact absurd (Array.getElem?_eq_some_iff.1 hc).1 (Nat.lt_irrefl _)
  have HNL := Lib.hid hnl
  have cK : (w.alloc (.cells #[.int .i64 0, .int .i64 0, .int .i64 0, .int .i64 u] StT)).cell? ⟨kbx, 0, none⟩ = some (.pointer (some ⟨k, 0, none⟩)) := cellB (hl.below b4).kb rfl
  have cA : (w.alloc (.cells #[.int .i64 0, .int .i64 0, .int .i64 0, .int .i64 u] StT)).cell? ⟨k, 0, none⟩ = some (.pointer (some ⟨a, 0, none⟩)) := cellB (hk.below (bmore h0 b4)).lay rfl
  have HN := Lib.hid (pnode (hp.below (bmore h0 b4)) u)
  have FR := Lib.hid (fun (W : World) => free_any (atP p u).1 W)
  have hsk := fun (W : World) (h : Below w0.heap.size w0 W) => ((hk.below h).seen.look hu)
  have hck := fun (W : World) (h : Below w0.heap.size w0 W) => (show W.cell? ⟨k, 2, none⟩ = some (.map (some mb)) from cellB (hk.below h).lay rfl)
  have HSK := Lib.hid hsk
  have HCK := Lib.hid hck
  have HS4 := Lib.hid hs4
  have H4 := Lib.hid b4
  rw [hfr] at FR
  generalize hnn : (atP p u).1 = n at *
  have HNN := Lib.hid hnn
  generalize inP p u = iu at *
  clear hp hk hl hgd h0 hpos b4 hs4 hnl hsk hck hu hnn hfr
  obtain ⟨kk, ff, tt, uu, ss, xa, xb⟩ := n
  simp only [nodeA] at HN FR
  go_enter Tryz.func81, Tryz.ntmps81
  go_wp2_with fail
  refine HN.out.mono ?_
  rintro e w5 ⟨rfl, u5⟩
  have b6 := bA0 w5 (.cells #[.int .i64 kk, .int .i64 ff, .int .i64 tt, .int .u64 uu, .string ss, .int .i64 xa, .int .i64 xb] NodeT)
  have hn6 : (w5.alloc (.cells #[.int .i64 kk, .int .i64 ff, .int .i64 tt, .int .u64 uu, .string ss, .int .i64 xa, .int .i64 xb] NodeT)).heap[w5.heap.size]? = some (Obj.cells #[.int .i64 kk, .int .i64 ff, .int .i64 tt, .int .u64 uu, .string ss, .int .i64 xa, .int .i64 xb] NodeT) := heap_alloc_new _ _
  have H6 := Lib.hid (bmore H4.out (bmore u5 b6))
  have HS6 := Lib.hid (Hold.below (bmore u5 b6) _ _ HS4.out)
  have HN6 := Lib.hid hn6
  clear u5 b6 hn6 cK cA hlk cN
  have cK := cellB (j := 0) (HL.out.below H6.out).kb rfl
  have cM := HCK.out _ (bmore H0.out H6.out)
  have hlk := HSK.out _ (bmore H0.out H6.out)
  rw [HSU.out] at hlk; simp only [wayV, Option.getD_some, Option.isSome_some] at hlk
  go_upto_region 6 with fail
  generalize (w5.alloc (.cells #[.int .i64 kk, .int .i64 ff, .int .i64 tt, .int .u64 uu, .string ss, .int .i64 xa, .int .i64 xb] NodeT)) = W6 at *
  generalize w5.heap.size = nbk at *
  have b7 := bA0 W6 (.cells #[.int .i64 wr, .int .i64 wy] WayT)
  have hw7 : (W6.alloc (.cells #[.int .i64 wr, .int .i64 wy] WayT)).heap[W6.heap.size]? = some (Obj.cells #[.int .i64 wr, .int .i64 wy] WayT) := heap_alloc_new _ _
  have H7 := Lib.hid (bmore H6.out b7)
  have HS7 := Lib.hid (Hold.below b7 _ _ HS6.out)
  have hn7 := Hold.below b7 _ _ HN6.out
  have HN7 := Lib.hid hn7
  have HW7 := Lib.hid hw7
  have y0 := cellB (j := 0) hn7 rfl
  have y1 := cellB (j := 1) hn7 rfl
  have y2 := cellB (j := 2) hn7 rfl
  have y3 := cellB (j := 3) hn7 rfl
  have y4 := cellB (j := 4) hn7 rfl
  have y5 := cellB (j := 5) hn7 rfl
  have y6 := cellB (j := 6) hn7 rfl
  clear b7 hw7 hn7
  go_wp2_with fail
  generalize (W6.alloc (.cells #[.int .i64 wr, .int .i64 wy] WayT)) = W7 at *
  generalize W6.heap.size = wb at *
  refine (FR.out _).mono ?_
  rintro e w8 ⟨rfl, u8⟩
  have H8 := Lib.hid (bmore H7.out u8)
  have HS8 := Lib.hid (Hold.below u8 _ _ HS7.out)
  have HN8 := Lib.hid (Hold.below u8 _ _ HN7.out)
  have HW8 := Lib.hid (Hold.below u8 _ _ HW7.out)
  clear u8 y0 y1 y2 y3 y4 y5 y6 cK cM hlk
  have hs8 := HS8.out
  have hw8 := HW8.out
  have f0 := frozenB (j := 0) hs8
  have x0 := cellB (j := 0) hs8 rfl
  have d0 := cellB (j := 0) hw8 rfl
  have d1 := cellB (j := 1) hw8 rfl
  have hsb : w.heap.size ≠ wb := fun e => by
    rw [← e, hs8] at hw8
    simp only [Option.some.injEq, Obj.cells.injEq] at hw8
    exact absurd hw8.2.1 (by decide)
  have hsb1 : ¬ w.heap.size = wb := hsb
  have hsb2 : ¬ wb = w.heap.size := fun e => hsb e.symm
  have HSX : Hid ((w8.setCell ⟨w.heap.size, 0, none⟩ (.int .i64 wr)).heap[w.heap.size]? = some (Obj.cells #[.int .i64 wr, .int .i64 0, .int .i64 0, .int .i64 u] StT)) := Lib.hid (setCellB hs8)
  have HLX := Lib.hid ((HL.out.below H8.out).set hs8 HNL.out 0 (.int .i64 wr))
  have H0X := Lib.hid ((bmore H0.out H8.out).setCell (p := ⟨w.heap.size, 0, none⟩) (H0.out.size) (.int .i64 wr))
  have HKX : Hid (KL w lbx nm lv (w8.setCell ⟨w.heap.size, 0, none⟩ (.int .i64 wr))) := Lib.hid ((KL.of H8.out).set (Nat.le_refl _) 0 _)
  have e1 : (w8.setCell ⟨w.heap.size, 0, none⟩ (.int .i64 wr)).cell? ⟨wb, 1, none⟩ = some (.int .i64 wy) := cellB ((Below.heap_setCell _ _ _ _ hsb2).trans hw8) rfl
  have e2 : (w8.setCell ⟨w.heap.size, 0, none⟩ (.int .i64 wr)).cell? ⟨fbx, 0, none⟩ = some (.func (.func 81) #[] #[.pointer (some ⟨nbx, 0, none⟩), .pointer (some ⟨kbx, 0, none⟩), .pointer (some ⟨fbx, 0, none⟩), .pointer (some ⟨lbx, 0, none⟩)]) := cellB HLX.out.fb rfl
  have hy0 := ebF HY0.out
  have hy1 : (wy != 0) = true := by rw [bne, hy0]; rfl
  clear hs8 hw8 hsb
  go_upto_region 15 with fail
  generalize (w8.setCell ⟨w.heap.size, 0, none⟩ (.int .i64 wr)) = W9 at *
  clear f0 x0 d0 d1
  go_wp2_with fail
  refine (HLY.out W9 lv L H0X.out HLX.out HGD.out).mono ?_
  rintro e w10 ⟨i1, lv1, L1, rfl, l1, g1, pr1, ⟨hi1, ht1⟩, b1, k1, v1, nw1, _⟩
  have hsk : w10.heap[w.heap.size]? = some (Obj.cells #[.int .i64 wr, .int .i64 0, .int .i64 0, .int .i64 u] StT) := by
    have h9 := HSX.out
    rw [k1.keep _ (Array.getElem?_eq_some_iff.1 h9).1 (fun e => ?_) (fun e => ?_) HNL.out]
    · exact h9
    · rw [e, HLX.out.lb] at h9
      simp only [Option.some.injEq, Obj.cells.injEq] at h9
      exact absurd h9.2.1 (by decide)
    · obtain ⟨es, c, hm⟩ := HLX.out.num.mapb
      rw [e, hm] at h9; cases h9
  have hnl1 : lv1.ownBlock ≠ some w.heap.size := fun e => by
    rcases v1 with e' | ⟨q, e', hq⟩
    · exact HNL.out (e'.symm.trans e)
    · rw [e'] at e
      cases e
      have := (Array.getElem?_eq_some_iff.1 HSX.out).1
      omega
  have f1 := frozenB (j := 1) hsk
  have x1 := cellB (j := 1) hsk rfl
  have HGX := Lib.hid g1
  have HPRE := Lib.hid pr1
  have HFOL := Lib.hid (HFW.out L1 i1 hi1 ht1)
  have HPX : Hid (posL L1 u = none) := Lib.hid (by
    cases e : posL L1 u with
    | none => rfl
    | some i =>
      obtain ⟨hi, ht⟩ := posL_some e
      rcases nw1 _ (List.getElem_mem hi) with h9 | h9
      · exact absurd ht (posL_none HPOS.out _ h9)
      · rw [ht] at h9; exact absurd h9 HNY.out)
  have HNW : Hid (∀ x ∈ L1, x ∈ L ∨ N x.t) := Lib.hid (fun x hx => (nw1 x hx).imp id (HNS.out x.t))
  have HVX := Lib.hid (VN.trans HKX.out.size (VN.refl w lv) v1)
  have HSY : Hid ((w10.setCell ⟨w.heap.size, 1, none⟩ (.int .i64 (i1 : Int))).heap[w.heap.size]? = some (Obj.cells #[.int .i64 wr, .int .i64 (i1 : Int), .int .i64 0, .int .i64 u] StT)) := Lib.hid (setCellB hsk)
  have HLY2 := Lib.hid (l1.set hsk hnl1 1 (.int .i64 (i1 : Int)))
  have H0Y := Lib.hid (b1.setCell (p := ⟨w.heap.size, 1, none⟩) (H0.out.size) (.int .i64 (i1 : Int)))
  have HKY : Hid (KL w lbx nm lv (w10.setCell ⟨w.heap.size, 1, none⟩ (.int .i64 (i1 : Int)))) := Lib.hid ((HKX.out.trans k1 (VN.refl w lv)).set (Nat.le_refl _) 1 _)
  clear l1 g1 pr1 hi1 ht1 b1 k1 v1 nw1 hsk hnl1 e1 e2 hsb1 hsb2 hy0 hy1 HSX HLX H0X HKX
  have HSX := HSY
  have HLX := HLY2
  have H0X := H0Y
  have HKX := HKY
  clear HSY HLY2 H0Y HKY HLY
  go_upto_region 17 with fail
  generalize (w10.setCell ⟨w.heap.size, 1, none⟩ (.int .i64 (i1 : Int))) = W11 at *
  clear f1 x1
  obtain ⟨lva, lvc, hlvs⟩ := (row_of_own HLX.out.row).shape
  subst hlvs
  have hs9 := HSX.out
  have z0 := cellB (j := 0) hs9 rfl
  have z1 := cellB (j := 1) hs9 rfl
  have z2 := cellB (j := 2) hs9 rfl
  have z3 := cellB (j := 3) hs9 rfl
  have cL : W11.cell? ⟨lbx, 0, none⟩ = some (.slice lva L1.length lvc) := cellB HLX.out.lb rfl
  have bT := bA0 W11 (.cells #[.int .i64 wr, .int .i64 (i1 : Int), .int .i64 0, .int .i64 u] StT)
  have HBT := Lib.hid bT
  have HLT := Lib.hid (HLX.out.below bT)
  have hnew : (W11.alloc (.cells #[.int .i64 wr, .int .i64 (i1 : Int), .int .i64 0, .int .i64 u] StT)).heap[W11.heap.size]? = some (Obj.cells (stA ⟨wr, (i1 : Int), 0, u⟩) StT) := heap_alloc_new _ _
  have HNEW := Lib.hid hnew
  have hlen9 : L1.length ≤ 65536 := Nat.le_trans HGX.out.len HP.out.ok.len
  have hnbl : nbx ≠ lbx := fun e => by
    have h9 := HLX.out.nb
    rw [e, HLX.out.lb] at h9
    simp only [Option.some.injEq, Obj.cells.injEq] at h9
    exact absurd h9.2.1 (by decide)
  have hnb1 : ¬ nbx = lbx := hnbl
  have hnb2 : ¬ lbx = nbx := fun e => hnbl e.symm
  have hlnm : nm ≠ lbx := fun e => by
    obtain ⟨es, c, hm⟩ := HLX.out.num.mapb
    rw [e, HLX.out.lb] at hm; cases hm
  have HLNM := Lib.hid hlnm
  have hq : ∀ w', (W11.alloc (.cells #[.int .i64 wr, .int .i64 (i1 : Int), .int .i64 0, .int .i64 u] StT)).grownBy w' (Value.slice lva L1.length lvc).ownBlock → w'.heap[lbx]? = some (Obj.cells #[.slice lva L1.length lvc] SlStT) ∧ w'.cell? ⟨lbx, 0, none⟩ = some (.slice lva L1.length lvc) ∧ w'.frozen? ⟨lbx, 0, none⟩ = false ∧ w'.cell? ⟨nbx, 0, none⟩ = some (.map (some nm)) := fun w' hg => by
    have e : w'.heap[lbx]? = some (Obj.cells #[.slice lva L1.length lvc] SlStT) := hold_row HLT.out.row hg (by decide) _ _ HLT.out.lb
    have e2 : w'.heap[nbx]? = some (Obj.cells #[.map (some nm)] NumT) := hold_row HLT.out.row hg (by decide) _ _ HLT.out.nb
    exact ⟨e, cellB e rfl, frozenB e, cellB e2 rfl⟩
  have HQ := Lib.hid hq
  have hbs : w0.heap.size ≤ (W11.alloc (.cells #[.int .i64 wr, .int .i64 (i1 : Int), .int .i64 0, .int .i64 u] StT)).heap.size := Nat.le_trans H0X.out.size bT.size
  have hwl : wrap64 ((L1.length : Int) + 1 - 1) = (L1.length : Int) := by unfold wrap64; omega
  have hwl2 : (L1 ++ [(⟨wr, (i1 : Int), 0, u⟩ : St)]).length = L1.length + 1 := by simp
  have HWL := Lib.hid hwl2
  clear hs9 bT hnew hq hlnm hnbl hwl2
  go_wp2_with (first
    | (at_builtin; refine wpList_append_st rfl _ _ rfl w0.heap.size (.slice lva L1.length lvc) L1 rfl HLT.out.row _ ⟨wr, (i1 : Int), 0, u⟩ rfl HNEW.out (by omega) hbs ?_; intro v5 w9 hrow9 hg9 hw9; rw [HWL.out] at hrow9; obtain ⟨q0, q1, q2, q3⟩ := HQ.out w9 hg9; obtain ⟨sa, sc, rfl⟩ := (row_of_own hrow9).shape)
    | (at_mapUpdate; obtain ⟨D0, hown0, hD0⟩ := HLT.out.num.same (w' := w9.setCell ⟨lbx, 0, none⟩ (.slice sa (L1.length + 1) sc)) (fun es c hm => (Below.heap_setCell _ _ _ _ HLNM.out).trans (map_row HLT.out.row hg9 hm)); have hm0 := hown0.isMap; refine wpList_mapUpdate_own _ rfl _ _ _ NumT rfl TermT IntT lawT Tryz.underlying129 (plainElem Tryz.prog IntT) nm L1.length D0 rfl hown0 (by unfold maxLen; omega) _ _ (.int .i64 u) rfl rfl (keyT HU.out) (.lit (.int .i64 (L1.length : Int))) [] (plainElem_int Tryz.underlying3 (wf_i64 (by unfold i64R; omega))) ?_; intro w10 hown10 hg10; have hn10 := NumM.put (s := ⟨wr, (i1 : Int), 0, u⟩) hm0 hD0 HU.out HPX.out hown10; have hrun10 := hn10.look1 HU.out; rw [posL_snoc HPX.out, if_pos rfl] at hrun10; simp only [Option.getD_some] at hrun10; have c10 : w10.cell? ⟨nbx, 0, none⟩ = some (.map (some nm)) := cellB (hold_map (HLT.out.num.same (w' := w9.setCell ⟨lbx, 0, none⟩ (.slice sa (L1.length + 1) sc)) (fun es c hm => (Below.heap_setCell _ _ _ _ HLNM.out).trans (map_row HLT.out.row hg9 hm))).mapb hg10 _ _ _ (Hold.setCell q0 (by decide) _ _ (hold_row HLT.out.row hg9 (by decide) _ _ HLT.out.nb))) rfl))
  go_returns
  have hmb9 := (HLT.out.num.same (w' := w9.setCell ⟨lbx, 0, none⟩ (.slice sa (L1.length + 1) sc)) (fun es c hm => (Below.heap_setCell _ _ _ _ HLNM.out).trans (map_row HLT.out.row hg9 hm))).mapb
  have hT : ∀ T, T ≠ StT → T ≠ SlStT → Hold T (W11.alloc (.cells #[.int .i64 wr, .int .i64 (i1 : Int), .int .i64 0, .int .i64 u] StT)) w10 := fun T h1 h2 => ((hold_row HLT.out.row hg9 h1).trans (Hold.setCell q0 (Ne.symm h2))).trans (hold_map hmb9 hg10 T)
  have hrw10 : w10.ownsRow w0.heap.size StT 4 (.slice sa (L1.length + 1) sc) (L1 ++ [(⟨wr, (i1 : Int), 0, u⟩ : St)]).length (sts (L1 ++ [(⟨wr, (i1 : Int), 0, u⟩ : St)])) := by
    rw [HWL.out]
    exact own_hold (own_hold hrow9 (Hold.setCell q0 (by decide))) (hold_map hmb9 hg10 _)
  have hb10 : Below w0.heap.size (W11.alloc (.cells #[.int .i64 wr, .int .i64 (i1 : Int), .int .i64 0, .int .i64 u] StT)) w10 := ((((Below.refl _ _).grown hg9 hbs (fun q e => (own_type HLT.out.row e).1)).setCell (p := ⟨lbx, 0, none⟩) HLX.out.gl _)).trans (grown_below hg10 (by rw [show (w9.setCell ⟨lbx, 0, none⟩ (.slice sa (L1.length + 1) sc)).heap.size = w9.heap.size by simp [World.setCell]]; exact Nat.le_trans hbs hg9.size) (fun q e => by cases e; exact HLX.out.gm))
  have hkl : KL W11 lbx nm (.slice lva L1.length lvc) w10 := ⟨Nat.le_trans HBT.out.size (Nat.le_trans hg9.size (by have := hg10.size; simpa [World.setCell] using this)), fun j hj h1 h2 h3 => by
    have e1 : j < (W11.alloc (.cells #[.int .i64 wr, .int .i64 (i1 : Int), .int .i64 0, .int .i64 u] StT)).heap.size := Nat.lt_of_lt_of_le hj HBT.out.size
    have e2 : j < w9.heap.size := Nat.lt_of_lt_of_le e1 hg9.size
    rw [hg10.block j (by simpa [World.setCell] using e2) (fun e => h2 (Option.some.inj e)), Below.heap_setCell _ _ _ _ h1, hg9.block j e1 (fun e => h3 e.symm), HBT.out.block j hj]⟩
  have hw9' : VN w (Value.slice lva L1.length lvc) (Value.slice sa (L1.length + 1) sc) := by
    have h9 := hw9
    try rw [HWL.out] at h9
    rcases h9 with e | e
    · exact .inl e
    · exact .inr ⟨_, e, Nat.le_trans HKX.out.size HBT.out.size⟩
  refine ⟨L1.length, .slice sa (L1.length + 1) sc, L1 ++ [⟨wr, (i1 : Int), 0, u⟩], rfl, ⟨hT _ (by decide) (by decide) _ _ HLT.out.nb, hT _ (by decide) (by decide) _ _ HLT.out.kb, hT _ (by decide) (by decide) _ _ HLT.out.fb, hold_map hmb9 hg10 _ _ _ (setCellB q0), hrw10, hn10, HLX.out.gl, HLX.out.gm⟩, HGX.out.snoc HPX.out HFOL.out HRU.out, HPRE.out.trans ⟨_, rfl⟩, ⟨by simp, by simp⟩, (H0X.out.trans (HBT.out.mono H0X.out.size)).trans hb10, HKX.out.trans hkl HVX.out, VN.trans (Nat.le_refl _) HVX.out hw9', fun x hx => ?_, fun _ => by simp⟩
  rcases List.mem_append.1 hx with hx | hx
  · exact HNW.out x hx
  · rw [List.mem_singleton.1 hx]; exact .inr HNU.out
end
end Go.Proofs.YtgaklaajbepfaaaGreatDoor
