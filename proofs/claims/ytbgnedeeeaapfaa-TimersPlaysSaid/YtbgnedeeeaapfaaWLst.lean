/-
  What List answers of a wheel of texts.
-/
import Derived.Test.YtbgnedeeeaapfaaWRnd
import Derived.Test.YtbgnedeeeaapfaaKML
import Derived.Test.YtbgnedeeeaapfaaKWIm
import Derived.Test.YtbgnedeeeaapfaaKWLm
import Derived.Test.YtbgnedeeeaapfaaW5S
import Derived.Test.YtbgnedeeeaapfaaWRf
import Derived.RangeFuncNested
import Derived.LoopN
namespace Go.Proofs.Ytbgnedeeeaapfaa
open Go.RowKit Go.Shelf Go.Maps
attribute [local go_sem] Oper.semAt_some
set_option linter.unusedVariables false
def valAt (x : Wh) (i : Int) : Value := match fnd x.ts i with
  | some t => t.v
  | none => .string ⟨#[]⟩
theorem range_N {F : Fence} {n : Nat} {P : Program} {α : Type} {g : Operand} {ps : Array Tmp} {assign body : Code} {Q : Exit → Act → World → Prop} {a : Act} {w : World} {l0 : Nat} {r0 : Loop}
    (hro : F.round = some l0) (hl0 : w.heap[l0]? = some (.loop r0)) (h1 : 1 ≤ n) {gf : Nat} {lb : Array Value} (hg : a.eval g = .func (.func gf) #[] lb) (hFg : F.fn gf) (eg : ∀ args w, (callFunc gf args).run P w = .ok (.enter gf args) w)
    {encs : α → Array Value} {B0 : Nat} {S Sp : List α → Prop} {N : Nat} (hseq : SeqStopsK F (n - 1) P gf lb encs (Below B0) S Sp N w) (hB0 : B0 ≤ w.heap.size) (hps : ∀ x, (encs x).size = ps.size)
    (I : List α → World → Prop) (Ix : Code → List α → World → Prop) (hI : OwnFrom w.heap.size I) (hIx : ∀ c, OwnFrom w.heap.size (Ix c)) (h0 : I [] w) (a1 : α → Act)
    (hassign : ∀ (l : Nat) (x : α) (W : World) (K : Act → World → Prop), K (a1 x) W → assign.wpIn (F.inRound l) (n - 1 - 1) P (Exit.then K (fun _ _ _ => False)) { tmps := (ps.zip (encs x)).foldl (fun t (p, v) => t.setIfInBounds p v) a.tmps, defers := [] } W)
    (hbody : ∀ (l : Nat) (pre : List α) (x : α) (W : World), w.heap.size ≤ l → I pre W → pre.length < N → body.wpIn (F.inRound l) (n - 1 - 1) P (ownPostG w.heap.size (Below B0) I Ix (pre ++ [x]) W) (a1 x) W)
    (hdone : ∀ (xs : List α) (W : World), S xs → I xs W → Q .normal a W)
    (hstop : ∀ (c : Code) (pre : List α) (W : World), Sp pre → Ix c pre W → c.wpIn F n P Q a W) :
    (Code.rangeFunc g ps assign body).wpIn F n P Q a w :=
  wpIn_rangeFunc_ownN hro hl0 h1 hg hFg eg hseq belowK_t (belowK_b hB0) (Below.refl _ _) hps I Ix hI hIx h0 (fun x a' _ => a' = a1 x) (fun _ _ _ _ _ _ hs _ _ => hs)
    (fun l pre x W K hi hK => hassign l x W K (hK _ _ (KeepsFrom.refl _ _) (Below.refl _ _) hi rfl)) (fun l pre x a' W hl _ hi e => by subst e; exact hbody l pre x W hl hi) hdone hstop
theorem box_kept {W W' : World} {B n : Nat} {t : TypeId} {v : Value} {row : Option Nat} (h : Boxed W B t v) (hg : W.grownBy W' row) (hr : ∀ r, row = some r → n ≤ r ∧ ∃ o : Obj, W.heap[r]? = some o ∧ o.isCells = false) : Boxed W' B t v :=
  h.kept hg fun e => by
    obtain ⟨_, o, ho, hc⟩ := hr B e.symm
    rw [show W.heap[B]? = _ from h] at ho
    cases ho
    simp [Obj.isCells] at hc
/-- What List has got. -/
def Got (w : World) (a bl : Nat) (vs : List Value) (W : World) : Prop := ∃ v, Boxed W bl SlTS v ∧ W.ownsRow w.heap.size ElTS 1 v vs.length vs ∧ Below w.heap.size w W ∧ Boxed W w.heap.size PtTS (.pointer (some ⟨a, 0, none⟩))
theorem Got.kept {w W W' : World} {a bl n : Nat} {vs : List Value} {row : Option Nat} (h : Got w a bl vs W) (hn : w.heap.size ≤ n) (hg : W.grownBy W' row) (hr : ∀ r, row = some r → n ≤ r ∧ ∃ o : Obj, W.heap[r]? = some o ∧ o.isCells = false) : Got w a bl vs W' := by
  obtain ⟨v, h1, h2, h3, h4⟩ := h
  exact ⟨v, box_kept h1 hg hr, own_kept h2 hg (fun r e => (hr r e).2), h3.grown hg h3.size fun q e => Nat.le_trans hn (hr q e).1, box_kept h4 hg hr⟩
abbrev MemL (E : List (Int × Option Addr)) := {y : Int × Option Addr // y ∈ E}
abbrev MemI (E : List (Int × Int)) := {y : Int × Int // y ∈ E}
def lineV (x : Wh) (G : Grp) (k : Int) : List Value := (lineOf G k).map fun q => valAt x q.2
def outV (x : Wh) (G : Grp) {E : List (Int × Option Addr)} (pre : List (MemL E)) : List Value := pre.flatMap fun y => lineV x G y.1.1
theorem outV_snoc (x : Wh) (G : Grp) {E : List (Int × Option Addr)} (pre : List (MemL E)) (y : MemL E) : outV x G (pre ++ [y]) = outV x G pre ++ lineV x G y.1.1 := by
  unfold outV
  rw [List.flatMap_append]
  simp only [List.flatMap_cons, List.flatMap_nil, List.append_nil]
theorem lineOf_mem {G : Grp} (h : Srt G) {g : Int × List (Int × Int)} (hg : g ∈ G) : lineOf G g.1 = g.2 := by
  have hm : g ∈ atKey G g.1 := by rw [atKey_eqI]; exact List.mem_filter.2 ⟨hg, by simp⟩
  rcases lineOf_cases h g.1 with ⟨e, _⟩ | ⟨e, _⟩
  · rw [e] at hm; cases hm
  · rw [e, List.mem_singleton] at hm
    rw [hm]
theorem flatMap_eq {A B : Type} {l : List A} {f g : A → List B} (h : ∀ x ∈ l, f x = g x) : l.flatMap f = l.flatMap g := by
  induction l with
  | nil => rfl
  | cons y l ih => rw [List.flatMap_cons, List.flatMap_cons, h y (by simp), ih fun x hx => h x (by simp [hx])]
theorem outV_all {x : Wh} {G : Grp} {w : World} {E : List (Int × Option Addr)} (hn : x.ts.Pairwise fun a b => a.id ≠ b.id) (hL : Lines G x.ts) (hE : Lns w E G) {ys : List (MemL E)} (hy : ys.map (·.1) = E) : outV x G ys = valsL x.ts := by
  have ek : ys.map (fun y => y.1.1) = G.map (·.1) := by
    have h := congrArg (List.map Prod.fst) hy
    rw [List.map_map] at h
    rw [← hE.keys]
    exact h
  have e0 : outV x G ys = (G.map (·.1)).flatMap fun k => lineV x G k := by
    rw [← ek, List.flatMap_map]
    rfl
  have e1 : ((G.map (·.1)).flatMap fun k => lineV x G k) = G.flatMap fun g => g.2.map fun q => valAt x q.2 := by
    rw [List.flatMap_map]
    refine flatMap_eq fun g hg => ?_
    show lineV x G g.1 = _
    unfold lineV
    rw [lineOf_mem hL.so hg]
  have e : (G.flatMap fun g => g.2.map fun q => valAt x q.2) = (flat G).map fun e => valAt x e.2.2 := by
    unfold flat
    rw [List.map_flatMap]
    simp only [List.map_map]
    rfl
  rw [e0, e1, e, hL.fl, List.map_map]
  unfold valsL
  refine List.map_congr_left fun t ht => ?_
  show valAt x t.id = t.v
  unfold valAt
  rw [fnd_mem hn ht]
theorem outV_len {x : Wh} {G : Grp} (hL : Lines G x.ts) (hl : x.ts.length ≤ 5000) {E : List (Int × Option Addr)} (pre : List (MemL E)) : (outV x G pre).length ≤ pre.length * 5000 := by
  induction pre with
  | nil => simp [outV]
  | cons y pre ih =>
    have h1 : outV x G (y :: pre) = lineV x G y.1.1 ++ outV x G pre := by unfold outV; rw [List.flatMap_cons]
    have h2 := hL.llen y.1.1
    have h3 : (lineV x G y.1.1).length = (lineOf G y.1.1).length := by unfold lineV; rw [List.length_map]
    rw [h1, List.length_append, List.length_cons, h3]
    omega
/-- Between two rounds of the outer range. -/
def OutI (w : World) (a bl : Nat) (x : Wh) (G : Grp) {E : List (Int × Option Addr)} (pre : List (MemL E)) (W : World) : Prop := Got w a bl (outV x G pre) W
theorem outI_own {w : World} {a bl n : Nat} {x : Wh} {G : Grp} {E : List (Int × Option Addr)} (hn : w.heap.size ≤ n) : OwnFrom n (OutI w a bl x G (E := E)) := by
  rintro s X Y row h2 hg hr
  exact h2.kept hn hg hr
def InI (w X : World) (a bl N : Nat) (x : Wh) (D : List Value) {l : List (Int × Int)} (p2 : List (MemI l)) (Y : World) : Prop := KeepsFrom N X Y ∧ Below w.heap.size X Y ∧ Got w a bl (D ++ p2.map fun q => valAt x q.1.2) Y
theorem inI_own {w X : World} {a bl N n : Nat} {x : Wh} {D : List Value} {l : List (Int × Int)} (hn : X.heap.size ≤ n) (hw : w.heap.size ≤ X.heap.size) : OwnFrom n (InI w X a bl N x D (l := l)) := by
  rintro s Y Z row ⟨h2, h3, h4⟩ hg hr
  exact ⟨ownFrom_keepsFrom (β := List (MemI l)) hn s Y Z row h2 hg hr, h3.grown hg (Nat.le_trans hw h2.size) fun q e => Nat.le_trans hw (Nat.le_trans hn (hr q e).1), h4.kept (Nat.le_trans hw hn) hg hr⟩
theorem Lns.mem {w : World} {es : List (Int × Option Addr)} {G : Grp} (h : Lns w es G) {y : Int × Option Addr} (hy : y ∈ es) : ∃ g ∈ G, g.1 = y.1 ∧ IsLine w y.2 g.2 := by
  induction h with
  | nil => cases hy
  | cons h _ ih =>
    rcases List.mem_cons.1 hy with rfl | hy
    · exact ⟨_, List.mem_cons_self, rfl, h⟩
    · obtain ⟨g, h1, h2, h3⟩ := ih hy
      exact ⟨g, List.mem_cons_of_mem _ h1, h2, h3⟩
/-- append of one value to a row of the call's own. -/
theorem wp_appSb {w : World} {o : Oper} {a : Act} {K : Act → World → Prop} {Q : Exit → Act → World → Prop} (s x : Operand)
    (ho : o.op = .call { callee := .builtin .append, args := #[s, x], argTypes := #[SlTS, SlTS] })
    (base : Nat) (v : Value) (xs : List Value) (hs : a.eval s = v) (hown : w.ownsRow base ElTS 1 v xs.length xs) (b : Nat) (t : ByteArray) (hx : a.eval x = .slice (some ⟨b, 0, none⟩) 1 1) (hb : w.cell? ⟨b, 0, none⟩ = some (.string t))
    (hlen : xs.length ≤ 50000000) (hbase : base ≤ w.heap.size)
    (h : ∀ v' w', w'.ownsRow base ElTS 1 v' (xs ++ [(.string t : Value)]).length (xs ++ [(.string t : Value)]) → w.grownBy w' v.ownBlock → (v'.ownBlock = v.ownBlock ∨ v'.ownBlock = some w.heap.size) → K (a.put o.dst v') w') : Oper.wp Try.prog o a w K Q := by
  obtain ⟨i0, hi, hz0, hz1, hz2⟩ := info_parts rowVS
  refine wp_append_at w s x SlTS ho base ElTS i0 (.string ⟨#[]⟩) 1 16 Try.underlying44 hi hz0 hz1 hz2 rfl (by decide) v _ _ hs hown ⟨b, 0, none⟩ 1 1 [.string t] hx (by decide) rfl (fun j u hj => by
    cases j with
    | zero => simp at hj; subst hj; exact hb
    | succ j => simp at hj) (by simp; rfl) (by unfold maxLen; omega) (by omega) hbase ?_
  intro v' w' h6 h7 h8
  exact h v' w' (by simpa using h6) h7 h8
set_option maxRecDepth 20000 in
set_option maxHeartbeats 3200000 in
theorem listS {w : World} {a mb : Nat} {cv : Value} {tn : Bool} {x : Wh} (h : IsWS w a mb cv tn x) :
    CallsIn Fence.wide 3 Try.prog 53 #[.pointer (some ⟨a, 0, none⟩)] w fun e w' => ∃ u, e = .returned u ∧ w'.ownsRow w.heap.size ElTS 1 u x.ts.length (valsL x.ts) ∧ Below w.heap.size w w' := by
  have b1 : Below w.heap.size w (w.alloc (.cells #[.pointer (some ⟨a, 0, none⟩)] PtTS)) := (Below.refl _ _).alloc (Nat.le_refl _) _
  have HX := Lib.hid h
  have H1 := Lib.hid (h.below b1)
  have HB1 := Lib.hid b1
  have HN := Lib.hid (show x.ts.length ≤ 5000 by have := h.good.len; omega)
  clear h b1
  refine callsIn_of_wp_marks Try.func53 rfl trivial ?_ rfl
  simp only [Try.ntmps53, List.size_toArray, List.length_cons, List.length_nil, Nat.reduceAdd, Nat.reduceSub, Array.replicate_succ, Array.replicate_zero, List.push_toArray, List.append_toArray, List.nil_append, List.cons_append]
  refine wpIn_wide.2 ?_
  go_wp2_with fail
  refine (lenS H1.out).mono ?_
  rintro e w1 ⟨rfl, rfl⟩
  obtain ⟨i0, hi0, hz0, hz1, hz2⟩ := info_parts rowVS
  obtain ⟨W2, hmk, o2, g2⟩ := run_make_own (P := Try.prog) (w := w.alloc (.cells #[.pointer (some ⟨a, 0, none⟩)] PtTS)) w.heap.size SlTS ElTS i0 (.string ⟨#[]⟩) 1 Try.underlying44 hi0 hz0 hz1 .i64 .i64 x.ts.length (by have := HN.out; rw [hz2]; omega) (by have := HN.out; unfold maxLen; omega) HB1.out.size
  have b2 : Below (w.alloc (.cells #[.pointer (some ⟨a, 0, none⟩)] PtTS)).heap.size (w.alloc (.cells #[.pointer (some ⟨a, 0, none⟩)] PtTS)) W2 := (Below.refl _ _).grown g2 (Nat.le_refl _) (fun k e => by cases e)
  have q1 : Boxed W2 w.heap.size PtTS (.pointer (some ⟨a, 0, none⟩)) := (b2.block _ (by simp)).trans (Boxed.new w PtTS (.pointer (some ⟨a, 0, none⟩)))
  have hs2 : w.heap.size + 1 ≤ W2.heap.size := by have := b2.size; simpa using this
  have B2 := Lib.hid (HB1.out.trans (b2.mono HB1.out.size))
  have HX2 := Lib.hid (H1.out.below b2)
  have e2 : (w.alloc (.cells #[.pointer (some ⟨a, 0, none⟩)] PtTS)).heap.size = w.heap.size + 1 := by simp
  have O2 := Lib.hid o2
  have HS2 := Lib.hid hs2
  clear b2 g2 hi0 hz0 hz1 hz2 o2 hs2 H1
  rw [e2] at hmk O2
  clear e2
  have b3 : Below W2.heap.size W2 (W2.alloc (.cells #[.slice (some ⟨w.heap.size + 1, 0, none⟩) 0 x.ts.length] SlTS)) := (Below.refl _ _).alloc (Nat.le_refl _) _
  have q1' := q1.alloc (.cells #[.slice (some ⟨w.heap.size + 1, 0, none⟩) 0 x.ts.length] SlTS)
  have x1 := q1'.cell
  have B3 := Lib.hid (B2.out.trans (b3.mono B2.out.size))
  obtain ⟨p, _, _, _, _, c4, _, _, _, G, ⟨T, hT, hLn⟩, hL⟩ := HX.out.cells
  have c4 := bcellAt B3.out c4
  have HT := Lib.hid hT
  have HLN := Lib.hid hLn
  have HLG := Lib.hid hL
  have Q1 := Lib.hid q1'
  have Q3 := Lib.hid (Boxed.new W2 SlTS (.slice (some ⟨w.heap.size + 1, 0, none⟩) 0 x.ts.length))
  have O3 := Lib.hid (own_hold O2.out (Hold.below b3))
  clear b3 q1 q1' hT hLn hL
  go_wp2_with fail
  refine (mallL p _).mono ?_
  rintro e w3 ⟨rfl, rfl⟩
  have b4 : Below (W2.alloc (.cells #[.slice (some ⟨w.heap.size + 1, 0, none⟩) 0 x.ts.length] SlTS)).heap.size (W2.alloc (.cells #[.slice (some ⟨w.heap.size + 1, 0, none⟩) 0 x.ts.length] SlTS)) ((W2.alloc (.cells #[.slice (some ⟨w.heap.size + 1, 0, none⟩) 0 x.ts.length] SlTS)).alloc (.cells #[.pointer p] MapL)) := (Below.refl _ _).alloc (Nat.le_refl _) _
  have B4 := Lib.hid (B3.out.trans (b4.mono B3.out.size))
  have Q4 := Lib.hid (Boxed.new (W2.alloc (.cells #[.slice (some ⟨w.heap.size + 1, 0, none⟩) 0 x.ts.length] SlTS)) MapL (.pointer p))
  have GT := Lib.hid (show Got w a W2.heap.size [] _ from ⟨_, Q3.out.alloc (.cells #[.pointer p] MapL), own_hold O3.out (Hold.below b4), B4.out, Q1.out.alloc (.cells #[.pointer p] MapL)⟩)
  clear b4 hmk x1 c4
  rw [World.size_alloc] at Q4
  go_wp2_with fail
  generalize ((W2.alloc (.cells #[.slice (some ⟨w.heap.size + 1, 0, none⟩) 0 x.ts.length] SlTS)).alloc (.cells #[.pointer p] MapL)) = W4 at *
  generalize W2.heap.size = bl at *
  clear B3 Q3 O3 Q1 HX2 O2 B2
  have HST := Lib.hid (stopsmL 2 (bl + 1) p T w W4 B4.out Q4.out.cell HT.out)
  refine (wpIn_wide (n := 3)).1 ?_
  refine wpIn_rangeFunc_ownH rfl (by decide) (gf := 89) (lb := #[.pointer (some ⟨bl + 1, 0, none⟩)]) rfl trivial (enters_of Try.func89 (by kernel_rfl) rfl)
    HST.out belowK_t (belowK_b B4.out.size) (Below.refl _ _) (fun _ => rfl)
    (OutI w a bl x G (E := T.toL)) (fun _ _ _ => False) (outI_own B4.out.size) (fun _ _ _ _ _ h => h.elim) GT.out (fun y a' W => ∃ b5, a' = { tmps := #[.pointer (some ⟨a, 0, none⟩), .pointer (some ⟨w.heap.size, 0, none⟩), .slice none 0 0, .pointer (some ⟨bl, 0, none⟩), undef, .pointer (some ⟨b5, 0, none⟩), undef, undef, .pointer (some ⟨a, 0, none⟩), .bool false, .pointer (some ⟨a, 0, none⟩), .int .i64 (x.ts.length : Int), .slice (some ⟨w.heap.size + 1, 0, none⟩) 0 x.ts.length, .pointer (some ⟨a, 0, none⟩), .pointer (some ⟨a, 0, none⟩), .pointer (some ⟨a, 4, none⟩), .agg #[.pointer p], .func (.func 89) #[] #[.pointer (some ⟨bl + 1, 0, none⟩)], .int .i64 y.1.1, .agg #[.pointer y.1.2], undef, undef, undef, undef, undef, undef, undef, undef, undef, undef, undef, undef, undef, undef, undef], defers := [] } ∧ Boxed W b5 MapN (.pointer y.1.2)) ?ownx ?assignx ?bodyx ?donex ?stopx
  case ownx =>
    rintro y a' s X Y row ⟨b5, e, h⟩ hg hr
    exact ⟨b5, e, box_kept h hg hr⟩
  case stopx =>
    rintro D c pre W hD hS h
    exact h.elim
  case assignx =>
    rintro lb pre ⟨⟨yk, yp⟩, hmem⟩ W K hi hK
    have HK := Lib.hid hK
    have HI := Lib.hid hi
    have hw : w.heap.size ≤ W.heap.size := by obtain ⟨_, _, _, h3, _⟩ := hi; exact h3.size
    have HW := Lib.hid hw
    clear hK hi hw
    gi_wp2
    exact HK.out _ _ ((KeepsOthers.alloc W _).from _) ((Below.refl _ _).alloc HW.out _) ((outI_own B4.out.size).alloc _ HI.out) ⟨W.heap.size, rfl, Boxed.new _ _ _⟩
  case bodyx =>
    rintro lb pre ⟨⟨yk, yp⟩, hmem⟩ a' X hlb hrec hgot ⟨b5, rfl, h5⟩ hlt
    have x5 := h5.cell
    have HMEM := Lib.hid hmem
    have HGOT := Lib.hid hgot
    have HREC := Lib.hid hrec
    have H5 := Lib.hid h5
    have HLT := Lib.hid hlt
    clear hgot hrec h5 hlt
    gi_wp2
    refine ⟨trivial, (CallsIn.inRound lb (callsIn_wide.2 (mallI yp X))).mono ?_⟩
    rintro e X2 ⟨rfl, rfl⟩
    obtain ⟨g, hg, hk, hl⟩ := HLN.out.mem HMEM.out
    have hlo := lineOf_mem HLG.out.so hg
    rw [hk] at hlo
    rw [← hlo] at hl
    obtain ⟨s, hs, hsl⟩ := hl
    obtain ⟨v0, g1, g2, g3, g4⟩ := HGOT.out
    have bX : Below X.heap.size X (X.alloc (.cells #[.pointer yp] MapN)) := (Below.refl _ _).alloc (Nat.le_refl _) _
    have BX := Lib.hid (g3.trans (bX.mono g3.size))
    have GS := Lib.hid g3.size
    have HSL := Lib.hid hsl
    have HST2 := Lib.hid ((stopsmI 0 X.heap.size yp s w _ BX.out (Boxed.new X MapN (.pointer yp)).cell hs).inRound lb)
    obtain ⟨rr, hrr⟩ := HREC.out
    have HRR := Lib.hid ((bX.block lb (Array.getElem?_eq_some_iff.1 hrr).1).trans hrr)
    have IN0 := Lib.hid (show InI w X a bl W4.heap.size x (outV x G pre) (l := s.toL) [] (X.alloc (.cells #[.pointer yp] MapN)) from
      ⟨(KeepsOthers.alloc X _).from _, (Below.refl _ _).alloc g3.size _, by rw [List.map_nil, List.append_nil]; exact (outI_own (E := T.toL) (n := W4.heap.size) B4.out.size).alloc _ HGOT.out⟩)
    clear hrr hs hsl hg hk hlo g1 g2 g3 g4 bX x5
    gi_wp2
    have hXs : X.heap.size ≤ (X.alloc (.cells #[.pointer yp] MapN)).heap.size := by simp
    have HXS := Lib.hid hXs
    clear hXs
    refine range_N rfl HRR.out (by decide) (gf := 91) (lb := #[.pointer (some ⟨X.heap.size, 0, none⟩)]) rfl trivial (enters_of Try.func91 (by kernel_rfl) rfl)
      HST2.out BX.out.size (fun _ => rfl) (InI w X a bl W4.heap.size x (outV x G pre)) (fun _ _ _ => False) (inI_own HXS.out GS.out) (fun _ _ _ _ _ h => h.elim) IN0.out ?a1n ?assignn ?bodyn ?donen ?stopn
    case stopn =>
      rintro c p2 Y hS h
      exact h.elim
    case assignn =>
      intro lb x W' K hK
      gi_wp2
      exact hK
    case donen =>
      rintro ys Y hS ⟨h1, h2, h3⟩
      have H1 := Lib.hid h1
      have H2 := Lib.hid h2
      have hv : (ys.map fun q => valAt x q.1.2) = lineV x G yk := by
        have h := congrArg (List.map fun q : Int × Int => valAt x q.2) (hS.trans HSL.out)
        rw [List.map_map] at h
        exact h
      rw [hv] at h3
      have H3 := Lib.hid h3
      clear h1 h2 h3 hv
      gi_wp2
      exact ⟨H1.out, H2.out, by show Got w a bl (outV x G (pre ++ [_])) Y; rw [outV_snoc]; exact H3.out⟩
    case bodyn =>
      rintro lb2 p2 ⟨⟨zp, zi⟩, hm2⟩ Y hlb2 ⟨hkf, hbY, hgot2⟩ hlt2
      have HKF := Lib.hid hkf
      have HBY := Lib.hid hbY
      have HG2 := Lib.hid hgot2
      have HM2 := Lib.hid hm2
      have HL2 := Lib.hid hlt2
      clear hkf hbY hgot2 hlt2
      gi_wp2
      obtain ⟨t, ht, hk, hpl, hid⟩ := HLG.out.line_mem (k := yk) (q := (zp, zi)) (by rw [← HSL.out]; exact HM2.out)
      have hid : t.id = zi := hid
      obtain ⟨u, hu⟩ := HX.out.vals t ht
      have hper := HX.out.good.per t ht
      have hidM := HX.out.good.idM
      have hi : i64R zi := by rw [← hid]; unfold i64R; omega
      have hfn : fnd x.ts zi = some t := by rw [← hid]; exact fnd_mem HX.out.good.nd ht
      have hva : valAt x zi = .string u := by unfold valAt; rw [hfn]; exact hu
      have htm : tmAt ZS x.ts zi = .agg #[.string u, .int .i64 t.tk, .int .i64 t.pl] := by
        unfold tmAt
        rw [hfn]
        simp only [Option.map_some, Option.getD_some, tmV, hu]
      have hF : ∀ (W : World) (v : Value), Boxed W bl SlTS v → Boxed W w.heap.size PtTS (.pointer (some ⟨a, 0, none⟩)) → Below w.heap.size w W →
          W.cell? ⟨bl, 0, none⟩ = some v ∧ W.cell? ⟨w.heap.size, 0, none⟩ = some (.pointer (some ⟨a, 0, none⟩)) ∧ W.cell? ⟨a, 3, none⟩ = some (.map (some mb)) ∧ (Instr.lookup MpTS (.map (some mb)) (.int .i64 zi) false).run Try.prog W = .ok (.agg #[.string u, .int .i64 t.tk, .int .i64 t.pl]) W := by
        intro W v h1 h2 h3
        obtain ⟨_, _, _, _, c3, _⟩ := (HX.out.below h3).cells
        exact ⟨h1.cell, h2.cell, c3, by rw [← htm]; exact ((HX.out.below h3).map.look underS (zeroS _) hi).2⟩
      have HF := Lib.hid hF
      have HVA := Lib.hid hva
      clear hF hva htm hfn hi hper hidM hu hid hk hpl ht
      obtain ⟨v, g1, g2, g3, g4⟩ := HG2.out
      have G1 := Lib.hid (show Boxed Y.drew bl SlTS v from g1)
      have G2 := Lib.hid (show Y.drew.ownsRow w.heap.size ElTS 1 v _ _ from own_hold g2 (Hold.below (bd Y)))
      have G3 := Lib.hid (g3.trans ((bd Y).mono g3.size))
      have G4 := Lib.hid (show Boxed Y.drew w.heap.size PtTS _ from g4)
      have KY := Lib.hid (KeepsOthers.drew Y)
      have hLEN : (outV x G pre ++ List.map (fun q => valAt x q.1.2) p2).length ≤ 50000000 := by
        have h1 := outV_len HLG.out HN.out pre
        have h2 := HLT.out
        have h3 := HLN.out.len
        have h4 := HLG.out.glen
        have h5 := HL2.out
        have h6 := HLG.out.llen yk
        have h5b : s.toL.length = (lineOf G yk).length := congrArg List.length HSL.out
        have h7 := HN.out
        rw [List.length_append, List.length_map]
        have h8 : pre.length ≤ 5000 := by omega
        have h9 : pre.length * 5000 ≤ 5000 * 5000 := Nat.mul_le_mul_right _ h8
        omega
      have HLEN := Lib.hid hLEN
      clear g1 g2 g3 g4 hLEN
      have hfld : ∀ (W : World), (Instr.field TmTS (.agg #[.string u, .int .i64 t.tk, .int .i64 t.pl]) 0).run Try.prog W = .ok (.string u) W := fun W => by kernel_rfl
      refine roundT_any [0, 1, 2, 3, 4, 5, 6, 7, 8, 9, 10] 10 10 (F := fun b W => b = false → W.cell? ⟨bl, 0, none⟩ = some v ∧ W.cell? ⟨w.heap.size, 0, none⟩ = some (.pointer (some ⟨a, 0, none⟩)) ∧ W.cell? ⟨a, 3, none⟩ = some (.map (some mb)) ∧ (Instr.lookup MpTS (.map (some mb)) (.int .i64 zi) false).run Try.prog W = .ok (.agg #[.string u, .int .i64 t.tk, .int .i64 t.pl]) W) (by kernel_rfl) (by kernel_rfl) ?_
      simp only [inOrder, List.filterMap, List.getElem?_cons_succ, List.getElem?_cons_zero]
      have hS : (false = false → Y.drew.cell? ⟨bl, 0, none⟩ = some v ∧ Y.drew.cell? ⟨w.heap.size, 0, none⟩ = some (.pointer (some ⟨a, 0, none⟩)) ∧ Y.drew.cell? ⟨a, 3, none⟩ = some (.map (some mb)) ∧ (Instr.lookup MpTS (.map (some mb)) (.int .i64 zi) false).run Try.prog Y.drew = .ok (.agg #[.string u, .int .i64 t.tk, .int .i64 t.pl]) Y.drew) := fun _ => HF.out _ _ G1.out G4.out G3.out
      refine lext_take (i := 0) (v := ?_) rfl (by decide) (by decide) (by kernel_rfl) (by kernel_rfl) (by kernel_rfl) (by kernel_rfl) (by kernel_rfl) (by kernel_rfl) (by rfl) hS ?_ ?_
      rotate_left
      · ((intro W hW; obtain ⟨k1, k2, k3, k4⟩ := hW rfl; go_simp) <;> with_reducible rfl)
      (try simp only [Act.put, List.setIfInBounds_toArray, List.set_cons_zero, List.set_cons_succ])
      refine lext_take (i := 1) (v := ?_) rfl (by decide) (by decide) (by kernel_rfl) (by kernel_rfl) (by kernel_rfl) (by kernel_rfl) (by kernel_rfl) (by kernel_rfl) (by rfl) hS ?_ ?_
      rotate_left
      · ((intro W hW; obtain ⟨k1, k2, k3, k4⟩ := hW rfl; go_simp) <;> with_reducible rfl)
      (try simp only [Act.put, List.setIfInBounds_toArray, List.set_cons_zero, List.set_cons_succ])
      refine lext_take (i := 2) (v := ?_) rfl (by decide) (by decide) (by kernel_rfl) (by kernel_rfl) (by kernel_rfl) (by kernel_rfl) (by kernel_rfl) (by kernel_rfl) (by rfl) hS ?_ ?_
      rotate_left
      · ((intro W hW; obtain ⟨k1, k2, k3, k4⟩ := hW rfl; go_simp) <;> with_reducible rfl)
      (try simp only [Act.put, List.setIfInBounds_toArray, List.set_cons_zero, List.set_cons_succ])
      refine lext_take (i := 3) (v := ?_) rfl (by decide) (by decide) (by kernel_rfl) (by kernel_rfl) (by kernel_rfl) (by kernel_rfl) (by kernel_rfl) (by kernel_rfl) (by rfl) hS ?_ ?_
      rotate_left
      · ((intro W hW; obtain ⟨k1, k2, k3, k4⟩ := hW rfl; go_simp) <;> with_reducible rfl)
      (try simp only [Act.put, List.setIfInBounds_toArray, List.set_cons_zero, List.set_cons_succ])
      refine lext_take (i := 4) (v := ?_) rfl (by decide) (by decide) (by kernel_rfl) (by kernel_rfl) (by kernel_rfl) (by kernel_rfl) (by kernel_rfl) (by kernel_rfl) (by rfl) hS ?_ ?_
      rotate_left
      · ((intro W hW; obtain ⟨k1, k2, k3, k4⟩ := hW rfl; go_simp) <;> with_reducible rfl)
      (try simp only [Act.put, List.setIfInBounds_toArray, List.set_cons_zero, List.set_cons_succ])
      refine lext_take (i := 5) (v := ?_) rfl (by decide) (by decide) (by kernel_rfl) (by kernel_rfl) (by kernel_rfl) (by kernel_rfl) (by kernel_rfl) (by kernel_rfl) (by rfl) hS ?_ ?_
      rotate_left
      · ((intro W hW; obtain ⟨k1, k2, k3, k4⟩ := hW rfl; go_simp) <;> with_reducible rfl)
      (try simp only [Act.put, List.setIfInBounds_toArray, List.set_cons_zero, List.set_cons_succ])
      refine lext_take (i := 6) (v := ?_) rfl (by decide) (by decide) (by kernel_rfl) (by kernel_rfl) (by kernel_rfl) (by kernel_rfl) (by kernel_rfl) (by kernel_rfl) (by rfl) hS ?_ ?_
      rotate_left
      · ((intro W hW; obtain ⟨k1, k2, k3, k4⟩ := hW rfl; go_simp) <;> with_reducible rfl)
      (try simp only [Act.put, List.setIfInBounds_toArray, List.set_cons_zero, List.set_cons_succ])
      refine lext_take (i := 7) (v := ?_) rfl (by decide) (by decide) (by kernel_rfl) (by kernel_rfl) (by kernel_rfl) (by kernel_rfl) (by kernel_rfl) (by kernel_rfl) (by rfl) hS ?_ ?_
      rotate_left
      · ((intro W hW; obtain ⟨k1, k2, k3, k4⟩ := hW rfl; go_simp) <;> with_reducible rfl)
      (try simp only [Act.put, List.setIfInBounds_toArray, List.set_cons_zero, List.set_cons_succ])
      refine lext_do (i := 8) (b := false) rfl (by kernel_rfl) (by kernel_rfl) (by rfl) (fun K hK => ?_)
      clear hS hfld
      go_simp
      have ba : Below Y.drew.heap.size Y.drew (Y.drew.alloc (.cells #[.string u] ElTS)) := (Below.refl _ _).alloc (Nat.le_refl _) _
      have A1 := Lib.hid (G1.out.alloc (.cells #[.string u] ElTS))
      have A2 := Lib.hid (own_hold G2.out (Hold.below ba))
      have A3 := Lib.hid (G3.out.trans (ba.mono G3.out.size))
      have A4 := Lib.hid (G4.out.alloc (.cells #[.string u] ElTS))
      have AK := Lib.hid (KY.out.trans (KeepsOthers.alloc Y.drew (.cells #[.string u] ElTS)))
      have q1 := (Boxed.new Y.drew ElTS (.string u)).cell
      refine hK _ _ ⟨fun _ _ => HF.out _ _ A1.out A4.out A3.out, ?_⟩
      clear hK K ba
      (try simp only [Act.put, List.setIfInBounds_toArray, List.set_cons_zero, List.set_cons_succ])
      refine lext_do (i := 9) (b := false) rfl (by kernel_rfl) (by kernel_rfl) (by rfl) (fun K hK => ?_)
      refine wp_appSb (.tmp 24) (.tmp 32) rfl w.heap.size v _ rfl A2.out _ u rfl q1 HLEN.out A3.out.size ?_
      intro v9 w9 o9 g9 at9
      obtain ⟨sa9, sc9, hv9⟩ := (row_of_own o9).shape
      simp only [List.length_append, List.length_map, List.length_cons, List.length_nil, Nat.zero_add, Nat.add_assoc] at hv9
      have N1 := Boxed.not_row A1.out (show SlTS ≠ ElTS by decide) A2.out
      have N4 := Boxed.not_row A4.out (show PtTS ≠ ElTS by decide) A2.out
      have C1 := Lib.hid (A1.out.kept g9 N1)
      have C4 := Lib.hid (A4.out.kept g9 N4)
      have C3 := Lib.hid (A3.out.grown g9 A3.out.size (fun k e => (own_from A2.out e).1))
      have CB := Lib.hid ((((Below.refl w.heap.size Y).drew).alloc G3.out.size (.cells #[.string u] ElTS)).grown g9 A3.out.size (fun k e => (own_from A2.out e).1))
      have CK := Lib.hid (AK.out.trans (KeepsOthers.of_grownBy g9 (fun j o e ho => by
        obtain ⟨_, cur, hc⟩ := own_type A2.out e
        rw [hc] at ho
        cases ho
        rfl)))
      have C2 := Lib.hid o9
      refine hK _ _ ⟨fun _ _ => HF.out _ _ C1.out C4.out C3.out, ?_⟩
      clear hK K o9 g9 at9 q1 N1 N4
      (try simp only [Act.put, List.setIfInBounds_toArray, List.set_cons_zero, List.set_cons_succ])
      have z1 := C1.out.cell
      have z2 := C1.out.frozen
      refine lext_do (i := 10) (b := true) rfl (by kernel_rfl) (by kernel_rfl) (by rfl) (fun K hK => ?_)
      subst hv9
      go_simp
      refine hK _ _ ⟨fun e => absurd rfl e, ?_⟩
      clear hK K z1 z2
      refine lext_done (by kernel_rfl) ⟨rfl, ?_⟩
      have eL : outV x G pre ++ (p2 ++ [(⟨(zp, zi), hm2⟩ : MemI s.toL)]).map (fun q => valAt x q.1.2) = (outV x G pre ++ p2.map (fun q => valAt x q.1.2)) ++ [.string u] := by
        rw [List.map_append, List.map_singleton, ← List.append_assoc]
        show _ ++ [valAt x zi] = _
        rw [HVA.out]
      have kk := (CK.out.trans (KeepsOthers.setCell w9 ⟨bl, 0, none⟩ (.slice sa9 ((outV x G pre).length + (p2.length + 1)) sc9)))
      have hbl := HS2.out
      have hb9 := C3.out.setCell (p := ⟨bl, 0, none⟩) (show w.heap.size ≤ bl by omega) (.slice sa9 ((outV x G pre).length + (p2.length + 1)) sc9)
      have hy9 := CB.out.setCell (p := ⟨bl, 0, none⟩) (show w.heap.size ≤ bl by omega) (.slice sa9 ((outV x G pre).length + (p2.length + 1)) sc9)
      exact ⟨kk.from _, hy9, HKF.out.trans (kk.from _), HBY.out.trans hy9, _, C1.out.set _, by rw [eL]; exact own_hold C2.out (Hold.setCell C1.out (by decide)), hb9, C4.out.other (by omega) _⟩
  case donex =>
    rintro D ys W hD hS hgot hK
    obtain ⟨v, h1, h2, h3, h4⟩ := hgot
    have x3 := h1.cell
    have HK := Lib.hid hK
    have H2 := Lib.hid h2
    have H3 := Lib.hid h3
    clear hK h1 h2 h3 h4
    go_wp2_with fail
    refine ⟨by simp, .inl ⟨_, _, rfl, run_takeDeferred HK.out, ?_⟩⟩
    refine ⟨v, ?_, v, rfl, ?_, ?_⟩
    · simp [results, Try.f53, go_sem]
    · have e := outV_all HX.out.good.nd HLG.out HLN.out hS
      rw [e] at H2
      have h := own_kept H2.out (grownBy_putObj' W D (.deferred none)) (fun r e => by cases e; exact ⟨_, HK.out, rfl⟩)
      simpa [valsL] using h
    · exact H3.out.grown (grownBy_putObj' W D (.deferred none)) H3.out.size (fun k e => by cases e; exact Nat.le_trans B4.out.size hD)
end Go.Proofs.Ytbgnedeeeaapfaa
