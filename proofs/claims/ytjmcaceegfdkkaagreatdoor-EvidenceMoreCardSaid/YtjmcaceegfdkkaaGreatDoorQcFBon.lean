/-
  The order of trees, plain; the tree of a term of a pool.
  The order of facts, plain; sorted lists of facts, each once.
  append of facts; isBond, Bonds.
-/
import Derived.Shelf.SlSortCmp.Insertion
import Derived.Sort.Statements
import Derived.Laws.AppendOwnNone
import Derived.Test.YtjmcaceegfdkkaaGreatDoorQcTKit
import Derived.Test.YtjmcaceegfdkkaaGreatDoorQcTPTree
import Derived.Test.YtjmcaceegfdkkaaGreatDoorQcTFor
import Derived.Test.YtjmcaceegfdkkaaGreatDoorQcTLent
namespace Go.Proofs.YtjmcaceegfdkkaaGreatDoor
set_option linter.unusedVariables false
structure Cmp {α : Type} (c : α → α → Int) : Prop where
 anti : ∀ a b, c b a = - c a b
 eq : ∀ a b, c a b = 0 → a = b
 tr : ∀ a b d, c a b ≤ 0 → c b d ≤ 0 → c a d ≤ 0
 rng : ∀ a b, -1 ≤ c a b ∧ c a b ≤ 1
theorem Cmp.refl {α : Type} {c : α → α → Int} (h : Cmp c) (a : α) : c a a = 0 := by have := h.anti a a; omega
theorem cmpOf_cmp {K : Type} [o : KOrd K] : Cmp (cmpOf (K := K)) where
 anti a b := by
  unfold cmpOf
  cases h1 : o.lt a b with
  | true => have h2 := KOrd.asym h1; simp [h2]
  | false => cases h2 : o.lt b a <;> simp
 eq a b h := by
  unfold cmpOf at h
  cases h1 : o.lt a b with
  | true => rw [h1] at h; simp at h
  | false =>
   rw [h1] at h
   cases h2 : o.lt b a with
   | true => rw [h2] at h; simp at h
   | false => exact o.tri h1 h2
 tr a b d h1 h2 := by
  have key : ∀ x y : K, cmpOf x y ≤ 0 ↔ o.lt y x = false := fun x y => by
   unfold cmpOf
   cases h1 : o.lt x y with
   | true => have h2 := KOrd.asym h1; simp [h2]
   | false => cases h2 : o.lt y x <;> simp
  rw [key] at h1 h2 ⊢
  cases h3 : o.lt d a with
  | false => rfl
  | true =>
   cases h4 : o.lt a b with
   | true => have := o.tr h3 h4; rw [h2] at this; cases this
   | false =>
    have e := o.tri h4 h1
    subst e
    rw [h3] at h2; cases h2
 rng a b := by unfold cmpOf; split <;> (try split) <;> omega
def lexC {α β : Type} (c : α → α → Int) (d : β → β → Int) (x y : α × β) : Int := if c x.1 y.1 = 0 then d x.2 y.2 else c x.1 y.1
theorem Cmp.lex {α β : Type} {c : α → α → Int} {d : β → β → Int} (hc : Cmp c) (hd : Cmp d) : Cmp (lexC c d) where
 anti x y := by
  unfold lexC
  have h1 := hc.anti x.1 y.1
  have h2 := hd.anti x.2 y.2
  split <;> split <;> omega
 eq x y h := by
  unfold lexC at h
  split at h
  ·rename_i h1
   exact Prod.ext (hc.eq _ _ h1) (hd.eq _ _ h)
  ·rename_i h1; exact absurd h h1
 tr x y z h1 h2 := by
  unfold lexC at *
  have a1 : c x.1 y.1 ≤ 0 := by split at h1 <;> omega
  have a2 : c y.1 z.1 ≤ 0 := by split at h2 <;> omega
  have a3 := hc.tr _ _ _ a1 a2
  split
  ·rename_i h0
   have e := hc.eq _ _ h0
   rw [← e] at a2 h2
   have a4 := hc.anti x.1 y.1
   have a5 : c x.1 y.1 = 0 := by omega
   have a6 : c y.1 x.1 = 0 := by omega
   rw [if_pos a5] at h1
   rw [if_pos a6] at h2
   exact hd.tr _ _ _ h1 h2
  ·omega
 rng x y := by
  unfold lexC
  have h1 := hc.rng x.1 y.1
  have h2 := hd.rng x.2 y.2
  split <;> omega
end Go.Proofs.YtjmcaceegfdkkaaGreatDoor
namespace Go.Proofs.YtjmcaceegfdkkaaGreatDoor
open Go.Sort
set_option linter.unusedVariables false
def keyF (x : Fc) : Int × Int × Int × ByteArray := (x.c, x.kind, x.who, x.text)
def cmpQ : (Int × Int × Int × ByteArray) → (Int × Int × Int × ByteArray) → Int := lexC cmpOf (lexC cmpOf (lexC cmpOf cmpOf))
theorem cmpQ_cmp : Cmp cmpQ := cmpOf_cmp.lex (cmpOf_cmp.lex (cmpOf_cmp.lex cmpOf_cmp))
theorem cmpF_key (x y : Fc) : cmpF x y = cmpQ (keyF x) (keyF y) := by
 unfold cmpF cmpQ keyF
 simp only [orI, lexC]
 split
 ·split
  ·split
   ·split <;> omega
   ·rfl
  ·rfl
 ·rfl
theorem cmpF_cmp : Cmp cmpF where
 anti a b := by rw [cmpF_key, cmpF_key]; exact cmpQ_cmp.anti _ _
 eq a b h := by
  rw [cmpF_key] at h
  have := cmpQ_cmp.eq _ _ h
  simp only [keyF, Prod.mk.injEq] at this
  exact Fc.eq_of this.2.1 this.2.2.1 this.1 this.2.2.2
 tr a b d h1 h2 := by rw [cmpF_key] at *; exact cmpQ_cmp.tr _ _ _ h1 h2
 rng a b := by rw [cmpF_key]; exact cmpQ_cmp.rng _ _
theorem Cmp.swo {α : Type} {c : α → α → Int} (h : Cmp c) : SWO (ltOf c) where
 irrefl x := by unfold ltOf; rw [h.refl]; rfl
 trans x y z h1 h2 := by
  unfold ltOf at *
  simp only [decide_eq_true_eq] at *
  have a1 := h.tr x y z (by omega) (by omega)
  by_cases h0 : c x z = 0
  ·have := h.eq _ _ h0
   subst this
   have := h.anti x y
   omega
  ·omega
 ntrans x y z h1 h2 := by
  unfold ltOf at *
  simp only [decide_eq_false_iff_not] at *
  have a1 := h.anti x y
  have a2 := h.anti y z
  have a3 := h.tr z y x (by omega) (by omega)
  have a4 := h.anti x z
  omega
theorem Cmp.one {α : Type} {c : α → α → Int} (h : Cmp c) (x y : α) (h1 : ltOf c x y = false) (h2 : ltOf c y x = false) : x = y := by
 unfold ltOf at *
 simp only [decide_eq_false_iff_not] at *
 have a1 := h.anti x y
 exact h.eq x y (by omega)
def leF (x y : Fc) : Bool := !(ltOf cmpF) y x
theorem leF_iff {x y : Fc} : leF x y = true ↔ cmpF x y ≤ 0 := by
 unfold leF ltOf
 have := cmpF_cmp.anti x y
 simp only [Bool.not_eq_true', decide_eq_false_iff_not]
 omega
def srtF (l : List Fc) : List Fc := l.mergeSort leF
theorem srtF_mem {l : List Fc} {x : Fc} : x ∈ srtF l ↔ x ∈ l := List.mem_mergeSort
theorem srtF_len (l : List Fc) : (srtF l).length = l.length := List.length_mergeSort _
theorem srtF_pair (l : List Fc) : (srtF l).Pairwise fun x y => cmpF x y ≤ 0 := by
 have h := List.pairwise_mergeSort (le := leF) (fun a b c h1 h2 => leF_iff.2 (cmpF_cmp.tr _ _ _ (leF_iff.1 h1) (leF_iff.1 h2))) (fun a b => by
  have := cmpF_cmp.anti a b
  by_cases h : cmpF a b ≤ 0
  ·rw [leF_iff.2 h]; rfl
  ·rw [leF_iff.2 (show cmpF b a ≤ 0 by omega)]; simp) l
 exact h.imp fun h => leF_iff.1 h
def cptF : List Fc → List Fc
 | [] => []
 | [x] => [x]
 | x :: y :: r => if x = y then cptF (y :: r) else x :: cptF (y :: r)
theorem cptF_mem {x : Fc} : ∀ {l : List Fc}, x ∈ cptF l ↔ x ∈ l
 | [] => Iff.rfl
 | [y] => Iff.rfl
 | y :: z :: r => by
  have ih := cptF_mem (x := x) (l := z :: r)
  unfold cptF
  split
  ·rename_i e
   subst e
   rw [ih]
   simp
  ·rw [List.mem_cons, ih]; simp
theorem cptF_pair : ∀ {l : List Fc}, l.Pairwise (fun x y => cmpF x y ≤ 0) → (cptF l).Pairwise fun x y => cmpF x y < 0
 | [], _ => .nil
 | [x], _ => by simp [cptF]
 | x :: y :: r, h => by
  have h1 := List.pairwise_cons.1 h
  have ih := cptF_pair h1.2
  unfold cptF
  split
  ·exact ih
  ·rename_i hne
   refine List.pairwise_cons.2 ⟨fun z hz => ?_, ih⟩
   have hz' := cptF_mem.1 hz
   have hle := h1.1 z hz'
   by_cases h0 : cmpF x z = 0
   ·have e := cmpF_cmp.eq _ _ h0
    subst e
    have hyx : cmpF y x ≤ 0 := by
     rcases List.mem_cons.1 hz' with e | hm
     ·exact absurd e hne
     ·exact (List.pairwise_cons.1 h1.2).1 x hm
    have hxy := h1.1 y (by simp)
    have := cmpF_cmp.anti x y
    exact absurd (cmpF_cmp.eq x y (by omega)) hne
   ·omega
def allF (l : List Fc) : List Fc := cptF (srtF l)
theorem allF_mem {l : List Fc} {x : Fc} : x ∈ allF l ↔ x ∈ l := cptF_mem.trans srtF_mem
theorem allF_pair (l : List Fc) : (allF l).Pairwise fun x y => cmpF x y < 0 := cptF_pair (srtF_pair l)
theorem rise_one : ∀ {a b : List Fc}, a.Pairwise (fun x y => cmpF x y < 0) → b.Pairwise (fun x y => cmpF x y < 0) → (∀ x, x ∈ a ↔ x ∈ b) → a = b
 | [], [], _, _, _ => rfl
 | [], y :: b, _, _, h => absurd ((h y).2 (by simp)) (by simp)
 | x :: a, [], _, _, h => absurd ((h x).1 (by simp)) (by simp)
 | x :: a, y :: b, ha, hb, h => by
  obtain ⟨ha1, ha2⟩ := List.pairwise_cons.1 ha
  obtain ⟨hb1, hb2⟩ := List.pairwise_cons.1 hb
  have hxy : x = y := by
   rcases List.mem_cons.1 ((h x).1 (by simp)) with e | hm
   ·exact e
   rcases List.mem_cons.1 ((h y).2 (by simp)) with e | hm2
   ·exact e.symm
   have p1 := hb1 x hm
   have p2 := ha1 y hm2
   have := cmpF_cmp.anti x y
   omega
  subst hxy
  have hn : ∀ z, cmpF x z < 0 → z ≠ x := fun z hz e => by rw [e, cmpF_cmp.refl] at hz; omega
  rw [rise_one ha2 hb2 fun z => ?_]
  constructor
  ·intro hz
   exact ((List.mem_cons.1 ((h z).1 (List.mem_cons_of_mem _ hz))).resolve_left (hn z (ha1 z hz)))
  ·intro hz
   exact ((List.mem_cons.1 ((h z).2 (List.mem_cons_of_mem _ hz))).resolve_left (hn z (hb1 z hz)))
end Go.Proofs.YtjmcaceegfdkkaaGreatDoor
namespace Go.Proofs.YtjmcaceegfdkkaaGreatDoor
open Go.RowKit Go.Maps
set_option linter.unusedVariables false
theorem rowFc : (Tryz.prog.info? FacT).map (fun i => (i.zero, i.size, i.bytes)) = some (some (.agg #[.int .i64 0, .int .i64 0, .int .u64 0, .string ⟨#[]⟩]), 4, 40) := by kernel_rfl
theorem fcs_oneCell (l : List Fc) : ∀ u ∈ fcs l, u.oneCell' = true := by
 intro u hu
 simp only [fcs, List.mem_flatMap, fcC, List.mem_cons, List.not_mem_nil, or_false] at hu
 obtain ⟨f, _, rfl | rfl | rfl | rfl⟩ := hu <;> rfl
theorem wpList_append_fc {w : World} {ops : Array Oper} {rest : List Oper} {o : Oper} {a : Act} {Q : Exit → Act → World → Prop} (hg : o.guard = none) (s x : Operand)
  (ho : o.op = .call { callee := .builtin .append, args := #[s, x], argTypes := #[FacsT, FacsT] })
  (base : Nat) (v : Value) (xs : List Fc) (hs : a.eval s = v) (hown : w.ownsRow base FacT 4 v xs.length (fcs xs)) (vx : Value) (l : List Fc) (hx : a.eval x = vx) (hrd : Row w 4 vx l.length (fcs l))
  (hlen : xs.length + l.length ≤ 1000000) (hbase : base ≤ w.heap.size)
  (h : ∀ v' w', w'.ownsRow base FacT 4 v' (xs ++ l).length (fcs (xs ++ l)) → w.grownBy w' v.ownBlock → wpList Tryz.prog ops Q rest (a.put o.dst v') w') : wpList Tryz.prog ops Q (o :: rest) a w := by
 refine wpList_plain hg fun K hK => ?_
 obtain ⟨i0, hi, hz0, hz1, hz2⟩ := info_parts rowFc
 rcases hrd with ⟨hl, ⟨rfl, h0⟩ | ⟨b, off, cap, rfl, h1, h2, h3, h4⟩⟩
 ·obtain rfl : l = [] := List.eq_nil_of_length_eq_zero h0
  have hrun := run_append_owned_none (P := Tryz.prog) (w := w) base FacsT o.type FacT i0 4 Tryz.underlying33 hi v _ _ hown
  unfold Oper.wp
  simp [execOp, ho, resolve, invoke, builtin, hs, hx, hrun, Result.andThen]
  exact hK _ _ (h v w (by rw [List.append_nil]; exact hown) ⟨rfl, rfl, rfl, Nat.le_refl _, fun _ _ _ => rfl⟩)
 ·refine wp_append_own w s x FacsT ho base FacT i0 (.agg #[.int .i64 0, .int .i64 0, .int .u64 0, .string ⟨#[]⟩]) 4 40 Tryz.underlying33 hi hz0 hz1 hz2 rfl (by decide) v _ _ hs hown ⟨b, off, none⟩ l.length cap (fcs l) hx (fcs_length l) (fun j u hj => by have := h4 j u hj; by_cases h0 : j = 0 <;> simp_all [Addr.add]) (fcs_oneCell l) (by unfold maxLen; omega) (by omega) hbase ?_
  intro v' w' h6 h7 _
  exact hK _ _ (h v' w' (by rw [List.length_append, fcs_append]; exact h6) h7)
theorem Row.at4 {w : World} {n m : Nat} {v : Value} {cs : List Value} (h : Row w m v n cs) : ∃ a c, v = .slice a n c ∧ (0 < n → ∃ b off, a = some ⟨b, off, none⟩ ∧ ∀ j u, cs[j]? = some u → w.cell? ⟨b, off + j, none⟩ = some u) := by
 rcases h.2 with ⟨rfl, rfl⟩ | ⟨b, off, cap, rfl, _, _, _, h6⟩
 ·exact ⟨_, _, rfl, fun h => by omega⟩
 ·exact ⟨_, _, rfl, fun _ => ⟨b, off, rfl, h6⟩⟩
theorem row_fc {w : World} {b : Nat} {f : Fc} (h : w.heap[b]? = some (.cells (fcA f) FacT)) : Row w 4 (.slice (some ⟨b, 0, none⟩) 1 1) [f].length (fcs [f]) :=
 ⟨rfl, .inr ⟨b, 0, 1, rfl, (Array.getElem?_eq_some_iff.1 h).1, Nat.le_refl _, by unfold maxLen; omega, fun j u hj => by
  rw [Nat.zero_add]
  refine cellB h ?_
  rw [← hj]; simp [fcA, fcs, fcC]⟩⟩
set_option maxRecDepth 100000 in
set_option maxHeartbeats 1600000 in
theorem isBond_any (f : Fc) (w : World) : Calls Tryz.prog 69 #[.agg (fcA f)] w fun e w' => e = .returned (.bool (bndB f)) ∧ Below w.heap.size w w' := by
 obtain ⟨k, ww, c, s⟩ := f
 have hb := Lib.hid (bZ w (.cells #[.int .i64 k, .int .i64 ww, .int .u64 c, .string s] FacT))
 have hx := heap_alloc_new w (.cells #[.int .i64 k, .int .i64 ww, .int .u64 c, .string s] FacT)
 have c0 := cellB (j := 0) hx rfl
 have HB : Hid (bndB ⟨k, ww, c, s⟩ = (k == 2)) := Lib.hid rfl
 rw [HB.out]
 simp only [fcA]
 clear hx HB
 go_enter Tryz.func69, Tryz.ntmps69
 go_wp2_with fail
 go_returns
 exact ⟨rfl, hb.out⟩
theorem bonP_snoc (l : List Fc) (who : Int) (f : Fc) : bonP (l ++ [f]) who = bonP l who ++ (if (bndB f && f.who == who) = true then [f] else []) := by
 unfold bonP
 rw [List.filter_append]
 by_cases h : (bndB f && f.who == who) = true <;> simp [h]
theorem bonP_len (l : List Fc) (who : Int) : (bonP l who).length ≤ l.length := List.length_filter_le _ _
set_option maxRecDepth 100000 in
set_option maxHeartbeats 6400000 in
theorem bonds_any {w : World} {v : Value} {l : List Fc} (h : Row w 4 v l.length (fcs l)) (hl : l.length ≤ 100000) (who : Int) : Calls Tryz.prog 20 #[v, .int .i64 who] w (FcPost w (bonP l who)) := by
 obtain ⟨sa, sc, rfl, hsx⟩ := h.at4
 have HSX := Lib.hid hsx
 have HLN := Lib.hid hl
 clear h hsx hl
 go_enter Tryz.func20, Tryz.ntmps20
 go_wp2_with fail
 go_loopw [5, 10] (fun v5 v10 wr => ∃ (i : Nat), v10 = .int .i64 (i : Int) ∧ i ≤ l.length ∧ wr.ownsRow w.heap.size FacT 4 v5 (bonP (l.take i) who).length (fcs (bonP (l.take i) who)) ∧ Below w.heap.size w wr) (fun _ v _ => l.length - (intOf v).toNat)
 case atStart => exact ⟨0, rfl, Nat.zero_le _, by rw [List.take_zero]; exact World.ownsRow_nil _ _ _ 4, Below.refl _ _⟩
 case round =>
  obtain ⟨i, rfl, hi, hown, hb⟩ := hrel
  have HO := Lib.hid hown
  have HB := Lib.hid hb
  obtain ⟨la, lc, rfl⟩ := (row_of_own hown).shape
  clear hown
  have hl4 : l.length ≤ 100000 := HLN.out
  by_cases hlt : i < l.length
  ·obtain ⟨b, o, rfl, ql⟩ := HSX.out (by omega)
   obtain ⟨g0, g1, g2, g3⟩ := fcs_at l i hlt
   have x0 := bcellAt hb (ql _ _ g0)
   have x1 := bcellAt hb (ql _ _ g1); rw [← Nat.add_assoc] at x1
   have x2 := bcellAt hb (ql _ _ g2); rw [← Nat.add_assoc] at x2
   have x3 := bcellAt hb (ql _ _ g3); rw [← Nat.add_assoc] at x3
   have hi0 : (0 : Int) ≤ (i : Int) := by omega
   have hi1 : (i : Int) < (l.length : Int) := by omega
   have HTK : Hid (l.take (i + 1) = l.take i ++ [l[i]]) := Lib.hid (by rw [List.take_add_one, List.getElem?_eq_getElem hlt, Option.toList_some])
   have HPN : Hid ((bonP (l.take i) who).length ≤ 100000) := Lib.hid (Nat.le_trans (bonP_len _ _) (by rw [List.length_take]; have := HLN.out; omega))
   have HPS := Lib.hid (bonP_snoc (l.take i) who l[i])
   rw [← HTK.out] at HPS
   have IB := Lib.hid (fun W => isBond_any l[i] W)
   generalize l[i] = x at *
   clear ql hb HTK g0 g1 g2 g3
   generalize bonP (l.take i) who = S0 at *
   obtain ⟨k, xw, c, s⟩ := x
   simp only [fcA] at *
   have HZ := Lib.hid (bZ wr (.cells #[.int .i64 k, .int .i64 xw, .int .u64 c, .string s] FacT))
   have HOZ := Lib.hid (own_hold HO.out (Hold.below HZ.out))
   clear HO
   have hz := heap_alloc_new wr (.cells #[.int .i64 k, .int .i64 xw, .int .u64 c, .string s] FacT)
   obtain ⟨z0, z1, z2, z3⟩ := cs4 hz rfl rfl rfl rfl
   clear hz
   go_upto_region 5 with fail
   generalize (wr.alloc (.cells #[.int .i64 k, .int .i64 xw, .int .u64 c, .string s] FacT)) = wz at *
   have HBZ := Lib.hid (bmore HB.out HZ.out)
   have HZ0 := Lib.hid (⟨z0, z1, z2, z3⟩ : wz.cell? ⟨_, 0, none⟩ = some (.int .i64 k) ∧ wz.cell? ⟨_, 1, none⟩ = some (.int .i64 xw) ∧ wz.cell? ⟨_, 2, none⟩ = some (.int .u64 c) ∧ wz.cell? ⟨_, 3, none⟩ = some (.string s))
   clear x0 x1 x2 x3
   generalize wr.heap.size = zb at *
   clear HZ
   generalize bndB ⟨k, xw, c, s⟩ = bb at *
   go_wp2_with fail
   refine (IB.out _).mono ?_
   rintro e w3 ⟨rfl, u3⟩
   have HB3 := Lib.hid (bmore HBZ.out u3)
   have HO3 := Lib.hid (own_hold HOZ.out (Hold.below u3))
   have y0 := bcellAt u3 z0
   have y1 := bcellAt u3 z1
   have y2 := bcellAt u3 z2
   have y3 := bcellAt u3 z3
   clear z0 z1 z2 z3 u3 IB HZ0 HOZ HBZ
   cases bb with
   | false =>
    go_wp2_with fail
    go_roundw
    case rel => exact ⟨i + 1, by go_num, by omega, by rw [HPS.out]; simpa using HO3.out, HB3.out⟩
    case measure => simp [intOf]; omega
   | true =>
    by_cases hw : xw = who
    ·subst hw
     have HS3 := Lib.hid HB3.out.size
     have HZ3 := Lib.hid (bZ w3 (.cells #[.int .i64 k, .int .i64 xw, .int .u64 c, .string s] FacT))
     have HR3 := Lib.hid (row_fc (w := w3.alloc (.cells #[.int .i64 k, .int .i64 xw, .int .u64 c, .string s] FacT)) (b := w3.heap.size) (f := ⟨k, xw, c, s⟩) (heap_alloc_new _ _))
     have HO4 := Lib.hid (own_hold HO3.out (Hold.below HZ3.out))
     go_wp2_with (first
      | (at_builtin; refine wpList_append_fc rfl _ _ rfl w.heap.size (.slice la S0.length lc) S0 rfl HO4.out _ [⟨k, xw, c, s⟩] rfl HR3.out (by have := HPN.out; simp; omega) (Nat.le_trans HS3.out HZ3.out.size) ?_; intro v5 w5 hrow5 hg5)
      | fail)
     go_roundw
     case rel =>
      refine ⟨i + 1, by go_num, by omega, ?_, ?_⟩
      ·have h6 := HPS.out
       have h7 : (true && xw == xw) = true := by simp
       rw [if_pos h7] at h6
       rw [h6]
       exact hrow5
      ·exact (bmore HB3.out HZ3.out).grown hg5 (Nat.le_trans HS3.out HZ3.out.size) (fun j e => (own_type HO4.out e).1)
     case measure => simp [intOf]; omega
    ·have hw1 : (xw == who) = false := by simpa using hw
     have HW := Lib.hid hw1
     clear hw
     go_wp2_with fail
     go_roundw
     case rel => exact ⟨i + 1, by go_num, by omega, by rw [HPS.out, HW.out]; simpa using HO3.out, HB3.out⟩
     case measure => simp [intOf]; omega
  ·obtain rfl : i = l.length := by omega
   have hi2 : decide ((l.length : Int) < (l.length : Int)) = false := decide_eq_false (by omega)
   go_wp2_with fail
   go_returns
   exact ⟨_, rfl, by rw [show bonP l who = bonP (l.take l.length) who from by rw [List.take_length]]; exact HO.out, HB.out⟩
end Go.Proofs.YtjmcaceegfdkkaaGreatDoor
