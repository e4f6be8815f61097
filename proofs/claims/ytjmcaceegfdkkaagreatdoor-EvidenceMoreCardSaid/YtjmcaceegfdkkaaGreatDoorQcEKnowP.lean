/-
  slices.SortFunc at facts.
  Plain: the subterms of a term, each once, what stands in it ahead of it.
  Knowledge as plain data: what is reached from what was given, what is derived; what follows of it.
  Steps as plain data: what Check answers.
  A proof as it is laid: plain.
-/
import Derived.Shelf.SlSortCmp.WholeK
import Derived.Shelf.SlSortCmp.NoneTotal
import Derived.Sort.LotA
import Derived.Ground.SlsfProg
import Derived.Test.YtjmcaceegfdkkaaGreatDoorQcFCcm
import Derived.Test.YtjmcaceegfdkkaaGreatDoorQcTBase
namespace Go.Proofs
open Go.RowKit Go.Shelf Go.Lib
def Tryz.sortF_ren : Go.Shelf.Ren := ⟨fun | 6 => 75 | 15 => 128 | 14 => 127 | 28 => 175 | 29 => 176 | 20 => 167 | 21 => 168 | 22 => 169 | 23 => 170 | 24 => 171 | 25 => 172 | 26 => 173 | 27 => 174 | 46 => 199 | 47 => 200 | 48 => 201 | 49 => 202 | 50 => 203 | 57 => 223 | n => n, fun | 22 => 33 | 24 => 45 | 25 => 55 | 3 => 3 | 39 => 216 | 0 => 0 | 53 => 255 | 55 => 24 | 4 => 4 | 46 => 248 | 45 => 247 | 50 => 252 | 5 => 5 | 9 => 9 | 66 => 271 | 70 => 241 | 76 => 286 | 77 => 192 | n => n, fun | n => n⟩
theorem Tryz.sortF : Go.Proofs.SlLaysF0.n6 Tryz.prog Tryz.sortF_ren := {
 mixed := by kernel_rfl
 f6 := ⟨Tryz.f75.name, by decide, Tryz.func75.trans (congrArg some (by kernel_rfl))⟩
 f14 := ⟨Tryz.f127.name, by decide, Tryz.func127.trans (congrArg some (by kernel_rfl))⟩
 f15 := Tryz.func128.trans (congrArg some (by kernel_rfl))
 f20 := ⟨Tryz.f167.name, by decide, Tryz.func167.trans (congrArg some (by kernel_rfl))⟩
 f21 := ⟨Tryz.f168.name, by decide, Tryz.func168.trans (congrArg some (by kernel_rfl))⟩
 f22 := ⟨Tryz.f169.name, by decide, Tryz.func169.trans (congrArg some (by kernel_rfl))⟩
 f23 := ⟨Tryz.f170.name, by decide, Tryz.func170.trans (congrArg some (by kernel_rfl))⟩
 f24 := ⟨Tryz.f171.name, by decide, Tryz.func171.trans (congrArg some (by kernel_rfl))⟩
 f25 := ⟨Tryz.f172.name, by decide, Tryz.func172.trans (congrArg some (by kernel_rfl))⟩
 f26 := ⟨Tryz.f173.name, by decide, Tryz.func173.trans (congrArg some (by kernel_rfl))⟩
 f27 := ⟨Tryz.f174.name, by decide, Tryz.func174.trans (congrArg some (by kernel_rfl))⟩
 f28 := Tryz.func175.trans (congrArg some (by kernel_rfl))
 f29 := Tryz.func176.trans (congrArg some (by kernel_rfl))
 f46 := ⟨Tryz.f199.name, by decide, Tryz.func199.trans (congrArg some (by kernel_rfl))⟩
 f47 := Tryz.func200.trans (congrArg some (by kernel_rfl))
 f48 := Tryz.func201.trans (congrArg some (by kernel_rfl))
 f49 := ⟨Tryz.f202.name, by decide, Tryz.func202.trans (congrArg some (by kernel_rfl))⟩
 f50 := ⟨Tryz.f203.name, by decide, Tryz.func203.trans (congrArg some (by kernel_rfl))⟩
 f57 := ⟨Tryz.f223.name, by decide, Tryz.func223.trans (congrArg some (by kernel_rfl))⟩
 t0 := Tryz.underlying0
 a0 := Tryz.isAgg0
 z0 := Tryz.sizeOf0
 v0 := Tryz.zeroValue0
 t3 := Tryz.underlying3
 a3 := Tryz.isAgg3
 z3 := Tryz.sizeOf3
 v3 := Tryz.zeroValue3
 t4 := Tryz.underlying4
 a4 := Tryz.isAgg4
 z4 := Tryz.sizeOf4
 v4 := Tryz.zeroValue4
 t5 := Tryz.underlying5
 a5 := Tryz.isAgg5
 z5 := Tryz.sizeOf5
 v5 := Tryz.zeroValue5
 t9 := Tryz.underlying9
 a9 := Tryz.isAgg9
 z9 := Tryz.sizeOf9
 v9 := Tryz.zeroValue9
 t22 := Tryz.underlying33
 a22 := Tryz.isAgg33
 z22 := Tryz.sizeOf33
 v22 := Tryz.zeroValue33
 t25 := Tryz.underlying55
 a25 := Tryz.isAgg55
 z25 := Tryz.sizeOf55
 v25 := Tryz.zeroValue55
 t39 := Tryz.underlying216
 a39 := Tryz.isAgg216
 z39 := Tryz.sizeOf216
 v39 := Tryz.zeroValue216
 t45 := Tryz.underlying247
 a45 := Tryz.isAgg247
 z45 := Tryz.sizeOf247
 v45 := Tryz.zeroValue247
 t46 := Tryz.underlying248
 a46 := Tryz.isAgg248
 z46 := Tryz.sizeOf248
 v46 := Tryz.zeroValue248
 t50 := Tryz.underlying252
 a50 := Tryz.isAgg252
 z50 := Tryz.sizeOf252
 v50 := Tryz.zeroValue252
 t53 := Tryz.underlying255
 a53 := Tryz.isAgg255
 z53 := Tryz.sizeOf255
 v53 := Tryz.zeroValue255
 t55 := Tryz.underlying24
 a55 := Tryz.isAgg24
 z55 := Tryz.sizeOf24
 v55 := Tryz.zeroValue24
 t66 := Tryz.underlying271
 a66 := Tryz.isAgg271
 z66 := Tryz.sizeOf271
 v66 := Tryz.zeroValue271
 t70 := Tryz.underlying241
 a70 := Tryz.isAgg241
 z70 := Tryz.sizeOf241
 v70 := Tryz.zeroValue241
 t76 := Tryz.underlying286
 a76 := Tryz.isAgg286
 z76 := Tryz.sizeOf286
 v76 := Tryz.zeroValue286
 t77 := Tryz.underlying192
 a77 := Tryz.isAgg192
 z77 := Tryz.sizeOf192
 v77 := Tryz.zeroValue192 }
namespace YtjmcaceegfdkkaaGreatDoor
open Go.RowKit Go.Maps Go.Sort
set_option linter.unusedVariables false
theorem flat_fcs (l : List Fc) : flatK fcC 4 l.toArray = (fcs l).toArray := by
 apply Array.ext_getElem?
 intro t
 by_cases ht : t < l.length * 4
 ·have hq : t / 4 < l.length := by omega
  have e := fcs_get l (t / 4) (t % 4) hq (by omega)
  rw [show t / 4 * 4 + t % 4 = t from by omega] at e
  have hm : t % 4 < (fcC l[t / 4]).length := by rw [fcC_length]; omega
  simp only [List.getElem?_toArray, e, List.getElem?_eq_getElem hm]
  rw [Array.getElem?_eq_getElem (by simpa using ht)]
  simp only [flatK, Array.getElem_map, Array.getElem_range]
  rw [show l.toArray[t / 4]! = l[t / 4] from by simp [getElem!_pos, hq], getElem!_pos (fcC l[t / 4]) (t % 4) hm]
 ·rw [Array.getElem?_eq_none (by simpa using ht), Array.getElem?_eq_none (by simp [fcs_length]; omega)]
section
variable {w : World} {base g n cap : Nat} {l : List Fc}
theorem holds_fcs (h : w.ownsRow base FacT 4 (.slice (some ⟨g, 0, none⟩) n cap) n (fcs l)) : HoldsK fcC 4 w g 0 l.toArray := by
 unfold HoldsK
 rw [flat_fcs]
 intro j hj
 have hj' : j < (fcs l).length := by simpa using hj
 rw [Nat.zero_add]
 refine ⟨?_, own_frozen4 h j⟩
 rw [own_cell4 h (List.getElem?_eq_getElem hj')]
 simp [getElem!_pos, hj']
theorem take_putF (cur : Array Value) (ts : List Value) (h : ts.length ≤ cur.size) : (putCells id 0 ts.toArray cur).toList.take ts.length = ts := by
 apply List.ext_getElem?
 intro j
 by_cases hj : j < ts.length
 ·rw [List.getElem?_take_of_lt hj, Array.getElem?_toList]
  simp [putCells, hj, show j < cur.size by omega]
 ·rw [List.getElem?_take_eq_none (by omega), List.getElem?_eq_none (by omega)]
theorem own_sorted (h : w.ownsRow base FacT 4 (.slice (some ⟨g, 0, none⟩) n cap) n (fcs l)) (q : Nat) (os : Array Obj) (ys : List Fc) (hy : ys.length = n) : (sortWorldK fcC 4 w g 0 q ys.toArray os).ownsRow base FacT 4 (.slice (some ⟨g, 0, none⟩) n cap) n (fcs ys) ∧ Below base w (sortWorldK fcC 4 w g 0 q ys.toArray os) := by
 rcases h.2 with ⟨e0, _⟩ | ⟨g', cap', cur, e', hb, hg, hle, hm, hc, ht⟩
 ·simp at e0
 ·simp only [Value.slice.injEq, Option.some.injEq, Addr.mk.injEq, true_and, and_true] at e'
  obtain ⟨rfl, rfl⟩ := e'
  have hgl : g < w.heap.size := (Array.getElem?_eq_some_iff.1 hg).1
  unfold sortWorldK putRowK
  rw [flat_fcs]
  have hh : (grow (putRow id (Sort.ahead w q) g 0 (fcs ys).toArray) os).heap[g]? = some (.cells (putCells id 0 (fcs ys).toArray cur) FacT) := by
   rw [heap_grow_old _ _ (by simpa using hgl)]
   simp [putRow, mapBlock, Sort.ahead, Array.getElem?_modify, hg, onCells]
  refine ⟨⟨by rw [fcs_length, hy], .inr ⟨g, cap, _, rfl, hb, hh, hle, hm, by simpa [putCells] using hc, ?_⟩⟩, ⟨rfl, rfl, rfl, by simp, fun k hk => ?_⟩⟩
  ·have e : n * 4 = (fcs ys).length := by rw [fcs_length, hy]
   rw [e]
   exact take_putF cur (fcs ys) (by rw [← e, hc]; omega)
  ·rw [heap_grow_old _ _ (by simp; omega)]
   have : g ≠ k := by omega
   simp [putRow, mapBlock, Sort.ahead, Array.getElem?_modify, this]
theorem cmp_lays (w : World) (g size : Nat) : CmpLays Tryz.prog 27 #[] fcC 4 cmpF g 0 size w := fun m os dk _ x y => (cmpF_any x y _).mono fun _ _ ⟨he, o, ho⟩ => ⟨he, 1, #[.cells (fcA x) FacT, .cells (fcA y) FacT, o], by
 rw [ho, alloc_eq_grow, alloc_eq_grow, alloc_eq_grow, grow_grow, grow_grow, drew_grow]; rfl⟩
theorem sort_some (h : w.ownsRow base FacT 4 (.slice (some ⟨g, 0, none⟩) l.length cap) l.length (fcs l)) (hl : l.length ≤ 100000) : Calls Tryz.prog 75 #[.slice (some ⟨g, 0, none⟩) l.length cap, .func (.func 27) #[] #[]] w fun e w' => e = .returned (.tuple #[]) ∧ w'.ownsRow base FacT 4 (.slice (some ⟨g, 0, none⟩) l.length cap) l.length (fcs (srtF l)) ∧ Below base w w' := by
 have hgl : g < w.heap.size := (h.lt g rfl).2
 have eg : ∀ args w, (callFunc 27 args).run Tryz.prog w = .ok (.enter 27 args) w := enters_of Tryz.func27 (by kernel_rfl) rfl
 have hc := AnyQ.slices_SortFunc (P := Tryz.prog) Tryz.sortF 4 Tryz.isAgg45 Tryz.sizeOf45 fcC fcC_length (fun x v hv => fcs_oneCell [x] v (by simpa [fcs] using hv)) cmpF cmpF_cmp.swo 27 #[] g 0 cap l.toArray w eg (cmp_lays w g l.toArray.size) (holds_fcs h) hgl (by simp; omega)
 change Calls Tryz.prog 75 _ _ _ at hc
 rw [show l.toArray.size = l.length from by simp] at hc
 refine hc.mono ?_
 rintro e w' ⟨rfl, d', q, os, hp, hs, rfl⟩
 have e1 := sorted_unique_holds cmpF_cmp.swo cmpF_cmp.one l.toArray d' (by simpa using hp) (by simpa using hs)
 have e2 : d' = (srtF l).toArray := by rw [show srtF l = d'.toList from e1.symm]
 rw [e2]
 exact ⟨rfl, own_sorted h q os (srtF l) (srtF_len l)⟩
end
theorem sort_any {w : World} {base : Nat} {v : Value} {l : List Fc} (h : w.ownsRow base FacT 4 v l.length (fcs l)) (hl : l.length ≤ 100000) : Calls Tryz.prog 75 #[v, .func (.func 27) #[] #[]] w fun e w' => e = .returned (.tuple #[]) ∧ w'.ownsRow base FacT 4 v l.length (fcs (srtF l)) ∧ Below base w w' := by
 obtain ⟨oa, oc, rfl⟩ := (row_of_own h).shape
 rcases h.2 with ⟨e, h0⟩ | ⟨g, cap, cur, e, _⟩
 ·have h9 := AnyF.slices_SortFunc_none (P := Tryz.prog) Tryz.sortF oa oc (.func (.func 27) #[] #[]) w
  change Calls Tryz.prog 75 _ _ _ at h9
  obtain rfl : l = [] := List.eq_nil_of_length_eq_zero h0
  rw [show srtF [] = [] from by unfold srtF; simp]
  refine h9.mono ?_
  rintro e w' ⟨rfl, rfl⟩
  exact ⟨rfl, h, Below.refl _ _⟩
 ·rw [e] at h ⊢
  exact sort_some h hl
end YtjmcaceegfdkkaaGreatDoor
end Go.Proofs
namespace Go.Proofs.YtjmcaceegfdkkaaGreatDoor
set_option linter.unusedVariables false
theorem kid_less {p : Pl} (hp : Ok p) {t : Int} (hin : inP p t = true) :
  ((atP p t).1.a = 0 ∨ (inP p (atP p t).1.a = true ∧ (atP p t).1.a < t)) ∧ ((atP p t).1.b = 0 ∨ (inP p (atP p t).1.b = true ∧ (atP p t).1.b < t)) := by
 induction hp with
 | nil => simp [inP] at hin; omega
 | @add p n hp he hn hl ih =>
  by_cases h : inP p t = true
  ·obtain ⟨h1, h2⟩ := ih h
   rw [addP, atP_append h]
   refine ⟨h1.imp id fun x => ⟨inP_le x.1 (by simp), x.2⟩, h2.imp id fun x => ⟨inP_le x.1 (by simp), x.2⟩⟩
  ·have ht : t = (p.length : Int) + 1 := by
    unfold inP at h hin
    unfold addP at hin
    simp at h hin
    omega
   have hat : (atP (addP p n) t).1 = n := by
    unfold atP
    rw [if_pos hin, ht, addP]
    simp [List.getD]
   rw [hat]
   obtain ⟨h1, h2⟩ := kid_in he
   have hlt : ∀ x, inP p x = true → x < t := fun x hx => by unfold inP at hx; simp at hx; omega
   exact ⟨h1.imp id fun x => ⟨inP_le x (by simp [addP]), hlt _ x⟩, h2.imp id fun x => ⟨inP_le x (by simp [addP]), hlt _ x⟩⟩
def over (p : Pl) : Nat → Int → List Int → List Int
 | 0, _, acc => acc
 | f + 1, t, acc => if inP p t = true ∧ t ∉ acc then over p f (atP p t).1.b (over p f (atP p t).1.a acc) ++ [t] else acc
theorem nodup_len {l : List Int} (hn : l.Nodup) {n : Nat} (h : ∀ x ∈ l, 1 ≤ x ∧ x ≤ (n : Int)) : l.length ≤ n := by
 have h1 : (l.map Int.toNat).Nodup := by
  rw [List.Nodup, List.pairwise_map]
  refine hn.imp_of_mem fun {a b} ha hb hab => ?_
  have := h a ha; have := h b hb; omega
 have h2 : (l.map Int.toNat) ⊆ List.range (n + 1) := fun x hx => by
  obtain ⟨y, hy, rfl⟩ := List.mem_map.1 hx
  have := h y hy
  simp; omega
 have h3 : (0 :: l.map Int.toNat).Nodup := List.nodup_cons.2 ⟨fun hx => by
  obtain ⟨y, hy, e⟩ := List.mem_map.1 hx
  have := h y hy; omega, h1⟩
 have h4 : (0 :: l.map Int.toNat) ⊆ List.range (n + 1) := fun x hx => by
  rcases List.mem_cons.1 hx with rfl | hx
  ·simp
  ·exact h2 hx
 have := h3.length_le_of_subset h4
 simp at this
 omega
end Go.Proofs.YtjmcaceegfdkkaaGreatDoor
namespace Go.Proofs.YtjmcaceegfdkkaaGreatDoor
set_option linter.unusedVariables false
def showB (k : Int) : Bool := k == 7 || k == 8 || k == 9
def takeN (r : Int) (n : Nd) : Int :=
 if n.kind = 4 then (if r = 1 then n.a else if r = 2 then n.b else 0) else if showB n.kind = true then (if r = 3 then n.a else 0) else 0
inductive Reach (p : Pl) (g : List Int) : Int → Prop where
 | given {t : Int} : t ∈ g → Reach p g t
 | step {t : Int} (r : Int) : Reach p g t → takeN r (atP p t).1 ≠ 0 → Reach p g (takeN r (atP p t).1)
theorem Reach.mono {p : Pl} {g g' : List Int} (h : ∀ t ∈ g, t ∈ g') {t : Int} (ht : Reach p g t) : Reach p g' t := by
 induction ht with
 | given h1 => exact .given (h _ h1)
 | step r _ h2 ih => exact .step r ih h2
theorem Reach.inp {p : Pl} (hp : Ok p) {g : List Int} (h : ∀ t ∈ g, inP p t = true) {t : Int} (ht : Reach p g t) : inP p t = true := by
 induction ht with
 | given h1 => exact h _ h1
 | @step t r _ h2 ih =>
  obtain ⟨ha, hb⟩ := kid_less hp ih
  revert h2
  unfold takeN
  split
  ·split
   ·exact fun h2 => (ha.resolve_left h2).1
   ·split
    ·exact fun h2 => (hb.resolve_left h2).1
    ·exact fun h2 => absurd rfl h2
  ·split
   ·split
    ·exact fun h2 => (ha.resolve_left h2).1
    ·exact fun h2 => absurd rfl h2
   ·exact fun h2 => absurd rfl h2
def addG (p : Pl) (g : List Int) (t : Int) : List Int := if inP p t = true ∧ t ∉ g then g ++ [t] else g
def addsG (p : Pl) (g : List Int) (l : List Int) : List Int := l.foldl (addG p) g
theorem mem_addG {p : Pl} {g : List Int} {t x : Int} : x ∈ addG p g t ↔ x ∈ g ∨ (x = t ∧ inP p t = true) := by
 unfold addG
 split
 ·rename_i hc
  simp only [List.mem_append, List.mem_singleton]
  exact ⟨fun h => h.imp id fun e => ⟨e, hc.1⟩, fun h => h.imp id fun e => e.1⟩
 ·rename_i hc
  refine ⟨.inl, fun h => h.elim id fun e => ?_⟩
  obtain ⟨rfl, h1⟩ := e
  exact Decidable.byContradiction fun h2 => hc ⟨h1, h2⟩
theorem mem_addsG {p : Pl} : ∀ (l : List Int) (g : List Int) {x : Int}, x ∈ addsG p g l ↔ x ∈ g ∨ (x ∈ l ∧ inP p x = true)
 | [], g, x => by simp [addsG]
 | t :: l, g, x => by
  rw [show addsG p g (t :: l) = addsG p (addG p g t) l from rfl, mem_addsG l, mem_addG]
  simp only [List.mem_cons]
  constructor
  ·rintro ((h | ⟨rfl, h⟩) | ⟨h, h'⟩)
   ·exact .inl h
   ·exact .inr ⟨.inl rfl, h⟩
   ·exact .inr ⟨.inr h, h'⟩
  ·rintro (h | ⟨rfl | h, h'⟩)
   ·exact .inl (.inl h)
   ·exact .inl (.inr ⟨rfl, h'⟩)
   ·exact .inr ⟨h, h'⟩
theorem addsG_snoc (p : Pl) (g l : List Int) (t : Int) : addsG p g (l ++ [t]) = addG p (addsG p g l) t := by simp [addsG]
abbrev Way := Int × Int
structure SeenOk (p : Pl) (g : List Int) (s : Int → Option Way) : Prop where
 nodup : g.Nodup
 ing : ∀ t ∈ g, inP p t = true
 reach : ∀ t, (s t).isSome = true ↔ Reach p g t
 given : ∀ t, s t = some (0, 0) ↔ t ∈ g
 ways : ∀ t r y, s t = some (r, y) → r ≠ 0 → (r = 1 ∨ r = 2 ∨ r = 3) ∧ Reach p g y ∧ takeN r (atP p y).1 = t ∧ t ≠ 0
 zero : ∀ t y, s t = some (0, y) → y = 0
theorem SeenOk.nil (p : Pl) : SeenOk p [] (fun _ => none) :=
 ⟨by simp, fun t h => (by simp at h), fun t => ⟨fun h => (by cases h), fun h => (by
  exfalso
  induction h with
  | given h => simp at h
  | step _ _ _ ih => exact ih)⟩, fun t => (by simp), fun t r y h => (by cases h), fun t y h => (by cases h)⟩
structure Took (p : Pl) (s0 : Int → Option Way) (t : Int) (ws : List Int) (i : Nat) (s : Int → Option Way) : Prop where
 first : ws[0]? = some t
 le : i ≤ ws.length
 nodup : ws.Nodup
 inp : ∀ x ∈ ws, inP p x = true
 seen : ∀ x ∈ ws, (s x).isSome = true
 old : ∀ x, (s0 x).isSome = true → s x = s0 x
 only : ∀ x, (s x).isSome = true → (s0 x).isSome = true ∨ x ∈ ws
 new : ∀ x ∈ ws, x ≠ t → s0 x = none
 done : ∀ j y, j < i → ws[j]? = some y → ∀ r, takeN r (atP p y).1 ≠ 0 → (s (takeN r (atP p y).1)).isSome = true
 least : ∀ Q : Int → Prop, Q t → (∀ x r, Q x → takeN r (atP p x).1 ≠ 0 → Q (takeN r (atP p x).1)) → ∀ x ∈ ws, Q x
 ways : ∀ x ∈ ws, x ≠ t → ∃ r y, s x = some (r, y) ∧ (r = 1 ∨ r = 2 ∨ r = 3) ∧ y ∈ ws ∧ takeN r (atP p y).1 = x ∧ x ≠ 0
theorem Took.start {p : Pl} {s0 : Int → Option Way} {t : Int} (ht : inP p t = true) (hs : (s0 t).isSome = true) : Took p s0 t [t] 0 s0 :=
 ⟨rfl, Nat.zero_le _, by simp, fun x hx => by rw [List.mem_singleton.1 hx]; exact ht, fun x hx => by rw [List.mem_singleton.1 hx]; exact hs, fun _ _ => rfl, fun x h => .inl h, fun x hx hn => absurd (List.mem_singleton.1 hx) hn, fun j y hj => by omega,
  fun Q h _ x hx => by rw [List.mem_singleton.1 hx]; exact h, fun x hx hn => absurd (List.mem_singleton.1 hx) hn⟩
theorem takeN_cases (r : Int) (n : Nd) (h : takeN r n ≠ 0) : r = 1 ∨ r = 2 ∨ r = 3 := by
 unfold takeN at h
 split at h
 ·split at h
  ·exact .inl ‹_›
  ·split at h
   ·exact .inr (.inl ‹_›)
   ·exact absurd rfl h
 ·split at h
  ·split at h
   ·exact .inr (.inr ‹_›)
   ·exact absurd rfl h
  ·exact absurd rfl h
theorem take_in {p : Pl} (hp : Ok p) {t : Int} (ht : inP p t = true) (r : Int) (h : takeN r (atP p t).1 ≠ 0) : inP p (takeN r (atP p t).1) = true :=
 Reach.inp hp (g := [t]) (fun x hx => by rw [List.mem_singleton.1 hx]; exact ht) (.step r (.given (by simp)) h)
theorem Took.more {p : Pl} (hp : Ok p) {s0 s : Int → Option Way} {t y : Int} {ws : List Int} {i : Nat} (h : Took p s0 t ws i s) (hy : y ∈ ws) {r : Int} (h0 : takeN r (atP p y).1 ≠ 0) (hn : s (takeN r (atP p y).1) = none) :
  Took p s0 t (ws ++ [takeN r (atP p y).1]) i (fun x => if x = takeN r (atP p y).1 then some (r, y) else s x) := by
 have hmem : takeN r (atP p y).1 ∉ ws := fun hm => by have := h.seen _ hm; rw [hn] at this; cases this
 have hup : ∀ x, (s x).isSome = true → (if x = takeN r (atP p y).1 then some (r, y) else s x) = s x := fun x hx => by
  rw [if_neg (fun e => by rw [e, hn] at hx; cases hx)]
 have h0t : s0 (takeN r (atP p y).1) = none := by
  cases e : s0 (takeN r (atP p y).1) with
  | none => rfl
  | some z => have := h.old _ (by rw [e]; rfl); rw [hn, e] at this; cases this
 refine ⟨?_, ?_, ?_, ?_, ?_, ?_, ?_, ?_, ?_, ?_, ?_⟩
 ·have := h.first
  cases ws with
  | nil => cases this
  | cons a l => exact this
 ·simpa using Nat.le_succ_of_le h.le
 ·exact List.nodup_append.2 ⟨h.nodup, by simp, fun x hx z hz e => hmem (by rw [List.mem_singleton] at hz; rw [← hz, ← e]; exact hx)⟩
 ·intro x hx
  rcases List.mem_append.1 hx with hx | hx
  ·exact h.inp x hx
  ·rw [List.mem_singleton.1 hx]; exact take_in hp (h.inp y hy) r h0
 ·intro x hx
  rcases List.mem_append.1 hx with hx | hx
  ·rw [hup x (h.seen x hx)]; exact h.seen x hx
  ·rw [if_pos (List.mem_singleton.1 hx)]; rfl
 ·intro x hx
  rw [hup x (by rw [h.old x hx]; exact hx)]; exact h.old x hx
 ·intro x hx
  by_cases e : x = takeN r (atP p y).1
  ·exact .inr (by rw [e]; simp)
  ·rw [if_neg e] at hx
   exact (h.only x hx).imp id fun q => List.mem_append_left _ q
 ·intro x hx hn'
  rcases List.mem_append.1 hx with hx | hx
  ·exact h.new x hx hn'
  ·rw [List.mem_singleton.1 hx]; exact h0t
 ·intro j z hj hz r' h0'
  have hz' : ws[j]? = some z := by
   rw [List.getElem?_append] at hz
   split at hz
   ·exact hz
   ·rename_i hge
    have := h.le
    omega
  have := h.done j z hj hz' r' h0'
  rw [hup _ this]; exact this
 ·intro Q hQ hc x hx
  rcases List.mem_append.1 hx with hx | hx
  ·exact h.least Q hQ hc x hx
  ·rw [List.mem_singleton.1 hx]; exact hc _ _ (h.least Q hQ hc y hy) h0
 ·intro x hx hn'
  rcases List.mem_append.1 hx with hx | hx
  ·obtain ⟨r', y', e1, e2, e3, e4, e5⟩ := h.ways x hx hn'
   exact ⟨r', y', by rw [hup x (by rw [e1]; rfl)]; exact e1, e2, List.mem_append_left _ e3, e4, e5⟩
  ·rw [List.mem_singleton.1 hx]
   exact ⟨r, y, if_pos rfl, takeN_cases _ _ h0, List.mem_append_left _ hy, rfl, h0⟩
theorem Took.next {p : Pl} {s0 s : Int → Option Way} {t : Int} {ws : List Int} {i : Nat} (h : Took p s0 t ws i s) {y : Int} (hy : ws[i]? = some y) (hd : ∀ r, takeN r (atP p y).1 ≠ 0 → (s (takeN r (atP p y).1)).isSome = true) : Took p s0 t ws (i + 1) s :=
 ⟨h.first, (List.getElem?_eq_some_iff.1 hy).1, h.nodup, h.inp, h.seen, h.old, h.only, h.new, fun j z hj hz r h0 => by
  rcases Nat.lt_or_ge j i with hlt | hge
  ·exact h.done j z hlt hz r h0
  ·obtain rfl : j = i := by omega
   rw [hy] at hz
   cases hz
   exact hd r h0, h.least, h.ways⟩
def updS (s : Int → Option Way) (t : Int) (z : Way) : Int → Option Way := fun x => if x = t then some z else s x
theorem SeenOk.again {p : Pl} {g : List Int} {s : Int → Option Way} (h : SeenOk p g s) {t : Int} (ht : (s t).isSome = true) (hin : inP p t = true) (hg : t ∉ g) : SeenOk p (g ++ [t]) (updS s t (0, 0)) := by
 have hr := (h.reach t).1 ht
 have hmono : ∀ x, Reach p g x → Reach p (g ++ [t]) x := fun x hx => hx.mono fun y hy => List.mem_append_left _ hy
 have hback : ∀ x, Reach p (g ++ [t]) x → Reach p g x := fun x hx => by
  induction hx with
  | given h1 =>
   rcases List.mem_append.1 h1 with h1 | h1
   ·exact .given h1
   ·rw [List.mem_singleton.1 h1]; exact hr
  | step r _ h2 ih => exact .step r ih h2
 refine ⟨List.nodup_append.2 ⟨h.nodup, by simp, fun x hx y hy e => hg (by rw [List.mem_singleton] at hy; rw [← hy, ← e]; exact hx)⟩, fun x hx => ?_, fun x => ?_, fun x => ?_, fun x r y e hr0 => ?_, fun x y e => ?_⟩
 ·rcases List.mem_append.1 hx with hx | hx
  ·exact h.ing x hx
  ·rw [List.mem_singleton.1 hx]; exact hin
 ·unfold updS
  by_cases e : x = t
  ·rw [if_pos e, e]; exact ⟨fun _ => hmono _ hr, fun _ => rfl⟩
  ·rw [if_neg e, h.reach x]; exact ⟨hmono x, hback x⟩
 ·unfold updS
  by_cases e : x = t
  ·rw [if_pos e, e]; simp
  ·rw [if_neg e, h.given x]; simp [e]
 ·unfold updS at e
  by_cases e' : x = t
  ·rw [if_pos e'] at e; cases e; exact absurd rfl hr0
  ·rw [if_neg e'] at e
   obtain ⟨h1, h2, h3⟩ := h.ways x r y e hr0
   exact ⟨h1, hmono _ h2, h3⟩
 ·unfold updS at e
  by_cases e' : x = t
  ·rw [if_pos e'] at e; cases e; rfl
  ·rw [if_neg e'] at e; exact h.zero x y e
theorem SeenOk.took {p : Pl} {g : List Int} {s s1 : Int → Option Way} (h : SeenOk p g s) {t : Int} {ws : List Int} (ht : s t = none) (hin : inP p t = true) (hT : Took p (updS s t (0, 0)) t ws ws.length s1) : SeenOk p (g ++ [t]) s1 := by
 have hmono : ∀ x, Reach p g x → Reach p (g ++ [t]) x := fun x hx => hx.mono fun y hy => List.mem_append_left _ hy
 have hgt : t ∉ g := fun hm => by have := (h.given t).2 hm; rw [ht] at this; cases this
 have hs0 : ∀ x, x ≠ t → updS s t (0, 0) x = s x := fun x e => if_neg e
 have hs0t : updS s t (0, 0) t = some (0, 0) := if_pos rfl
 have htw : t ∈ ws := List.mem_of_getElem? hT.first
 have hold : ∀ x, (s x).isSome = true → (s1 x).isSome = true ∧ s1 x = s x := fun x hx => by
  have e : x ≠ t := fun e => by rw [e, ht] at hx; cases hx
  have := hT.old x (by rw [hs0 x e]; exact hx)
  rw [this, hs0 x e]
  exact ⟨hx, rfl⟩
 have h1t : s1 t = some (0, 0) := (hT.old t (by rw [hs0t]; rfl)).trans hs0t
 have hws : ∀ x ∈ ws, Reach p (g ++ [t]) x := hT.least _ (.given (by simp)) (fun x r hx h0 => .step r hx h0)
 refine ⟨List.nodup_append.2 ⟨h.nodup, by simp, fun x hx y hy e => hgt (by rw [List.mem_singleton] at hy; rw [← hy, ← e]; exact hx)⟩, fun x hx => ?_, fun x => ⟨fun hx => ?_, fun hx => ?_⟩, fun x => ⟨fun e => ?_, fun hx => ?_⟩, fun x r y e hr0 => ?_, fun x y e => ?_⟩
 ·rcases List.mem_append.1 hx with hx | hx
  ·exact h.ing x hx
  ·rw [List.mem_singleton.1 hx]; exact hin
 ·rcases hT.only x hx with h1 | h1
  ·by_cases e : x = t
   ·rw [e]; exact .given (by simp)
   ·rw [hs0 x e] at h1
    exact hmono _ ((h.reach x).1 h1)
  ·exact hws x h1
 ·induction hx with
  | given h1 =>
   rcases List.mem_append.1 h1 with h1 | h1
   ·exact (hold _ ((h.reach _).2 (.given h1))).1
   ·rw [List.mem_singleton.1 h1, h1t]; rfl
  | @step x r hx h2 ih =>
   rcases hT.only x ih with h1 | h1
   ·by_cases e : x = t
    ·rw [e] at h2 ⊢
     obtain ⟨j, hj⟩ := List.getElem?_of_mem htw
     exact hT.done j t (List.getElem?_eq_some_iff.1 hj).1 hj r h2
    ·rw [hs0 x e] at h1
     exact (hold _ ((h.reach _).2 (.step r ((h.reach x).1 h1) h2))).1
   ·obtain ⟨j, hj⟩ := List.getElem?_of_mem h1
    exact hT.done j x (List.getElem?_eq_some_iff.1 hj).1 hj r h2
 ·by_cases e' : x = t
  ·rw [e']; simp
  ·rcases hT.only x (by rw [e]; rfl) with h1 | h1
   ·have := hT.old x h1
    rw [hs0 x e'] at this
    exact List.mem_append_left _ ((h.given x).1 (by rw [← this]; exact e))
   ·obtain ⟨r, y, e1, e2, _⟩ := hT.ways x h1 e'
    rw [e] at e1
    cases e1
    omega
 ·rcases List.mem_append.1 hx with hx | hx
  ·have := (h.given x).2 hx
   rw [(hold x (by rw [this]; rfl)).2, this]
  ·rw [List.mem_singleton.1 hx]; exact h1t
 ·rcases hT.only x (by rw [e]; rfl) with h1 | h1
  ·by_cases e' : x = t
   ·rw [e', h1t] at e; cases e; exact absurd rfl hr0
   ·have := hT.old x h1
    rw [hs0 x e'] at this
    obtain ⟨q1, q2, q3⟩ := h.ways x r y (by rw [← this]; exact e) hr0
    exact ⟨q1, hmono _ q2, q3⟩
  ·by_cases e' : x = t
   ·rw [e', h1t] at e; cases e; exact absurd rfl hr0
   ·obtain ⟨r', y', e1, e2, e3, e4, e5⟩ := hT.ways x h1 e'
    rw [e] at e1
    cases e1
    exact ⟨e2, hws _ e3, e4, e5⟩
 ·rcases hT.only x (by rw [e]; rfl) with h1 | h1
  ·by_cases e' : x = t
   ·rw [e', h1t] at e; cases e; rfl
   ·have := hT.old x h1
    rw [hs0 x e'] at this
    exact h.zero x y (by rw [← this]; exact e)
  ·by_cases e' : x = t
   ·rw [e', h1t] at e; cases e; rfl
   ·obtain ⟨r', y', e1, e2, _⟩ := hT.ways x h1 e'
    rw [e] at e1
    cases e1
    omega
end Go.Proofs.YtjmcaceegfdkkaaGreatDoor
namespace Go.Proofs.YtjmcaceegfdkkaaGreatDoor
set_option linter.unusedVariables false
end Go.Proofs.YtjmcaceegfdkkaaGreatDoor
namespace Go.Proofs.YtjmcaceegfdkkaaGreatDoor
set_option linter.unusedVariables false
end Go.Proofs.YtjmcaceegfdkkaaGreatDoor
