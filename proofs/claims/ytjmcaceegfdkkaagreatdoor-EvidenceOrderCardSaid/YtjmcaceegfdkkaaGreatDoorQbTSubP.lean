/-
  slices.SortFunc at facts.
  Plain: the subterms of a term, each once, what stands in it ahead of it.
-/
import Derived.Shelf.SlSortCmp.WholeK
import Derived.Shelf.SlSortCmp.NoneTotal
import Derived.Sort.LotA
import Derived.Ground.SlsfProg
import Derived.Test.YtjmcaceegfdkkaaGreatDoorQbFCcm
import Derived.Test.YtjmcaceegfdkkaaGreatDoorQbTBase
namespace Go.Proofs
open Go.RowKit Go.Shelf Go.Lib
def Tryz.sortF_ren : Go.Shelf.Ren := ⟨fun | 6 => 75 | 15 => 128 | 14 => 127 | 28 => 175 | 29 => 176 | 20 => 167 | 21 => 168 | 22 => 169 | 23 => 170 | 24 => 171 | 25 => 172 | 26 => 173 | 27 => 174 | 46 => 199 | 47 => 200 | 48 => 201 | 49 => 202 | 50 => 203 | 57 => 223 | n => n, fun | 22 => 33 | 24 => 45 | 25 => 55 | 3 => 3 | 39 => 216 | 0 => 0 | 53 => 255 | 55 => 24 | 4 => 4 | 46 => 248 | 45 => 247 | 50 => 252 | 5 => 5 | 9 => 9 | 66 => 271 | 70 => 241 | 76 => 286 | 77 => 192 | n => n, fun | n => n⟩
theorem Tryz.sortF : Go.Proofs.SlLaysF0.n6 Tryz.prog Tryz.sortF_ren := {
  mixed := by kernel_rfl
  f6 := ⟨Tryz.f75.name, by decide, Tryz.func75.trans (congrArg some (by kernel_rfl))⟩
  f14 := ⟨Tryz.f127.name, by decide, Tryz.func127.trans (congrArg some (by kernel_rfl))⟩
  f15 := Tryz.func128.trans (congrArg some (by kernel_rfl))
  f20 := ⟨Tryz.f167.name, by decide, Tryz.func167.trans (congrArg some (by kernel_rfl))⟩
  f21 := ⟨Tryz.f168.name, by decide, Tryz.func168.trans (congrArg some (by kernel_rfl))⟩
  f22 := ⟨Tryz.f169.name, by decide, Tryz.func169.trans (congrArg some (by kernel_rfl))⟩
  f23 := ⟨Tryz.f170.name, by decide, Tryz.func170.trans (congrArg some (by kernel_rfl))⟩
  f24 := ⟨Tryz.f171.name, by decide, Tryz.func171.trans (congrArg some (by kernel_rfl))⟩
  f25 := ⟨Tryz.f172.name, by decide, Tryz.func172.trans (congrArg some (by kernel_rfl))⟩
  f26 := ⟨Tryz.f173.name, by decide, Tryz.func173.trans (congrArg some (by kernel_rfl))⟩
  f27 := ⟨Tryz.f174.name, by decide, Tryz.func174.trans (congrArg some (by kernel_rfl))⟩
  f28 := Tryz.func175.trans (congrArg some (by kernel_rfl))
  f29 := Tryz.func176.trans (congrArg some (by kernel_rfl))
  f46 := ⟨Tryz.f199.name, by decide, Tryz.func199.trans (congrArg some (by kernel_rfl))⟩
  f47 := Tryz.func200.trans (congrArg some (by kernel_rfl))
  f48 := Tryz.func201.trans (congrArg some (by kernel_rfl))
  f49 := ⟨Tryz.f202.name, by decide, Tryz.func202.trans (congrArg some (by kernel_rfl))⟩
  f50 := ⟨Tryz.f203.name, by decide, Tryz.func203.trans (congrArg some (by kernel_rfl))⟩
  f57 := ⟨Tryz.f223.name, by decide, Tryz.func223.trans (congrArg some (by kernel_rfl))⟩
  t0 := Tryz.underlying0
  a0 := Tryz.isAgg0
  z0 := Tryz.sizeOf0
  v0 := Tryz.zeroValue0
  t3 := Tryz.underlying3
  a3 := Tryz.isAgg3
  z3 := Tryz.sizeOf3
  v3 := Tryz.zeroValue3
  t4 := Tryz.underlying4
  a4 := Tryz.isAgg4
  z4 := Tryz.sizeOf4
  v4 := Tryz.zeroValue4
  t5 := Tryz.underlying5
  a5 := Tryz.isAgg5
  z5 := Tryz.sizeOf5
  v5 := Tryz.zeroValue5
  t9 := Tryz.underlying9
  a9 := Tryz.isAgg9
  z9 := Tryz.sizeOf9
  v9 := Tryz.zeroValue9
  t22 := Tryz.underlying33
  a22 := Tryz.isAgg33
  z22 := Tryz.sizeOf33
  v22 := Tryz.zeroValue33
  t25 := Tryz.underlying55
  a25 := Tryz.isAgg55
  z25 := Tryz.sizeOf55
  v25 := Tryz.zeroValue55
  t39 := Tryz.underlying216
  a39 := Tryz.isAgg216
  z39 := Tryz.sizeOf216
  v39 := Tryz.zeroValue216
  t45 := Tryz.underlying247
  a45 := Tryz.isAgg247
  z45 := Tryz.sizeOf247
  v45 := Tryz.zeroValue247
  t46 := Tryz.underlying248
  a46 := Tryz.isAgg248
  z46 := Tryz.sizeOf248
  v46 := Tryz.zeroValue248
  t50 := Tryz.underlying252
  a50 := Tryz.isAgg252
  z50 := Tryz.sizeOf252
  v50 := Tryz.zeroValue252
  t53 := Tryz.underlying255
  a53 := Tryz.isAgg255
  z53 := Tryz.sizeOf255
  v53 := Tryz.zeroValue255
  t55 := Tryz.underlying24
  a55 := Tryz.isAgg24
  z55 := Tryz.sizeOf24
  v55 := Tryz.zeroValue24
  t66 := Tryz.underlying271
  a66 := Tryz.isAgg271
  z66 := Tryz.sizeOf271
  v66 := Tryz.zeroValue271
  t70 := Tryz.underlying241
  a70 := Tryz.isAgg241
  z70 := Tryz.sizeOf241
  v70 := Tryz.zeroValue241
  t76 := Tryz.underlying286
  a76 := Tryz.isAgg286
  z76 := Tryz.sizeOf286
  v76 := Tryz.zeroValue286
  t77 := Tryz.underlying192
  a77 := Tryz.isAgg192
  z77 := Tryz.sizeOf192
  v77 := Tryz.zeroValue192 }
namespace YtjmcaceegfdkkaaGreatDoor
open Go.RowKit Go.Maps Go.Sort
set_option linter.unusedVariables false
theorem flat_fcs (l : List Fc) : flatK fcC 4 l.toArray = (fcs l).toArray := by
  apply Array.ext_getElem?
  intro t
  by_cases ht : t < l.length * 4
  · have hq : t / 4 < l.length := by omega
    have e := fcs_get l (t / 4) (t % 4) hq (by omega)
    rw [show t / 4 * 4 + t % 4 = t from by omega] at e
    have hm : t % 4 < (fcC l[t / 4]).length := by rw [fcC_length]; omega
    simp only [List.getElem?_toArray, e, List.getElem?_eq_getElem hm]
    rw [Array.getElem?_eq_getElem (by simpa using ht)]
    simp only [flatK, Array.getElem_map, Array.getElem_range]
    rw [show l.toArray[t / 4]! = l[t / 4] from by simp [getElem!_pos, hq], getElem!_pos (fcC l[t / 4]) (t % 4) hm]
  · rw [Array.getElem?_eq_none (by simpa using ht), Array.getElem?_eq_none (by simp [fcs_length]; omega)]
section
variable {w : World} {base g n cap : Nat} {l : List Fc}
theorem holds_fcs (h : w.ownsRow base FacT 4 (.slice (some ⟨g, 0, none⟩) n cap) n (fcs l)) : HoldsK fcC 4 w g 0 l.toArray := by
  unfold HoldsK
  rw [flat_fcs]
  intro j hj
  have hj' : j < (fcs l).length := by simpa using hj
  rw [Nat.zero_add]
  refine ⟨?_, own_frozen4 h j⟩
  rw [own_cell4 h (List.getElem?_eq_getElem hj')]
  simp [getElem!_pos, hj']
theorem take_putF (cur : Array Value) (ts : List Value) (h : ts.length ≤ cur.size) : (putCells id 0 ts.toArray cur).toList.take ts.length = ts := by
  apply List.ext_getElem?
  intro j
  by_cases hj : j < ts.length
  · rw [List.getElem?_take_of_lt hj, Array.getElem?_toList]
    simp [putCells, hj, show j < cur.size by omega]
  · rw [List.getElem?_take_eq_none (by omega), List.getElem?_eq_none (by omega)]
theorem own_sorted (h : w.ownsRow base FacT 4 (.slice (some ⟨g, 0, none⟩) n cap) n (fcs l)) (q : Nat) (os : Array Obj) (ys : List Fc) (hy : ys.length = n) : (sortWorldK fcC 4 w g 0 q ys.toArray os).ownsRow base FacT 4 (.slice (some ⟨g, 0, none⟩) n cap) n (fcs ys) ∧ Below base w (sortWorldK fcC 4 w g 0 q ys.toArray os) := by
  rcases h.2 with ⟨e0, _⟩ | ⟨g', cap', cur, e', hb, hg, hle, hm, hc, ht⟩
  · simp at e0
  · simp only [Value.slice.injEq, Option.some.injEq, Addr.mk.injEq, true_and, and_true] at e'
    obtain ⟨rfl, rfl⟩ := e'
    have hgl : g < w.heap.size := (Array.getElem?_eq_some_iff.1 hg).1
    unfold sortWorldK putRowK
    rw [flat_fcs]
    have hh : (grow (putRow id (Sort.ahead w q) g 0 (fcs ys).toArray) os).heap[g]? = some (.cells (putCells id 0 (fcs ys).toArray cur) FacT) := by
      rw [heap_grow_old _ _ (by simpa using hgl)]
      simp [putRow, mapBlock, Sort.ahead, Array.getElem?_modify, hg, onCells]
    refine ⟨⟨by rw [fcs_length, hy], .inr ⟨g, cap, _, rfl, hb, hh, hle, hm, by simpa [putCells] using hc, ?_⟩⟩, ⟨rfl, rfl, rfl, by simp, fun k hk => ?_⟩⟩
    · have e : n * 4 = (fcs ys).length := by rw [fcs_length, hy]
      rw [e]
      exact take_putF cur (fcs ys) (by rw [← e, hc]; omega)
    · rw [heap_grow_old _ _ (by simp; omega)]
      have : g ≠ k := by omega
      simp [putRow, mapBlock, Sort.ahead, Array.getElem?_modify, this]
theorem cmp_lays (w : World) (g size : Nat) : CmpLays Tryz.prog 27 #[] fcC 4 cmpF g 0 size w := fun m os dk _ x y => (cmpF_any x y _).mono fun _ _ ⟨he, o, ho⟩ => ⟨he, 1, #[.cells (fcA x) FacT, .cells (fcA y) FacT, o], by
  rw [ho, alloc_eq_grow, alloc_eq_grow, alloc_eq_grow, grow_grow, grow_grow, drew_grow]; rfl⟩
theorem sort_some (h : w.ownsRow base FacT 4 (.slice (some ⟨g, 0, none⟩) l.length cap) l.length (fcs l)) (hl : l.length ≤ 100000) : Calls Tryz.prog 75 #[.slice (some ⟨g, 0, none⟩) l.length cap, .func (.func 27) #[] #[]] w fun e w' => e = .returned (.tuple #[]) ∧ w'.ownsRow base FacT 4 (.slice (some ⟨g, 0, none⟩) l.length cap) l.length (fcs (srtF l)) ∧ Below base w w' := by
  have hgl : g < w.heap.size := (h.lt g rfl).2
  have eg : ∀ args w, (callFunc 27 args).run Tryz.prog w = .ok (.enter 27 args) w := enters_of Tryz.func27 (by kernel_rfl) rfl
  have hc := AnyQ.slices_SortFunc (P := Tryz.prog) Tryz.sortF 4 Tryz.isAgg45 Tryz.sizeOf45 fcC fcC_length (fun x v hv => fcs_oneCell [x] v (by simpa [fcs] using hv)) cmpF cmpF_cmp.swo 27 #[] g 0 cap l.toArray w eg (cmp_lays w g l.toArray.size) (holds_fcs h) hgl (by simp; omega)
  change Calls Tryz.prog 75 _ _ _ at hc
  rw [show l.toArray.size = l.length from by simp] at hc
  refine hc.mono ?_
  rintro e w' ⟨rfl, d', q, os, hp, hs, rfl⟩
  have e1 := sorted_unique_holds cmpF_cmp.swo cmpF_cmp.one l.toArray d' (by simpa using hp) (by simpa using hs)
  have e2 : d' = (srtF l).toArray := by rw [show srtF l = d'.toList from e1.symm]
  rw [e2]
  exact ⟨rfl, own_sorted h q os (srtF l) (srtF_len l)⟩
end
theorem sort_any {w : World} {base : Nat} {v : Value} {l : List Fc} (h : w.ownsRow base FacT 4 v l.length (fcs l)) (hl : l.length ≤ 100000) : Calls Tryz.prog 75 #[v, .func (.func 27) #[] #[]] w fun e w' => e = .returned (.tuple #[]) ∧ w'.ownsRow base FacT 4 v l.length (fcs (srtF l)) ∧ Below base w w' := by
  obtain ⟨oa, oc, rfl⟩ := (row_of_own h).shape
  rcases h.2 with ⟨e, h0⟩ | ⟨g, cap, cur, e, _⟩
  · have h9 := AnyF.slices_SortFunc_none (P := Tryz.prog) Tryz.sortF oa oc (.func (.func 27) #[] #[]) w
    change Calls Tryz.prog 75 _ _ _ at h9
    obtain rfl : l = [] := List.eq_nil_of_length_eq_zero h0
    rw [show srtF [] = [] from by unfold srtF; simp]
    refine h9.mono ?_
    rintro e w' ⟨rfl, rfl⟩
    exact ⟨rfl, h, Below.refl _ _⟩
  · rw [e] at h ⊢
    exact sort_some h hl
end YtjmcaceegfdkkaaGreatDoor
end Go.Proofs
namespace Go.Proofs.YtjmcaceegfdkkaaGreatDoor
set_option linter.unusedVariables false
/-- What stands in a term has a number of its own, and a less one. -/
theorem kid_less {p : Pl} (hp : Ok p) {t : Int} (hin : inP p t = true) :
    ((atP p t).1.a = 0 ∨ (inP p (atP p t).1.a = true ∧ (atP p t).1.a < t)) ∧ ((atP p t).1.b = 0 ∨ (inP p (atP p t).1.b = true ∧ (atP p t).1.b < t)) := by
  induction hp with
  | nil => simp [inP] at hin; omega
  | @add p n hp he hn hl ih =>
    by_cases h : inP p t = true
    · obtain ⟨h1, h2⟩ := ih h
      rw [addP, atP_append h]
      refine ⟨h1.imp id fun x => ⟨inP_le x.1 (by simp), x.2⟩, h2.imp id fun x => ⟨inP_le x.1 (by simp), x.2⟩⟩
    · have ht : t = (p.length : Int) + 1 := by
        unfold inP at h hin
        unfold addP at hin
        simp at h hin
        omega
      have hat : (atP (addP p n) t).1 = n := by
        unfold atP
        rw [if_pos hin, ht, addP]
        simp [List.getD]
      rw [hat]
      obtain ⟨h1, h2⟩ := kid_in he
      have hlt : ∀ x, inP p x = true → x < t := fun x hx => by unfold inP at hx; simp at hx; omega
      exact ⟨h1.imp id fun x => ⟨inP_le x (by simp [addP]), hlt _ x⟩, h2.imp id fun x => ⟨inP_le x (by simp [addP]), hlt _ x⟩⟩
theorem nodup_len {l : List Int} (hn : l.Nodup) {n : Nat} (h : ∀ x ∈ l, 1 ≤ x ∧ x ≤ (n : Int)) : l.length ≤ n := by
  have h1 : (l.map Int.toNat).Nodup := by
    rw [List.Nodup, List.pairwise_map]
    refine hn.imp_of_mem fun {a b} ha hb hab => ?_
    have := h a ha; have := h b hb; omega
  have h2 : (l.map Int.toNat) ⊆ List.range (n + 1) := fun x hx => by
    obtain ⟨y, hy, rfl⟩ := List.mem_map.1 hx
    have := h y hy
    simp; omega
  have h3 : (0 :: l.map Int.toNat).Nodup := List.nodup_cons.2 ⟨fun hx => by
    obtain ⟨y, hy, e⟩ := List.mem_map.1 hx
    have := h y hy; omega, h1⟩
  have h4 : (0 :: l.map Int.toNat) ⊆ List.range (n + 1) := fun x hx => by
    rcases List.mem_cons.1 hx with rfl | hx
    · simp
    · exact h2 hx
  have := h3.length_le_of_subset h4
  simp at this
  omega
end Go.Proofs.YtjmcaceegfdkkaaGreatDoor
