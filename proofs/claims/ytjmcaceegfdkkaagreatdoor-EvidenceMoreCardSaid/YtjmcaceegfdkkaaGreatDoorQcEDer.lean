/-
  A set of terms in memory: those that were told, and those that are under way.
  Knowledge in memory: the pool, what was given, the map of what is seen.
  What a rule takes out of a term; what is free; of what a term is made.
  Sees, Given, Derives.
  Derives answers what is derived.
  What is derived: a key; what a key signs; what shows; plain.
-/
import Derived.Maps.OwnSet
import Derived.Test.YtjmcaceegfdkkaaGreatDoorQcEKnowP
import Derived.Test.YtjmcaceegfdkkaaGreatDoorQcTPool
import Derived.Test.YtjmcaceegfdkkaaGreatDoorQcTRefuse
import Derived.Test.YtjmcaceegfdkkaaGreatDoorQcTAlike
namespace Go.Proofs.YtjmcaceegfdkkaaGreatDoor
open Go.RowKit Go.Maps
set_option linter.unusedVariables false
theorem lawT : Keyed Tryz.prog TermT := int_keyed Tryz.underlying23
theorem wfT {x : Int} (h : i64R x) : (Lit.int .i64 x).wf = true := wf_i64 h
theorem keyT {x : Int} (h : i64R x) : keyOf Tryz.prog TermT (.int .i64 x) = some (.int .i64 x) := keyOf_int_mk Tryz.underlying23 (wfT h)
theorem in_i64 {p : Pl} (hl : p.length ≤ 65536) {t : Int} (h : t = 0 ∨ inP p t = true) : i64R t := by
 unfold i64R
 rcases h with rfl | h
 ·omega
 ·unfold inP at h; simp at h; omega
end Go.Proofs.YtjmcaceegfdkkaaGreatDoor
namespace Go.Proofs.YtjmcaceegfdkkaaGreatDoor
open Go.RowKit Go.Maps
set_option linter.unusedVariables false
abbrev KnowT : TypeId := 205
abbrev WayT : TypeId := 207
abbrev SeenT : TypeId := 203
def wayV (z : Way) : Value := .agg #[.int .i64 z.1, .int .i64 z.2]
def wayD (z : Way) : DataW Unit := .agg [.lit (.int .i64 z.1), .lit (.int .i64 z.2)]
def wayElem : Value → Option (DataW Unit × List MemPlace)
 | .agg cs => match cs.toList with
  | [.int .i64 r, .int .i64 y] => some (wayD (r, y), [])
  | _ => none
 | _ => none
theorem wayElem_mk (z : Way) : wayElem (wayV z) = some (wayD z, []) := rfl
theorem wayElem_inv {v : Value} {x : DataW Unit × List MemPlace} (h : wayElem v = some x) : ∃ z, v = wayV z ∧ x = (wayD z, []) := by
 unfold wayElem at h
 split at h
 ·rename_i cs
  split at h
  ·rename_i r y e
   cases h
   exact ⟨(r, y), by unfold wayV; congr 1; exact Array.toList_inj.1 e, rfl⟩
  ·cases h
 ·cases h
theorem wayD_inj {x y : Way} (h : wayD x = wayD y) : x = y := by
 simp only [wayD, DataW.agg.injEq, List.cons.injEq, DataW.lit.injEq, Lit.int.injEq, true_and, and_true] at h
 exact Prod.ext h.1 h.2
theorem zeroWay (w : World) : (zeroValue WayT).run Tryz.prog w = .ok (wayV (0, 0)) w := by kernel_rfl
def SeenM (w : World) (mb : Nat) (p : Pl) (g : List Int) (s : Int → Option Way) : Prop :=
 ∃ (n : Nat) (D : DataW Unit) (L : List Int), w.ownsMap Tryz.prog TermT wayElem mb n D ∧ (∀ x, i64R x → D.atKey (.int .i64 x) (wayD (0, 0)) = wayD ((s x).getD (0, 0)) ∧ Maps.has D (.int .i64 x) = (s x).isSome) ∧
  L.Nodup ∧ (∀ x, x ∈ L ↔ (s x).isSome = true) ∧ (∀ x ∈ L, inP p x = true) ∧ n ≤ g.length + L.length
theorem SeenM.lt {w : World} {mb : Nat} {p : Pl} {g : List Int} {s : Int → Option Way} (h : SeenM w mb p g s) : mb < w.heap.size := by
 obtain ⟨n, D, L, h1, _⟩ := h
 exact h1.lt
theorem SeenM.same {w w' : World} {mb : Nat} {p : Pl} {g : List Int} {s : Int → Option Way} (h : SeenM w mb p g s) (hs : ∀ es c, w.heap[mb]? = some (.map es c) → w'.heap[mb]? = some (.map es c)) : SeenM w' mb p g s := by
 obtain ⟨n, D, L, ⟨es, c, hb, r⟩, h2⟩ := h
 exact ⟨n, D, L, ⟨es, c, hs _ _ hb, r⟩, h2⟩
theorem SeenM.below {w w' : World} {mb : Nat} {p : Pl} {g : List Int} {s : Int → Option Way} (h : SeenM w mb p g s) (hb : Below w.heap.size w w') : SeenM w' mb p g s :=
 h.same fun es c hm => by rw [hb.block mb h.lt]; exact hm
theorem SeenM.new (w : World) (p : Pl) : SeenM (w.alloc (.map #[] 0)) w.heap.size p [] (fun _ => none) :=
 ⟨0, _, [], World.ownsMap_made w _ _ _, fun x _ => ⟨rfl, rfl⟩, by simp, fun x => by simp, fun x hx => by simp at hx, Nat.le_refl _⟩
theorem SeenM.look {w : World} {mb : Nat} {p : Pl} {g : List Int} {s : Int → Option Way} (h : SeenM w mb p g s) {x : Int} (hx : i64R x) : (Instr.lookup SeenT (.map (some mb)) (.int .i64 x) true).run Tryz.prog w = .ok (.tuple #[wayV ((s x).getD (0, 0)), .bool (s x).isSome]) w := by
 obtain ⟨n, D, L, h1, h2, _⟩ := h
 obtain ⟨v, ps, hr, hv⟩ := h1.look_ok lawT Tryz.underlying203 (zeroWay w) (wayElem_mk (0, 0)) (keyT hx)
 obtain ⟨z, rfl, hz⟩ := wayElem_inv hv
 have hz' := (Prod.mk.inj hz).1
 rw [(h2 x hx).1] at hz'
 rw [hr, (h2 x hx).2, ← wayD_inj hz']
theorem nodup_in {p : Pl} {l : List Int} (hn : l.Nodup) (h : ∀ x ∈ l, inP p x = true) : l.length ≤ p.length :=
 nodup_len hn fun x hx => by have := h x hx; unfold inP at this; simpa using this
theorem SeenM.store {w : World} {mb : Nat} {p : Pl} {g : List Int} {s : Int → Option Way} (h : SeenM w mb p g s) (hp : p.length ≤ 65536) (hg : g.length ≤ 65536) : ∃ (n : Nat) (D : DataW Unit), w.ownsMap Tryz.prog TermT wayElem mb n D ∧ n < maxLen ∧ ∀ (t : Int) (z : Way) (w' : World), i64R t → w'.ownsMap Tryz.prog TermT wayElem mb (n + 1) (D.put (.int .i64 t) (wayD z)) →
  ((s t = none ∧ inP p t = true) → SeenM w' mb p g (updS s t z)) ∧ (∀ g', g.length + 1 ≤ g'.length → ((s t).isSome = true ∨ inP p t = true) → SeenM w' mb p g' (updS s t z)) := by
 obtain ⟨n, D, L, h1, h2, h3, h4, h5, h6⟩ := h
 have hL := nodup_in h3 h5
 refine ⟨n, D, h1, by unfold maxLen; omega, fun t z w' ht hw => ?_⟩
 have hm := h1.isMap
 have hD : ∀ x, i64R x → (D.put (.int .i64 t) (wayD z)).atKey (.int .i64 x) (wayD (0, 0)) = wayD ((updS s t z x).getD (0, 0)) ∧ Maps.has (D.put (.int .i64 t) (wayD z)) (.int .i64 x) = (updS s t z x).isSome := fun x hx => by
  unfold updS
  by_cases e : x = t
  ·subst e
   rw [atKey_put_same hm (lawT.key (keyT hx)), has_put_same hm (lawT.key (keyT hx))]; simp
  ·rw [atKey_put_other (fun e' => e (by simpa using e')), has_put_other (fun e' => e (by simpa using e')), if_neg e]
   exact h2 x hx
 constructor
 ·rintro ⟨hn, hin⟩
  have hnL : t ∉ L := fun hm => by have := (h4 t).1 hm; rw [hn] at this; cases this
  refine ⟨n + 1, _, L ++ [t], hw, hD, List.nodup_append.2 ⟨h3, by simp, fun x hx y hy e => hnL (by rw [List.mem_singleton] at hy; rw [← hy, ← e]; exact hx)⟩, fun x => ?_, fun x hx => ?_, by simp; omega⟩
  ·unfold updS
   by_cases e : x = t
   ·simp [e]
   ·simp [e, h4 x]
  ·rcases List.mem_append.1 hx with hx | hx
   ·exact h5 x hx
   ·rw [List.mem_singleton.1 hx]; exact hin
 ·intro g' hg' hor
  by_cases hs : (s t).isSome = true
  ·refine ⟨n + 1, _, L, hw, hD, h3, fun x => ?_, h5, by omega⟩
   unfold updS
   by_cases e : x = t
   ·rw [if_pos e, e, h4 t]; simp [hs]
   ·rw [if_neg e, h4 x]
  ·have hin := hor.resolve_left hs
   have hnL : t ∉ L := fun hm => hs ((h4 t).1 hm)
   refine ⟨n + 1, _, L ++ [t], hw, hD, List.nodup_append.2 ⟨h3, by simp, fun x hx y hy e => hnL (by rw [List.mem_singleton] at hy; rw [← hy, ← e]; exact hx)⟩, fun x => ?_, fun x hx => ?_, by simp; omega⟩
   ·unfold updS
    by_cases e : x = t
    ·simp [e]
    ·simp [e, h4 x]
   ·rcases List.mem_append.1 hx with hx | hx
    ·exact h5 x hx
    ·rw [List.mem_singleton.1 hx]; exact hin
structure IsKnow (w : World) (B k : Nat) (gv : Value) (mb a : Nat) (p : Pl) (g : List Int) (s : Int → Option Way) : Prop where
 lay : w.heap[k]? = some (Obj.cells #[.pointer (some ⟨a, 0, none⟩), gv, .map (some mb)] KnowT)
 gk : B ≤ k
 gm : B ≤ mb
 row : w.ownsRow B TermT 1 gv g.length (ints g)
 seen : SeenM w mb p g s
 ok : SeenOk p g s
theorem IsKnow.below {w w' : World} {B k : Nat} {gv : Value} {mb a : Nat} {p : Pl} {g : List Int} {s : Int → Option Way} (h : IsKnow w B k gv mb a p g s) (hb : Below w.heap.size w w') : IsKnow w' B k gv mb a p g s :=
 ⟨Hold.below hb _ _ h.lay, h.gk, h.gm, own_hold h.row (Hold.below hb), h.seen.below hb, h.ok⟩
theorem IsKnow.lt {w : World} {B k : Nat} {gv : Value} {mb a : Nat} {p : Pl} {g : List Int} {s : Int → Option Way} (h : IsKnow w B k gv mb a p g s) : k < w.heap.size := (Array.getElem?_eq_some_iff.1 h.lay).1
theorem IsKnow.glen {w : World} {B k : Nat} {gv : Value} {mb a : Nat} {p : Pl} {g : List Int} {s : Int → Option Way} (h : IsKnow w B k gv mb a p g s) : g.length ≤ p.length := nodup_in h.ok.nodup h.ok.ing
theorem IsKnow.apart {w : World} {B k : Nat} {gv : Value} {mb a : Nat} {p : Pl} {g : List Int} {s : Int → Option Way} (h : IsKnow w B k gv mb a p g s) : k ≠ mb ∧ ∀ b, gv.ownBlock = some b → b ≠ k ∧ b ≠ mb ∧ b < w.heap.size ∧ B ≤ b := by
 obtain ⟨n, D, L, ⟨es, c, hb, _⟩, _⟩ := h.seen
 refine ⟨fun e => ?_, fun b hbk => ?_⟩
 ·rw [← e, h.lay] at hb; cases hb
 ·obtain ⟨hB, cur, hc⟩ := own_type h.row hbk
  refine ⟨fun e => ?_, fun e => ?_, (Array.getElem?_eq_some_iff.1 hc).1, hB⟩
  ·rw [e, h.lay] at hc
   simp only [Option.some.injEq, Obj.cells.injEq] at hc
   exact absurd hc.2.1 (by decide)
  ·rw [e, hb] at hc; cases hc
end Go.Proofs.YtjmcaceegfdkkaaGreatDoor
namespace Go.Proofs.YtjmcaceegfdkkaaGreatDoor
open Go.RowKit Go.Maps
set_option linter.unusedVariables false
theorem bA0 (w : World) (o : Obj) : Below w.heap.size w (w.alloc o) := (Below.refl _ _).alloc (Nat.le_refl _) _
theorem ebF {x y : Int} (h : ¬ x = y) : (x == y) = false := by simpa using h
set_option maxRecDepth 100000 in
set_option maxHeartbeats 1600000 in
theorem taken_any (r : Int) (n : Nd) (w : World) : Calls Tryz.prog 162 #[.int .i64 r, .agg (nodeA n)] w fun e w' => e = .returned (.int .i64 (takeN r n)) ∧ Below w.heap.size w w' := by
 unfold takeN showB
 obtain ⟨kk, ff, tt, uu, ss, xa, xb⟩ := n
 simp only [nodeA] at *
 have bA : Below w.heap.size w (w.alloc (.cells #[.int .i64 kk, .int .i64 ff, .int .i64 tt, .int .u64 uu, .string ss, .int .i64 xa, .int .i64 xb] NodeT)) := bA0 _ _
 have hb : (w.alloc (.cells #[.int .i64 kk, .int .i64 ff, .int .i64 tt, .int .u64 uu, .string ss, .int .i64 xa, .int .i64 xb] NodeT)).heap[w.heap.size]? = some (Obj.cells #[.int .i64 kk, .int .i64 ff, .int .i64 tt, .int .u64 uu, .string ss, .int .i64 xa, .int .i64 xb] NodeT) := heap_alloc_new _ _
 have HA := Lib.hid bA
 obtain ⟨y0, y1, y2⟩ := cs3 hb rfl rfl rfl
 have y5 := cellB (j := 5) hb rfl
 have y6 := cellB (j := 6) hb rfl
 clear bA hb
 by_cases h4 : kk = 4
 ·subst h4
  rw [if_pos rfl]
  by_cases h1 : r = 1
  ·subst h1
   rw [if_pos rfl]
   go_enter Tryz.func162, Tryz.ntmps162
   go_wp2_with fail
   go_returns
   exact ⟨rfl, HA.out⟩
  ·rw [if_neg h1]
   have h1' := ebF h1
   by_cases h2 : r = 2
   ·subst h2
    rw [if_pos rfl]
    go_enter Tryz.func162, Tryz.ntmps162
    go_wp2_with fail
    go_returns
    exact ⟨rfl, HA.out⟩
   ·rw [if_neg h2]
    have h2' := ebF h2
    go_enter Tryz.func162, Tryz.ntmps162
    go_wp2_with fail
    go_returns
    exact ⟨rfl, HA.out⟩
 ·rw [if_neg h4]
  have h4' := ebF h4
  by_cases h7 : kk = 7 ∨ kk = 8 ∨ kk = 9
  ·rw [if_pos (by simpa [or_assoc] using h7)]
   by_cases h3 : r = 3
   ·subst h3
    rw [if_pos rfl]
    rcases h7 with rfl | rfl | rfl
    ·go_enter Tryz.func162, Tryz.ntmps162
     go_wp2_with fail
     go_returns
     exact ⟨rfl, HA.out⟩
    ·go_enter Tryz.func162, Tryz.ntmps162
     go_wp2_with fail
     go_returns
     exact ⟨rfl, HA.out⟩
    ·go_enter Tryz.func162, Tryz.ntmps162
     go_wp2_with fail
     go_returns
     exact ⟨rfl, HA.out⟩
   ·rw [if_neg h3]
    have h3' := ebF h3
    rcases h7 with rfl | rfl | rfl
    ·go_enter Tryz.func162, Tryz.ntmps162
     go_wp2_with fail
     go_returns
     exact ⟨rfl, HA.out⟩
    ·go_enter Tryz.func162, Tryz.ntmps162
     go_wp2_with fail
     go_returns
     exact ⟨rfl, HA.out⟩
    ·go_enter Tryz.func162, Tryz.ntmps162
     go_wp2_with fail
     go_returns
     exact ⟨rfl, HA.out⟩
  ·rw [if_neg (by simpa [or_assoc] using h7)]
   have h7' := ebF (show ¬ kk = 7 from fun e => h7 (.inl e))
   have h8' := ebF (show ¬ kk = 8 from fun e => h7 (.inr (.inl e)))
   have h9' := ebF (show ¬ kk = 9 from fun e => h7 (.inr (.inr e)))
   go_enter Tryz.func162, Tryz.ntmps162
   go_wp2_with fail
   go_returns
   exact ⟨rfl, HA.out⟩
end Go.Proofs.YtjmcaceegfdkkaaGreatDoor
namespace Go.Proofs.YtjmcaceegfdkkaaGreatDoor
open Go.RowKit Go.Maps
set_option linter.unusedVariables false
section
variable {w : World} {B a b : Nat} {v : Value} {p : Pl} {B2 k : Nat} {gv : Value} {mb : Nat} {g : List Int} {s : Int → Option Way}
set_option maxRecDepth 100000 in
set_option maxHeartbeats 1600000 in
theorem sees_raw (c2 : w.cell? ⟨k, 2, none⟩ = some (.map (some mb))) (hs : SeenM w mb p g s) {t : Int} (ht : i64R t) : Calls Tryz.prog 163 #[.pointer (some ⟨k, 0, none⟩), .int .i64 t] w fun e w' => e = .returned (.bool (s t).isSome) ∧ Below w.heap.size w w' := by
 have hr := hs.look ht
 clear hs ht
 generalize (s t).isSome = sb at *
 generalize (s t).getD (0, 0) = sz at *
 obtain ⟨z1, z2⟩ := sz
 simp only [wayV] at hr
 go_enter Tryz.func163, Tryz.ntmps163
 go_wp2_with fail
 go_returns
 exact ⟨rfl, bA0 _ _⟩
end
end Go.Proofs.YtjmcaceegfdkkaaGreatDoor
