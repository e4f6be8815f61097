/-
  The document's own Get and Floor.
-/
import Derived.Test.YtkobiimkaimbaaaKRefG
namespace Go.Proofs.Ytkobiimkaimbaaa
open Go.RowKit
set_option linter.unusedVariables false

set_option maxRecDepth 100000 in
set_option maxHeartbeats 1600000 in
theorem rget_yes {w : World} {v : Value} {l : List Ent} {ev : Int} (k : ByteArray) (h : Row w 2 v l.length (ents l)) (hl : l.length < 1000000) (ho : atI l (rk l k) = some (k, ev)) :
    Calls Try.prog 29 #[v, .string k] w fun e w' => e = .returned (.tuple #[.int .i64 ev, .bool true]) ∧ Below w.heap.size w w' := by
  have H := Lib.hid h
  obtain ⟨aa, ca, rfl⟩ := h.shape
  have hm := fun (w' : World) (hr : Row w' 2 (.slice aa l.length ca) l.length (ents l)) => rat_any (rk l k : Int) hr hl
  rw [ho] at hm
  simp only [entV, Option.isSome] at hm
  have HM := Lib.hid hm
  have hs := beq_self_list k
  clear h hm ho
  go_enter Try.func29, Try.ntmps29
  go_wp2_with fail
  refine (rrank k H.out hl).mono ?_
  rintro e w1 ⟨rfl, rfl⟩
  go_wp2_with fail
  refine (HM.out _ H.out).mono ?_
  rintro e w2 ⟨rfl, u2⟩
  have HU := Lib.hid (u2.trans (((Below.refl w2.heap.size w2).alloc (Nat.le_refl _) (.cells #[.string k, .int .i64 ev] 48)).mono u2.size))
  clear u2
  go_wp2_with fail
  go_returns
  exact ⟨rfl, HU.out⟩
set_option maxRecDepth 100000 in
set_option maxHeartbeats 1600000 in
theorem rget_none {w : World} {v : Value} {l : List Ent} (k : ByteArray) (h : Row w 2 v l.length (ents l)) (hl : l.length < 1000000) (ho : atI l (rk l k) = none) :
    Calls Try.prog 29 #[v, .string k] w fun e w' => e = .returned (.tuple #[.int .i64 0, .bool false]) ∧ Below w.heap.size w w' := by
  have H := Lib.hid h
  obtain ⟨aa, ca, rfl⟩ := h.shape
  have hm := fun (w' : World) (hr : Row w' 2 (.slice aa l.length ca) l.length (ents l)) => rat_any (rk l k : Int) hr hl
  rw [ho] at hm
  simp only [entV, Option.isSome] at hm
  have HM := Lib.hid hm
  clear h hm ho
  go_enter Try.func29, Try.ntmps29
  go_wp2_with fail
  refine (rrank k H.out hl).mono ?_
  rintro e w1 ⟨rfl, rfl⟩
  go_wp2_with fail
  refine (HM.out _ H.out).mono ?_
  rintro e w2 ⟨rfl, u2⟩
  have HU := Lib.hid (u2.trans (((Below.refl w2.heap.size w2).alloc (Nat.le_refl _) (.cells #[.string ⟨#[]⟩, .int .i64 0] 48)).mono u2.size))
  clear u2
  go_wp2_with fail
  go_returns
  exact ⟨rfl, HU.out⟩
set_option maxRecDepth 100000 in
set_option maxHeartbeats 1600000 in
theorem rget_other {w : World} {v : Value} {l : List Ent} {ev : Int} {c : ByteArray} (k : ByteArray) (h : Row w 2 v l.length (ents l)) (hl : l.length < 1000000) (ho : atI l (rk l k) = some (c, ev)) (hc : c ≠ k) :
    Calls Try.prog 29 #[v, .string k] w fun e w' => e = .returned (.tuple #[.int .i64 0, .bool false]) ∧ Below w.heap.size w w' := by
  have H := Lib.hid h
  obtain ⟨aa, ca, rfl⟩ := h.shape
  have hm := fun (w' : World) (hr : Row w' 2 (.slice aa l.length ca) l.length (ents l)) => rat_any (rk l k : Int) hr hl
  rw [ho] at hm
  simp only [entV, Option.isSome] at hm
  have HM := Lib.hid hm
  have hs := ne_bytes hc
  clear h hm ho
  go_enter Try.func29, Try.ntmps29
  go_wp2_with fail
  refine (rrank k H.out hl).mono ?_
  rintro e w1 ⟨rfl, rfl⟩
  go_wp2_with fail
  refine (HM.out _ H.out).mono ?_
  rintro e w2 ⟨rfl, u2⟩
  have HU := Lib.hid (u2.trans (((Below.refl w2.heap.size w2).alloc (Nat.le_refl _) (.cells #[.string c, .int .i64 ev] 48)).mono u2.size))
  clear u2
  go_wp2_with fail
  go_returns
  exact ⟨rfl, HU.out⟩
set_option maxRecDepth 100000 in
set_option maxHeartbeats 3200000 in
theorem rfloor_yes {w : World} {v : Value} {l : List Ent} {ev : Int} (k : ByteArray) (h : Row w 2 v l.length (ents l)) (hl : l.length < 1000000) (ho : atI l (rk l k) = some (k, ev)) :
    Calls Try.prog 82 #[v, .string k] w fun e w' => e = .returned (.tuple #[.agg #[.string k, .int .i64 ev], .bool true]) ∧ Below w.heap.size w w' := by
  have bA : Below w.heap.size w (w.alloc (.cells #[.string ⟨#[]⟩, .int .i64 0] 48)) := (Below.refl _ _).alloc (Nat.le_refl _) _
  have hA : (w.alloc (.cells #[.string ⟨#[]⟩, .int .i64 0] 48)).heap[w.heap.size]? = some (Obj.cells #[.string ⟨#[]⟩, .int .i64 0] 48) := heap_alloc_new _ _
  have H := Lib.hid (h.below bA)
  have HBA := Lib.hid bA
  have HA := Lib.hid hA
  obtain ⟨aa, ca, rfl⟩ := h.shape
  have hm := fun (w' : World) (hr : Row w' 2 (.slice aa l.length ca) l.length (ents l)) => rat_any (rk l k : Int) hr hl
  rw [ho] at hm
  simp only [entV, Option.isSome] at hm
  have HM := Lib.hid hm
  have hrk := rk_le l k
  have hs := beq_self_list k
  have hrk2 : (rk l k : Int) < 1000000 := by omega
  clear h hm ho bA hA hrk
  go_enter Try.func82, Try.ntmps82
  go_wp2_with fail
  generalize (w.alloc (.cells #[.string ⟨#[]⟩, .int .i64 0] 48)) = W at *
  refine (rrank k H.out hl).mono ?_
  rintro e w1 ⟨rfl, rfl⟩
  go_wp2_with fail
  refine (HM.out _ H.out).mono ?_
  rintro e w2 ⟨rfl, u2⟩
  have bB : Below w2.heap.size w2 (w2.alloc (.cells #[.string k, .int .i64 ev] 48)) := (Below.refl _ _).alloc (Nat.le_refl _) _
  have hh := Hold.below (T := 48) (bmore u2 bB) _ _ HA.out
  have x0 : (w2.alloc (.cells #[.string k, .int .i64 ev] 48)).cell? ⟨w.heap.size, 0, none⟩ = some (.string ⟨#[]⟩) := cellB hh rfl
  have x1 : (w2.alloc (.cells #[.string k, .int .i64 ev] 48)).cell? ⟨w.heap.size, 1, none⟩ = some (.int .i64 0) := cellB hh rfl
  have f0 : (w2.alloc (.cells #[.string k, .int .i64 ev] 48)).frozen? ⟨w.heap.size, 0, none⟩ = false := frozenB hh
  have f1 : (w2.alloc (.cells #[.string k, .int .i64 ev] 48)).frozen? ⟨w.heap.size, 1, none⟩ = false := frozenB hh
  have HH := Lib.hid hh
  have HU := Lib.hid (bmore u2 bB)
  clear u2 hh bB
  go_wp2_with fail
  have hB := HBA.out.trans (HU.out.mono HBA.out.size)
  generalize (w2.alloc (.cells #[.string k, .int .i64 ev] 48)) = w3 at *
  have y2 := setCellB (j := 1) (u := .int .i64 ev) (setCellB (j := 0) (u := .string k) HH.out)
  have hc0 : ((w3.setCell ⟨w.heap.size, 0, none⟩ (.string k)).setCell ⟨w.heap.size, 1, none⟩ (.int .i64 ev)).cell? ⟨w.heap.size, 0, none⟩ = some (.string k) := cellB y2 rfl
  have hc1 : ((w3.setCell ⟨w.heap.size, 0, none⟩ (.string k)).setCell ⟨w.heap.size, 1, none⟩ (.int .i64 ev)).cell? ⟨w.heap.size, 1, none⟩ = some (.int .i64 ev) := cellB y2 rfl
  refine bodyPost_ret (v := .tuple #[.agg #[.string k, .int .i64 ev], .bool true]) (by simp [results, Try.results82, go_sem, hc0, hc1]) rfl ?_
  exact ⟨rfl, (hB.setCell (p := ⟨w.heap.size, 0, none⟩) (Nat.le_refl _) _).setCell (p := ⟨w.heap.size, 1, none⟩) (Nat.le_refl _) _⟩
set_option maxRecDepth 100000 in
set_option maxHeartbeats 3200000 in
theorem rfloor_none {w : World} {v : Value} {l : List Ent} (k : ByteArray) (h : Row w 2 v l.length (ents l)) (hl : l.length < 1000000) (ho : atI l (rk l k) = none) :
    Calls Try.prog 82 #[v, .string k] w fun e w' => e = .returned (.tuple #[.agg #[.string (entV (atI l ((rk l k : Int) - 1))).1, .int .i64 (entV (atI l ((rk l k : Int) - 1))).2], .bool (atI l ((rk l k : Int) - 1)).isSome]) ∧ Below w.heap.size w w' := by
  have bA : Below w.heap.size w (w.alloc (.cells #[.string ⟨#[]⟩, .int .i64 0] 48)) := (Below.refl _ _).alloc (Nat.le_refl _) _
  have hA : (w.alloc (.cells #[.string ⟨#[]⟩, .int .i64 0] 48)).heap[w.heap.size]? = some (Obj.cells #[.string ⟨#[]⟩, .int .i64 0] 48) := heap_alloc_new _ _
  have H := Lib.hid (h.below bA)
  have HBA := Lib.hid bA
  have HA := Lib.hid hA
  obtain ⟨aa, ca, rfl⟩ := h.shape
  have hm := fun (w' : World) (hr : Row w' 2 (.slice aa l.length ca) l.length (ents l)) => rat_any (rk l k : Int) hr hl
  rw [ho] at hm
  simp only [entV, Option.isSome] at hm
  have HM := Lib.hid hm
  have hrk := rk_le l k
  have HM2 := Lib.hid (fun (w' : World) (hr : Row w' 2 (.slice aa l.length ca) l.length (ents l)) => rat_any ((rk l k : Int) - 1) hr hl)
  have hw1 : IntKind.i64.wrap ((rk l k : Int) - 1) = (rk l k : Int) - 1 := IntWalk.i64_in _ (by omega)
  generalize atI l ((rk l k : Int) - 1) = o2 at *
  generalize hEV : entV o2 = ev2 at *
  obtain ⟨fk, fv⟩ := ev2
  clear hEV
  have hrk2 : (rk l k : Int) < 1000000 := by omega
  clear h hm ho bA hA hrk
  go_enter Try.func82, Try.ntmps82
  go_wp2_with fail
  generalize (w.alloc (.cells #[.string ⟨#[]⟩, .int .i64 0] 48)) = W at *
  refine (rrank k H.out hl).mono ?_
  rintro e w1 ⟨rfl, rfl⟩
  go_wp2_with fail
  refine (HM.out _ H.out).mono ?_
  rintro e w2 ⟨rfl, u2⟩
  have bB : Below w2.heap.size w2 (w2.alloc (.cells #[.string ⟨#[]⟩, .int .i64 0] 48)) := (Below.refl _ _).alloc (Nat.le_refl _) _
  have hh := Hold.below (T := 48) (bmore u2 bB) _ _ HA.out
  have x0 : (w2.alloc (.cells #[.string ⟨#[]⟩, .int .i64 0] 48)).cell? ⟨w.heap.size, 0, none⟩ = some (.string ⟨#[]⟩) := cellB hh rfl
  have x1 : (w2.alloc (.cells #[.string ⟨#[]⟩, .int .i64 0] 48)).cell? ⟨w.heap.size, 1, none⟩ = some (.int .i64 0) := cellB hh rfl
  have f0 : (w2.alloc (.cells #[.string ⟨#[]⟩, .int .i64 0] 48)).frozen? ⟨w.heap.size, 0, none⟩ = false := frozenB hh
  have f1 : (w2.alloc (.cells #[.string ⟨#[]⟩, .int .i64 0] 48)).frozen? ⟨w.heap.size, 1, none⟩ = false := frozenB hh
  have HH := Lib.hid hh
  have HU := Lib.hid (bmore u2 bB)
  clear u2 hh bB
  go_wp2_with fail
  refine (HM2.out _ (H.out.below HU.out)).mono ?_
  rintro e w3 ⟨rfl, u3⟩
  have hh3 := Hold.below (T := 48) u3 _ _ HH.out
  have x0' : w3.cell? ⟨w.heap.size, 0, none⟩ = some (.string ⟨#[]⟩) := cellB hh3 rfl
  have x1' : w3.cell? ⟨w.heap.size, 1, none⟩ = some (.int .i64 0) := cellB hh3 rfl
  have f0' : w3.frozen? ⟨w.heap.size, 0, none⟩ = false := frozenB hh3
  have f1' : w3.frozen? ⟨w.heap.size, 1, none⟩ = false := frozenB hh3
  have HH3 := Lib.hid hh3
  have HB3 := Lib.hid (HBA.out.trans ((bmore HU.out u3).mono HBA.out.size))
  clear u3 hh3 x0 x1 f0 f1
  go_wp2_with fail
  have hB := HB3.out
  have HH := HH3
  have y2 := setCellB (j := 1) (u := .int .i64 fv) (setCellB (j := 0) (u := .string fk) HH.out)
  have hc0 : ((w3.setCell ⟨w.heap.size, 0, none⟩ (.string fk)).setCell ⟨w.heap.size, 1, none⟩ (.int .i64 fv)).cell? ⟨w.heap.size, 0, none⟩ = some (.string fk) := cellB y2 rfl
  have hc1 : ((w3.setCell ⟨w.heap.size, 0, none⟩ (.string fk)).setCell ⟨w.heap.size, 1, none⟩ (.int .i64 fv)).cell? ⟨w.heap.size, 1, none⟩ = some (.int .i64 fv) := cellB y2 rfl
  refine bodyPost_ret (v := .tuple #[.agg #[.string fk, .int .i64 fv], .bool o2.isSome]) (by simp [results, Try.results82, go_sem, hc0, hc1]) rfl ?_
  exact ⟨rfl, (hB.setCell (p := ⟨w.heap.size, 0, none⟩) (Nat.le_refl _) _).setCell (p := ⟨w.heap.size, 1, none⟩) (Nat.le_refl _) _⟩
set_option maxRecDepth 100000 in
set_option maxHeartbeats 3200000 in
theorem rfloor_other {w : World} {v : Value} {l : List Ent} {ev : Int} {c : ByteArray} (k : ByteArray) (h : Row w 2 v l.length (ents l)) (hl : l.length < 1000000) (ho : atI l (rk l k) = some (c, ev)) (hc : c ≠ k) :
    Calls Try.prog 82 #[v, .string k] w fun e w' => e = .returned (.tuple #[.agg #[.string (entV (atI l ((rk l k : Int) - 1))).1, .int .i64 (entV (atI l ((rk l k : Int) - 1))).2], .bool (atI l ((rk l k : Int) - 1)).isSome]) ∧ Below w.heap.size w w' := by
  have bA : Below w.heap.size w (w.alloc (.cells #[.string ⟨#[]⟩, .int .i64 0] 48)) := (Below.refl _ _).alloc (Nat.le_refl _) _
  have hA : (w.alloc (.cells #[.string ⟨#[]⟩, .int .i64 0] 48)).heap[w.heap.size]? = some (Obj.cells #[.string ⟨#[]⟩, .int .i64 0] 48) := heap_alloc_new _ _
  have H := Lib.hid (h.below bA)
  have HBA := Lib.hid bA
  have HA := Lib.hid hA
  obtain ⟨aa, ca, rfl⟩ := h.shape
  have hm := fun (w' : World) (hr : Row w' 2 (.slice aa l.length ca) l.length (ents l)) => rat_any (rk l k : Int) hr hl
  rw [ho] at hm
  simp only [entV, Option.isSome] at hm
  have HM := Lib.hid hm
  have hrk := rk_le l k
  have HM2 := Lib.hid (fun (w' : World) (hr : Row w' 2 (.slice aa l.length ca) l.length (ents l)) => rat_any ((rk l k : Int) - 1) hr hl)
  have hw1 : IntKind.i64.wrap ((rk l k : Int) - 1) = (rk l k : Int) - 1 := IntWalk.i64_in _ (by omega)
  generalize atI l ((rk l k : Int) - 1) = o2 at *
  generalize hEV : entV o2 = ev2 at *
  obtain ⟨fk, fv⟩ := ev2
  clear hEV
  have hs := ne_bytes hc
  have hrk2 : (rk l k : Int) < 1000000 := by omega
  clear h hm ho bA hA hrk
  go_enter Try.func82, Try.ntmps82
  go_wp2_with fail
  generalize (w.alloc (.cells #[.string ⟨#[]⟩, .int .i64 0] 48)) = W at *
  refine (rrank k H.out hl).mono ?_
  rintro e w1 ⟨rfl, rfl⟩
  go_wp2_with fail
  refine (HM.out _ H.out).mono ?_
  rintro e w2 ⟨rfl, u2⟩
  have bB : Below w2.heap.size w2 (w2.alloc (.cells #[.string c, .int .i64 ev] 48)) := (Below.refl _ _).alloc (Nat.le_refl _) _
  have hh := Hold.below (T := 48) (bmore u2 bB) _ _ HA.out
  have x0 : (w2.alloc (.cells #[.string c, .int .i64 ev] 48)).cell? ⟨w.heap.size, 0, none⟩ = some (.string ⟨#[]⟩) := cellB hh rfl
  have x1 : (w2.alloc (.cells #[.string c, .int .i64 ev] 48)).cell? ⟨w.heap.size, 1, none⟩ = some (.int .i64 0) := cellB hh rfl
  have f0 : (w2.alloc (.cells #[.string c, .int .i64 ev] 48)).frozen? ⟨w.heap.size, 0, none⟩ = false := frozenB hh
  have f1 : (w2.alloc (.cells #[.string c, .int .i64 ev] 48)).frozen? ⟨w.heap.size, 1, none⟩ = false := frozenB hh
  have HH := Lib.hid hh
  have HU := Lib.hid (bmore u2 bB)
  clear u2 hh bB
  go_wp2_with fail
  refine (HM2.out _ (H.out.below HU.out)).mono ?_
  rintro e w3 ⟨rfl, u3⟩
  have hh3 := Hold.below (T := 48) u3 _ _ HH.out
  have x0' : w3.cell? ⟨w.heap.size, 0, none⟩ = some (.string ⟨#[]⟩) := cellB hh3 rfl
  have x1' : w3.cell? ⟨w.heap.size, 1, none⟩ = some (.int .i64 0) := cellB hh3 rfl
  have f0' : w3.frozen? ⟨w.heap.size, 0, none⟩ = false := frozenB hh3
  have f1' : w3.frozen? ⟨w.heap.size, 1, none⟩ = false := frozenB hh3
  have HH3 := Lib.hid hh3
  have HB3 := Lib.hid (HBA.out.trans ((bmore HU.out u3).mono HBA.out.size))
  clear u3 hh3 x0 x1 f0 f1
  go_wp2_with fail
  have hB := HB3.out
  have HH := HH3
  have y2 := setCellB (j := 1) (u := .int .i64 fv) (setCellB (j := 0) (u := .string fk) HH.out)
  have hc0 : ((w3.setCell ⟨w.heap.size, 0, none⟩ (.string fk)).setCell ⟨w.heap.size, 1, none⟩ (.int .i64 fv)).cell? ⟨w.heap.size, 0, none⟩ = some (.string fk) := cellB y2 rfl
  have hc1 : ((w3.setCell ⟨w.heap.size, 0, none⟩ (.string fk)).setCell ⟨w.heap.size, 1, none⟩ (.int .i64 fv)).cell? ⟨w.heap.size, 1, none⟩ = some (.int .i64 fv) := cellB y2 rfl
  refine bodyPost_ret (v := .tuple #[.agg #[.string fk, .int .i64 fv], .bool o2.isSome]) (by simp [results, Try.results82, go_sem, hc0, hc1]) rfl ?_
  exact ⟨rfl, (hB.setCell (p := ⟨w.heap.size, 0, none⟩) (Nat.le_refl _) _).setCell (p := ⟨w.heap.size, 1, none⟩) (Nat.le_refl _) _⟩

end Go.Proofs.Ytkobiimkaimbaaa
