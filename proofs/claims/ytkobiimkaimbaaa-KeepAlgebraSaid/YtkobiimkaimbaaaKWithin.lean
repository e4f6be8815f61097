/-
  Get of a map of no values, Has and Within of sets in memory; the law's same.
-/
import Derived.Test.YtkobiimkaimbaaaKSetB
import Derived.Test.YtkobiimkaimbaaaKList
namespace Go.Proofs.Ytkobiimkaimbaaa
open Go.RowKit Go.Shelf
attribute [local go_sem] Oper.semAt_some
set_option linter.unusedVariables false

/-- Is a key in a tree? -/
def Tr.hasK {K V : Type} [KOrd K] (t : Tr K V) (k : K) : Bool := match Tr.find t k with
  | .nil => false
  | .node _ _ _ _ => true
theorem hasK_eq {K V : Type} [KOrd K] [DecidableEq K] {t : Tr K V} {k : K} (h : Srt t.toL) : t.hasK k = decide (k ∈ t.keys) := by
  have := Tr.mem_find (x := k) h
  unfold Tr.hasK
  split <;> rename_i e <;> rw [e] at this <;> simp at this <;> simp [this]

set_option maxRecDepth 100000 in
set_option maxHeartbeats 1600000 in
theorem mgetU {w : World} {p : Option Addr} {t : Tr Int Unit} (k : Int) (h : IsTU w (.pointer p) t) :
    Calls Try.prog 93 #[.agg #[.pointer p], .int .i64 k] w fun e w' => e = .returned (.tuple #[.agg #[], .bool (t.hasK k)]) ∧ Below w.heap.size w w' := by
  have b0 : Below w.heap.size w ((w.alloc (.cells #[.pointer p] 58)).alloc (.cells #[] 128)) := ((Below.refl _ _).alloc (Nat.le_refl _) _).alloc (by simp) _
  have h' := h.below b0
  have HB := Lib.hid b0
  clear h b0
  go_enter Try.func93, Try.ntmps93
  go_wp2_with fail
  refine (findU k h').mono ?_
  rintro e w1 ⟨pf, rfl, tf, rfl⟩
  go_wp2_with fail
  refine (toldU tf).mono ?_
  rintro e w2 ⟨rfl, u2⟩
  have HU := Lib.hid (HB.out.trans (u2.mono HB.out.size))
  clear u2 tf
  cases hf : Tr.find t k with
  | nil =>
    have HE := Lib.hid (show t.hasK k = false by unfold Tr.hasK; rw [hf])
    clear hf
    simp only [toldVU]
    go_wp2_with fail
    refine bodyPost_ret (v := .tuple #[.agg #[], .bool false]) (by simp [results, Try.results93, go_sem]) rfl ⟨by rw [HE.out], HU.out.alloc HU.out.size _⟩
  | node fl fk fx fr =>
    have HE := Lib.hid (show t.hasK k = true by unfold Tr.hasK; rw [hf])
    clear hf
    simp only [toldVU]
    go_wp2_with fail
    refine bodyPost_ret (v := .tuple #[.agg #[], .bool true]) (by simp [results, Try.results93, go_sem]) rfl ⟨by rw [HE.out], HU.out.alloc HU.out.size _⟩

set_option maxRecDepth 100000 in
set_option maxHeartbeats 1600000 in
theorem shas {w : World} {p : Option Addr} {t : Tr Int Unit} (k : Int) (h : IsTU w (.pointer p) t) :
    Calls Try.prog 35 #[.agg #[.pointer p], .int .i64 k] w fun e w' => e = .returned (.bool (t.hasK k)) ∧ Below w.heap.size w w' := by
  have b0 : Below w.heap.size w (w.alloc (.cells #[.pointer p] SetT)) := (Below.refl _ _).alloc (Nat.le_refl _) _
  have h' := h.below b0
  have HB := Lib.hid b0
  clear h b0
  go_enter Try.func35, Try.ntmps35
  go_wp2_with fail
  refine (mgetU k h').mono ?_
  rintro e w1 ⟨rfl, u1⟩
  have HU := Lib.hid (HB.out.trans (u1.mono HB.out.size))
  clear u1
  go_wp2_with fail
  go_returns
  exact ⟨rfl, HU.out.alloc HU.out.size _⟩

theorem keeps_below {W W' : World} (h : Below W.heap.size W W') : KeepsOthers W W' := ⟨h.size, fun k o hk _ => (h.block k (Array.getElem?_eq_some_iff.1 hk).1).trans hk⟩

/-- What is of the caller's own while Within goes over a set. -/
def WIn (w0 : World) (L : Nat) (q : Option Addr) (b : Bool) (W : World) : Prop :=
  W.heap[L]? = some (Obj.cells #[.pointer q] SetT) ∧ W.heap[L + 1]? = some (Obj.cells #[.bool b] 4) ∧ Below w0.heap.size w0 W
theorem WIn.own {α : Type} {w0 : World} {L : Nat} {q : Option Addr} {b : Bool} (p : α → Prop) {B : Nat} (hB : w0.heap.size ≤ B) : OwnFrom B (fun (pre : α) W => p pre ∧ WIn w0 L q b W) := by
  have kept : ∀ (W W' : World) (row : Option Nat) (j : Nat) (cs : Array Value) (T : TypeId), W.grownBy W' row → (∀ r, row = some r → B ≤ r ∧ ∃ o : Obj, W.heap[r]? = some o ∧ o.isCells = false) → W.heap[j]? = some (Obj.cells cs T) → W'.heap[j]? = some (Obj.cells cs T) := by
    intro W W' row j cs T hg hr h1
    rw [hg.block j (Array.getElem?_eq_some_iff.1 h1).1 (fun e => ?_)]
    · exact h1
    · obtain ⟨_, o, ho, hn⟩ := hr j e.symm
      rw [h1] at ho
      cases ho
      simp [Obj.isCells] at hn
  intro s W W' row ⟨hp, h1, h2, h3⟩ hg hr
  exact ⟨hp, kept W W' row _ _ _ hg hr h1, kept W W' row _ _ _ hg hr h2, h3.grown hg h3.size (fun k e => Nat.le_trans hB (hr k e).1)⟩

set_option maxRecDepth 100000 in
set_option maxHeartbeats 3200000 in
theorem swithin {w : World} {p q : Option Addr} {x y : Tr Int Unit} (hx : IsTU w (.pointer p) x) (hy : IsTU w (.pointer q) y) :
    CallsIn Fence.wide 3 Try.prog 37 #[.agg #[.pointer p], .agg #[.pointer q]] w fun e w' => e = .returned (.bool (x.toL.all fun a => y.hasK a.1)) ∧ Below w.heap.size w w' := by
  have bA : Below w.heap.size w (((w.alloc (.cells #[.pointer p] SetT)).alloc (.cells #[.pointer q] SetT)).alloc (.cells #[.bool false] 4)) := (((Below.refl _ _).alloc (Nat.le_refl _) _).alloc (by simp) _).alloc (by simp; omega) _
  have z1 : (((w.alloc (.cells #[.pointer p] SetT)).alloc (.cells #[.pointer q] SetT)).alloc (.cells #[.bool false] 4)).heap[w.heap.size + 1]? = some (Obj.cells #[.pointer q] SetT) := by
    rw [(((Below.refl _ _).alloc (Nat.le_refl _) (.cells #[.bool false] 4) : Below ((w.alloc (.cells #[.pointer p] SetT)).alloc (.cells #[.pointer q] SetT)).heap.size _ _)).block _ (by simp)]
    have e : w.heap.size + 1 = (w.alloc (.cells #[.pointer p] SetT)).heap.size := by simp
    rw [e]; exact heap_alloc_new _ _
  have z2 : (((w.alloc (.cells #[.pointer p] SetT)).alloc (.cells #[.pointer q] SetT)).alloc (.cells #[.bool false] 4)).heap[w.heap.size + 2]? = some (Obj.cells #[.bool false] 4) := by
    have e : w.heap.size + 2 = ((w.alloc (.cells #[.pointer p] SetT)).alloc (.cells #[.pointer q] SetT)).heap.size := by simp
    rw [e]; exact heap_alloc_new _ _
  have HBA := Lib.hid bA
  have HZ1 := Lib.hid z1
  have HZ2 := Lib.hid z2
  have HX := Lib.hid hx
  have HY := Lib.hid hy
  clear bA z1 z2 hx hy
  refine callsIn_of_wp_marks Try.func37 rfl trivial ?_ rfl
  simp only [Try.ntmps37, List.size_toArray, List.length_cons, List.length_nil, Nat.reduceAdd, Nat.reduceSub, Array.replicate_succ, Array.replicate_zero, List.push_toArray, List.append_toArray, List.nil_append, List.cons_append]
  gi_wp2_with fail
  generalize (((w.alloc (.cells #[.pointer p] SetT)).alloc (.cells #[.pointer q] SetT)).alloc (.cells #[.bool false] 4)) = W0 at *
  refine ⟨trivial, (callsIn_wide.2 (mallU p _)).mono ?_⟩
  rintro e w3 ⟨rfl, rfl⟩
  have bM : Below W0.heap.size W0 (W0.alloc (.cells #[.pointer p] 58)) := (Below.refl _ _).alloc (Nat.le_refl _) _
  have hbt : (W0.alloc (.cells #[.pointer p] 58)).heap[W0.heap.size]? = some (Obj.cells #[.pointer p] 58) := heap_alloc_new _ _
  have HBT := Lib.hid hbt
  have HW := Lib.hid (show WIn w (w.heap.size + 1) q false (W0.alloc (.cells #[.pointer p] 58)) from ⟨Hold.below bM _ _ HZ1.out, Hold.below bM _ _ HZ2.out, HBA.out.trans (bM.mono HBA.out.size)⟩)
  have hsz : w.heap.size + 2 < (W0.alloc (.cells #[.pointer p] 58)).heap.size := (Array.getElem?_eq_some_iff.1 (Hold.below bM _ _ HZ2.out)).1
  clear bM hbt
  gi_wp2_with fail
  generalize (W0.alloc (.cells #[.pointer p] 58)) = W3 at *
  have hw3 : w.heap.size ≤ W3.heap.size := HW.out.2.2.size
  refine wpIn_rangeFunc_ownF rfl (by decide) (gf := 124) (lb := #[.pointer (some ⟨W0.heap.size, 0, none⟩)]) rfl trivial (enters_of Try.func124 (by kernel_rfl) rfl)
    (stopsU 2 W0.heap.size p x w W3 HW.out.2.2 (cellB HBT.out rfl) HX.out) belowK_t (belowK_b hw3) (Below.refl _ _) (fun _ => rfl)
    (fun pre W => (∀ a ∈ pre, y.hasK a.1 = true) ∧ WIn w (w.heap.size + 1) q false W) (fun c pre W => (c = Code.ret ∧ ∃ a ∈ pre, y.hasK a.1 = false) ∧ WIn w (w.heap.size + 1) q false W) (WIn.own _ hw3) (fun c => WIn.own _ hw3) ⟨by simp, HW.out⟩
    ?a1 ?assign ?body ?done ?stop
  case assign =>
    intro l x W' K hK
    gi_wp2
    exact hK
  case stop =>
    rintro D c pre W' hD hpre ⟨⟨rfl, a, ha, hf⟩, h1, h2, h3⟩ hK
    have x1 : W'.cell? ⟨w.heap.size + 1 + 1, 0, none⟩ = some (.bool false) := cellB h2 rfl
    have HK := Lib.hid hK
    have HB3 := Lib.hid h3
    have hall : (x.toL.all fun a => y.hasK a.1) = false := by
      rw [List.all_eq_false]
      exact ⟨a, hpre.subset ha, by simp [hf]⟩
    have HALL := Lib.hid hall
    clear hK h1 h2 h3 hall ha hf hpre
    gi_wp2
    refine ⟨by simp, .inl ⟨_, _, rfl, run_takeDeferred HK.out, ?_⟩⟩
    have x9 : (W'.putObj D (.deferred none)).cell? ⟨w.heap.size + 1 + 1, 0, none⟩ = some (.bool false) := cell_kept x1 (grownBy_putObj' W' D _) (fun r e => by cases e; exact ⟨_, HK.out, rfl⟩)
    refine ⟨.bool false, by simp [results, Try.f37, go_sem, x9], by rw [HALL.out], HB3.out.grown (grownBy_putObj' W' D _) HB3.out.size (fun k e => by cases e; omega)⟩
  case body =>
    rintro l pre a W' ⟨hp, h1, h2, h3⟩ hlt
    have HP := Lib.hid hp
    have HY' := Lib.hid (HY.out.below h3)
    have x1 : W'.cell? ⟨w.heap.size + 1, 0, none⟩ = some (.pointer q) := cellB h1 rfl
    have x2 : W'.cell? ⟨w.heap.size + 1 + 1, 0, none⟩ = some (.bool false) := cellB h2 rfl
    have f2 : W'.frozen? ⟨w.heap.size + 1 + 1, 0, none⟩ = false := frozenB h2
    have H1 := Lib.hid h1
    have H2 := Lib.hid h2
    have H3 := Lib.hid h3
    clear hp h1 h2 h3
    have hh := Lib.hid ((show CallsIn Fence.wide 0 _ _ _ _ _ from callsIn_wide.2 (shas a.1 HY'.out)).inRound l)
    gi_wp2_with fail
    refine ⟨trivial, hh.out.mono ?_⟩
    rintro e w5 ⟨rfl, u5⟩
    have HKO := Lib.hid (keeps_below u5)
    have H15 := Lib.hid (Hold.below u5 _ _ H1.out)
    have H25 := Lib.hid (Hold.below u5 _ _ H2.out)
    have H35 := Lib.hid (u5.mono H3.out.size)
    have x5 : w5.cell? ⟨w.heap.size + 1 + 1, 0, none⟩ = some (.bool false) := bcellAt u5 x2
    have f5 : w5.frozen? ⟨w.heap.size + 1 + 1, 0, none⟩ = false := bfrozenAt u5 x2 f2
    clear u5 x1 x2 f2 hh
    cases hc : y.hasK a.1
    · have HC := Lib.hid hc
      clear hc
      gi_wp2_with fail
      exact ⟨HKO.out.trans (KeepsOthers.setCell _ _ _), ⟨rfl, a, by simp, HC.out⟩, (heap_setCell_other w5 _ _ _ (by simp)).trans H15.out, setCellB H25.out, (H3.out.trans H35.out).setCell (p := ⟨w.heap.size + 1 + 1, 0, none⟩) (by simp; omega) _⟩
    · have HC := Lib.hid hc
      clear hc
      gi_wp2_with fail
      exact ⟨HKO.out, H35.out, fun b hb => (List.mem_append.1 hb).elim (HP.out b) (fun h => by rw [List.mem_singleton.1 h]; exact HC.out), H15.out, H25.out, H3.out.trans H35.out⟩
  case done =>
    rintro D ys W' hD rfl ⟨hp, h1, h2, h3⟩ hK
    have x2 : W'.cell? ⟨w.heap.size + 1 + 1, 0, none⟩ = some (.bool false) := cellB h2 rfl
    have f2 : W'.frozen? ⟨w.heap.size + 1 + 1, 0, none⟩ = false := frozenB h2
    have HK := Lib.hid hK
    have HB3 := Lib.hid h3
    have H2 := Lib.hid h2
    have hall : (x.toL.all fun a => y.hasK a.1) = true := by
      rw [List.all_eq_true]
      exact fun a ha => hp a ha
    have HALL := Lib.hid hall
    clear hK h1 h2 h3 hall hp
    gi_wp2
    have hne : D ≠ w.heap.size + 1 + 1 := fun e => by
      have h := HK.out
      rw [e, H2.out] at h
      cases h
    have hD2 : (W'.setCell ⟨w.heap.size + 1 + 1, 0, none⟩ (.bool true)).heap[D]? = some (.deferred (some [])) := (heap_setCell_other W' _ D _ hne).trans HK.out
    have x8 : (W'.setCell ⟨w.heap.size + 1 + 1, 0, none⟩ (.bool true)).cell? ⟨w.heap.size + 1 + 1, 0, none⟩ = some (.bool true) := World.cell?_setCell_same' _ _ _ (by rw [x2]; rfl)
    have hB8 := HB3.out.setCell (p := ⟨w.heap.size + 1 + 1, 0, none⟩) (by simp; omega) (.bool true)
    refine ⟨by simp, .inl ⟨_, _, rfl, run_takeDeferred hD2, ?_⟩⟩
    have x9 : ((W'.setCell ⟨w.heap.size + 1 + 1, 0, none⟩ (.bool true)).putObj D (.deferred none)).cell? ⟨w.heap.size + 1 + 1, 0, none⟩ = some (.bool true) := cell_kept x8 (grownBy_putObj' _ D _) (fun r e => by cases e; exact ⟨_, hD2, rfl⟩)
    refine ⟨.bool true, by simp [results, Try.f37, go_sem, x9], by rw [HALL.out], hB8.grown (grownBy_putObj' _ D _) hB8.size (fun k e => by cases e; omega)⟩

theorem slistK {w : World} {p : Option Addr} {t : Tr Int Unit} (h : IsTU w (.pointer p) t) (hs : t.size < 100000) :
    Calls Try.prog 40 #[.agg #[.pointer p]] w fun e w' => ∃ v, e = .returned v ∧ w'.ownsRow w.heap.size 3 1 v t.keys.length (ints t.keys) ∧ Below w.heap.size w w' := by
  have e : t.keys.length = t.toL.length := by simp [Tr.keys, keysOf]
  rw [e]
  exact callsIn_wide.1 (slist h hs)
theorem keys_len (t : Tr Int Unit) : t.keys.length = t.size := by rw [← Tr.size_toL]; simp [Tr.keys, keysOf]

set_option maxRecDepth 100000 in
set_option maxHeartbeats 1600000 in
/-- The law's same, of two sets with the same keys. -/
theorem lsame {w : World} {p q : Option Addr} {x y : Tr Int Unit} (hx : IsTU w (.pointer p) x) (hy : IsTU w (.pointer q) y) (hk : x.keys = y.keys) (hs : x.size < 100000) :
    Calls Try.prog 46 #[.agg #[.pointer p], .agg #[.pointer q]] w fun e w' => e = .returned (.bool true) ∧ Below w.heap.size w w' := by
  have b0 : Below w.heap.size w ((w.alloc (.cells #[.pointer p] SetT)).alloc (.cells #[.pointer q] SetT)) := ((Below.refl _ _).alloc (Nat.le_refl _) _).alloc (by simp) _
  have z0 : ((w.alloc (.cells #[.pointer p] SetT)).alloc (.cells #[.pointer q] SetT)).cell? ⟨w.heap.size, 0, none⟩ = some (.pointer p) := by
    refine cellB (j := 0) (T := SetT) (cs := #[.pointer p]) ?_ rfl
    rw [(((Below.refl _ _).alloc (Nat.le_refl _) (.cells #[.pointer q] SetT) : Below (w.alloc (.cells #[.pointer p] SetT)).heap.size _ _)).block _ (by simp)]; exact heap_alloc_new _ _
  have z1 : ((w.alloc (.cells #[.pointer p] SetT)).alloc (.cells #[.pointer q] SetT)).cell? ⟨w.heap.size + 1, 0, none⟩ = some (.pointer q) := by
    refine cellB (j := 0) (T := SetT) (cs := #[.pointer q]) ?_ rfl
    have e : w.heap.size + 1 = (w.alloc (.cells #[.pointer p] SetT)).heap.size := by simp
    rw [e]; exact heap_alloc_new _ _
  have hs' : y.size < 100000 := by rw [← keys_len, ← hk, keys_len]; exact hs
  have hlen : x.keys.length < 1000000 := by rw [keys_len]; omega
  have HB := Lib.hid b0
  have HX := Lib.hid (hx.below b0)
  have HY := Lib.hid (hy.below b0)
  have HK := Lib.hid hk
  have HLN := Lib.hid hlen
  clear hx hy hk hlen b0
  go_enter Try.func46, Try.ntmps46
  go_wp2_with fail
  generalize ((w.alloc (.cells #[.pointer p] SetT)).alloc (.cells #[.pointer q] SetT)) = W at *
  have hk : ∀ w' : World, Below W.heap.size W w' → w'.cell? ⟨w.heap.size, 0, none⟩ = some (.pointer p) ∧ w'.cell? ⟨w.heap.size + 1, 0, none⟩ = some (.pointer q) ∧ Below W.heap.size W w' := fun w' hb => ⟨bcellAt hb z0, bcellAt hb z1, hb⟩
  have HKK := Lib.hid hk
  clear hk
  go_region_held3 (fun w' => w'.cell? ⟨w.heap.size, 0, none⟩ = some (.pointer p) ∧ w'.cell? ⟨w.heap.size + 1, 0, none⟩ = some (.pointer q) ∧ Below W.heap.size W w') ((refine HKK.out _ ?_; first | exact bdd _ _ | exact bd _ | exact (bmore (by first | assumption | exact bdn _ _ | exact bd _ | exact Below.refl _ _) u1) | exact (bmore (bmore (by first | assumption | exact bdn _ _ | exact bd _ | exact Below.refl _ _) u1) u2) | exact (bmore (bmore (by first | assumption | exact bdn _ _ | exact bd _ | exact Below.refl _ _) u1) u2).trans ((Drew.below u3).mono (bmore (bmore (by first | assumption | exact bdn _ _ | exact bd _ | exact Below.refl _ _) u1) u2).size)))
    ((first
      | ((with_reducible refine (slistK (HX.out.below (by first | assumption | exact bdn _ _ | exact bd _ | exact Below.refl _ _)) hs).mono ?_); rintro e w1 ⟨v1, rfl, o1, u1⟩)
      | ((with_reducible refine (slistK (HY.out.below (bmore (by first | assumption | exact bdn _ _ | exact bd _ | exact Below.refl _ _) u1)) hs').mono ?_); rintro e w2 ⟨v2, rfl, o2, u2⟩)
      | ((with_reducible refine (ints_same ((row_of_own o1).below u2) (by have := row_of_own o2; rw [← HK.out] at this; exact this) HLN.out).mono ?_); rintro e w3 ⟨rfl, u3⟩)))
  go_wp2_with fail
  go_ret
  exact ⟨rfl, HB.out.trans (((bmore (bmore (by first | assumption | exact bdn _ _ | exact bd _ | exact Below.refl _ _) u1) u2).trans ((Drew.below u3).mono (bmore (bmore (by first | assumption | exact bdn _ _ | exact bd _ | exact Below.refl _ _) u1) u2).size)).mono HB.out.size)⟩

end Go.Proofs.Ytkobiimkaimbaaa
