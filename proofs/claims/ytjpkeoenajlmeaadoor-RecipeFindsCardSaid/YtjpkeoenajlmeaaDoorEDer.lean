/-
  Sees, Given, Derives.
  Derives answers what is derived.
  What is derived: a key; what a key signs; what shows; plain.
-/
import Derived.Test.YtjpkeoenajlmeaaDoorERules
namespace Go.Proofs.YtjpkeoenajlmeaaDoor
open Go.RowKit Go.Maps
set_option linter.unusedVariables false

section
variable {w : World} {B a b : Nat} {v : Value} {p : Pl} {B2 k : Nat} {gv : Value} {mb : Nat} {g : List Int} {s : Int → Option Way}
set_option maxRecDepth 100000 in
set_option maxHeartbeats 1600000 in
theorem sees_raw (c2 : w.cell? ⟨k, 2, none⟩ = some (.map (some mb))) (hs : SeenM w mb p g s) {t : Int} (ht : i64R t) : Calls Tryd.prog 54 #[.pointer (some ⟨k, 0, none⟩), .int .i64 t] w fun e w' => e = .returned (.bool (s t).isSome) ∧ Below w.heap.size w w' := by
  have hr := hs.look ht
  clear hs ht
  generalize (s t).isSome = sb at *
  generalize (s t).getD (0, 0) = sz at *
  obtain ⟨z1, z2⟩ := sz
  simp only [wayV] at hr
  go_enter Tryd.func54, Tryd.ntmps54
  go_wp2_with fail
  go_returns
  exact ⟨rfl, bA0 _ _⟩
theorem sees_any (h : IsKnow w B2 k gv mb a p g s) {t : Int} (ht : i64R t) : Calls Tryd.prog 54 #[.pointer (some ⟨k, 0, none⟩), .int .i64 t] w fun e w' => e = .returned (.bool (s t).isSome) ∧ Below w.heap.size w w' :=
  sees_raw (cellB h.lay rfl) h.seen ht

/-- What a call of Derives answers. -/
def DerC (B a b : Nat) (v : Value) (p : Pl) (B2 k : Nat) (gv : Value) (mb : Nat) (g : List Int) (s : Int → Option Way) (D : Int → Bool) (t : Int) : Prop :=
  ∀ w, IsPool w B a b v p → IsKnow w B2 k gv mb a p g s → Calls Tryd.prog 23 #[.pointer (some ⟨k, 0, none⟩), .int .i64 t] w fun e w' => e = .returned (.bool (D t)) ∧ Below w.heap.size w w'
set_option maxRecDepth 100000 in
set_option maxHeartbeats 6400000 in
theorem derives_step {D : Int → Bool} {t : Int} (ht : i64R t) (h1 : (partP p (atP p t).1).2.2 = true → DerC B a b v p B2 k gv mb g s D (partP p (atP p t).1).1) (h2 : (partP p (atP p t).1).2.2 = true → (partP p (atP p t).1).2.1 ≠ 0 → DerC B a b v p B2 k gv mb g s D (partP p (atP p t).1).2.1)
    (hD : D t = ((s t).isSome || (freeB (atP p t).1.kind || ((partP p (atP p t).1).2.2 && (D (partP p (atP p t).1).1 && ((partP p (atP p t).1).2.1 == 0 || D (partP p (atP p t).1).2.1)))))) : DerC B a b v p B2 k gv mb g s D t := by
  intro w hp hk
  have HN := Lib.hid (pnode hp t)
  have SE := Lib.hid (fun (W : World) (h : IsKnow W B2 k gv mb a p g s) => sees_any h ht)
  have FR := Lib.hid (fun (W : World) => free_any (atP p t).1 W)
  have PA := Lib.hid (fun (W : World) (h : IsPool W B a b v p) => parts_pool h (atP_nok h.nok t))
  have H1 := Lib.hid h1
  have H2 := Lib.hid h2
  have c0 : w.cell? ⟨k, 0, none⟩ = some (.pointer (some ⟨a, 0, none⟩)) := cellB hk.lay rfl
  have HP := Lib.hid hp
  have HK := Lib.hid hk
  have HD := Lib.hid hD
  clear h1 h2 hp hk hD ht
  generalize (s t).isSome = sb at *
  generalize partP p (atP p t).1 = pt at *
  generalize inP p t = ib at *
  generalize (atP p t).1 = n at *
  generalize D t = dt at *
  obtain ⟨pa, pb, pm⟩ := pt
  simp only at H1 H2 PA HD
  obtain ⟨kk, ff, tt, uu, ss, xa, xb⟩ := n
  generalize freeB (Nd.mk kk ff tt uu ss xa xb).kind = fb at *
  simp only [nodeA] at *
  go_enter Tryd.func23, Tryd.ntmps23
  go_wp2_with fail
  refine HN.out.mono ?_
  rintro e w1 ⟨rfl, u1⟩
  have b2 := bA0 w1 (.cells #[.int .i64 kk, .int .i64 ff, .int .i64 tt, .int .u64 uu, .string ss, .int .i64 xa, .int .i64 xb] NodeT)
  have hb : (w1.alloc (.cells #[.int .i64 kk, .int .i64 ff, .int .i64 tt, .int .u64 uu, .string ss, .int .i64 xa, .int .i64 xb] NodeT)).heap[w1.heap.size]? = some (Obj.cells #[.int .i64 kk, .int .i64 ff, .int .i64 tt, .int .u64 uu, .string ss, .int .i64 xa, .int .i64 xb] NodeT) := heap_alloc_new _ _
  have HU2 := Lib.hid (bmore u1 b2)
  have HB := Lib.hid hb
  have y0 := cellB (j := 0) hb rfl
  have y1 := cellB (j := 1) hb rfl
  have y2 := cellB (j := 2) hb rfl
  have y3 := cellB (j := 3) hb rfl
  have y4 := cellB (j := 4) hb rfl
  have y5 := cellB (j := 5) hb rfl
  have y6 := cellB (j := 6) hb rfl
  clear u1 b2 hb
  go_wp2_with fail
  generalize (w1.alloc (.cells #[.int .i64 kk, .int .i64 ff, .int .i64 tt, .int .u64 uu, .string ss, .int .i64 xa, .int .i64 xb] NodeT)) = W at *
  generalize w1.heap.size = nb at *
  refine (SE.out _ (HK.out.below HU2.out)).mono ?_
  rintro e w2 ⟨rfl, u2⟩
  have HB2 := Lib.hid (Hold.below u2 _ _ HB.out)
  have HU3 := Lib.hid (bmore HU2.out u2)
  replace y0 := bcellAt u2 y0
  replace y1 := bcellAt u2 y1
  replace y2 := bcellAt u2 y2
  replace y3 := bcellAt u2 y3
  replace y4 := bcellAt u2 y4
  replace y5 := bcellAt u2 y5
  replace y6 := bcellAt u2 y6
  clear u2
  cases sb with
  | true =>
    have hdt : dt = true := by rw [HD.out]; rfl
    subst hdt
    go_wp2_with fail
    go_returns
    exact ⟨rfl, HU3.out⟩
  | false =>
    simp only [Bool.false_or] at HD
    go_wp2_with fail
    refine (FR.out _).mono ?_
    rintro e w3 ⟨rfl, u3⟩
    have HU4 := Lib.hid (bmore HU3.out u3)
    have HB3 := Lib.hid (Hold.below u3 _ _ HB2.out)
    clear u3 y0 y1 y2 y3 y4 y5 y6
    cases fb with
    | true =>
      have hdt : dt = true := by rw [HD.out]; rfl
      subst hdt
      go_wp2_with fail
      go_returns
      exact ⟨rfl, HU4.out⟩
    | false =>
      simp only [Bool.false_or] at HD
      have HP3 := Lib.hid (HP.out.below HU4.out)
      have HK3 := Lib.hid (HK.out.below HU4.out)
      replace c0 := bcellAt HU4.out c0
      have hb3 := HB3.out
      have y0 := cellB (j := 0) hb3 rfl
      have y1 := cellB (j := 1) hb3 rfl
      have y2 := cellB (j := 2) hb3 rfl
      have y3 := cellB (j := 3) hb3 rfl
      have y4 := cellB (j := 4) hb3 rfl
      have y5 := cellB (j := 5) hb3 rfl
      have y6 := cellB (j := 6) hb3 rfl
      clear hb3
      have hkp : ∀ V : World, Below w3.heap.size w3 V → V.cell? ⟨k, 0, none⟩ = some (.pointer (some ⟨a, 0, none⟩)) ∧ V.cell? ⟨nb, 0, none⟩ = some (.int .i64 kk) ∧ V.cell? ⟨nb, 1, none⟩ = some (.int .i64 ff) ∧ V.cell? ⟨nb, 2, none⟩ = some (.int .i64 tt) ∧ V.cell? ⟨nb, 3, none⟩ = some (.int .u64 uu) ∧ V.cell? ⟨nb, 4, none⟩ = some (.string ss) ∧ V.cell? ⟨nb, 5, none⟩ = some (.int .i64 xa) ∧ V.cell? ⟨nb, 6, none⟩ = some (.int .i64 xb) ∧ Below w3.heap.size w3 V := fun V hV => ⟨bcellAt hV c0, bcellAt hV y0, bcellAt hV y1, bcellAt hV y2, bcellAt hV y3, bcellAt hV y4, bcellAt hV y5, bcellAt hV y6, hV⟩
      have HKP := Lib.hid hkp
      clear hkp
      go_wp2_with fail
      go_region_held3 (fun w' => w'.cell? ⟨k, 0, none⟩ = some (.pointer (some ⟨a, 0, none⟩)) ∧ w'.cell? ⟨nb, 0, none⟩ = some (.int .i64 kk) ∧ w'.cell? ⟨nb, 1, none⟩ = some (.int .i64 ff) ∧ w'.cell? ⟨nb, 2, none⟩ = some (.int .i64 tt) ∧ w'.cell? ⟨nb, 3, none⟩ = some (.int .u64 uu) ∧ w'.cell? ⟨nb, 4, none⟩ = some (.string ss) ∧ w'.cell? ⟨nb, 5, none⟩ = some (.int .i64 xa) ∧ w'.cell? ⟨nb, 6, none⟩ = some (.int .i64 xb) ∧ Below w3.heap.size w3 w') ((refine HKP.out _ ?_; first | exact bdd _ _ | exact bd _ | exact bmore (by first | assumption | exact bdn _ _ | exact bd _ | exact Below.refl _ _) u1))
        (((with_reducible refine (PA.out _ (HP3.out.below (by first | assumption | exact bdn _ _ | exact bd _ | exact Below.refl _ _))).mono ?_); rintro e w4 ⟨rfl, u1⟩))
      have hz := bmore (bd w3) u1
      have HP4 := Lib.hid (HP3.out.below hz)
      have HK4 := Lib.hid (HK3.out.below hz)
      have HU5 := Lib.hid (bmore HU4.out hz)
      clear hz u1 y0 y1 y2 y3 y4 y5 y6 c0
      cases pm with
      | false =>
        have hdt : dt = false := by rw [HD.out]; rfl
        subst hdt
        go_wp2_with fail
        go_returns
        exact ⟨rfl, HU5.out⟩
      | true =>
        simp only [Bool.true_and] at HD
        have H1' := Lib.hid (H1.out rfl)
        have H2' := Lib.hid (H2.out rfl)
        clear H1 H2
        unfold DerC at H1'
        generalize D pa = da at *
        go_wp2_with fail
        refine (H1'.out _ HP4.out HK4.out).mono ?_
        rintro e w5 ⟨rfl, u5⟩
        have HP5 := Lib.hid (HP4.out.below u5)
        have HK5 := Lib.hid (HK4.out.below u5)
        have HU6 := Lib.hid (bmore HU5.out u5)
        clear u5
        cases da with
        | false =>
          have hdt : dt = false := by rw [HD.out]; rfl
          subst hdt
          go_wp2_with fail
          go_returns
          exact ⟨rfl, HU6.out⟩
        | true =>
          simp only [Bool.true_and] at HD
          by_cases hpb : pb = 0
          · subst hpb
            have hdt : dt = true := by rw [HD.out]; rfl
            subst hdt
            go_wp2_with fail
            go_returns
            exact ⟨rfl, HU6.out⟩
          · have hpb' := ebF hpb
            rw [hpb', Bool.false_or] at HD
            have H3 := Lib.hid (H2'.out hpb)
            unfold DerC at H3
            generalize D pb = db at *
            have hdt := HD.out
            subst hdt
            go_wp2_with fail
            refine (H3.out _ HP5.out HK5.out).mono ?_
            rintro e w6 ⟨rfl, u6⟩
            have HU7 := Lib.hid (bmore HU6.out u6)
            clear u6
            go_wp2_with fail
            go_returns
            exact ⟨rfl, HU7.out⟩
end
end Go.Proofs.YtjpkeoenajlmeaaDoor
namespace Go.Proofs.YtjpkeoenajlmeaaDoor
open Go.RowKit Go.Maps
set_option linter.unusedVariables false

/-- Whether a term is derived, where s is what is seen. -/
noncomputable def derB (p : Pl) (s : Int → Option Way) (t : Int) : Bool := @decide (Der p (fun x => (s x).isSome = true) t) (Classical.propDecidable _)
theorem derB_iff {p : Pl} {s : Int → Option Way} {t : Int} : derB p s t = true ↔ Der p (fun x => (s x).isSome = true) t := by
  unfold derB
  exact @decide_eq_true_iff _ (Classical.propDecidable _)
theorem derB_no {p : Pl} {s : Int → Option Way} {t : Int} : derB p s t = false ↔ ¬ Der p (fun x => (s x).isSome = true) t := by
  rw [← derB_iff]; simp
theorem derB_eq (p : Pl) (s : Int → Option Way) (t : Int) : derB p s t = ((s t).isSome || (freeB (atP p t).1.kind || ((partP p (atP p t).1).2.2 && (derB p s (partP p (atP p t).1).1 && ((partP p (atP p t).1).2.1 == 0 || derB p s (partP p (atP p t).1).2.1))))) := by
  rw [Bool.eq_iff_iff]
  simp only [Bool.or_eq_true, Bool.and_eq_true, beq_iff_eq, derB_iff]
  constructor
  · intro h
    cases h with
    | seen h => exact .inl h
    | free h => exact .inr (.inl h)
    | one h1 h2 h3 => exact .inr (.inr ⟨h1, h3, .inl h2⟩)
    | two h1 h2 h3 h4 => exact .inr (.inr ⟨h1, h3, .inr h4⟩)
  · rintro (h | h | ⟨h1, h2, h3⟩)
    · exact .seen h
    · exact .free h
    · by_cases h0 : (partP p (atP p t).1).2.1 = 0
      · exact .one h1 h0 h2
      · exact .two h1 h0 h2 (h3.resolve_left h0)
/-- A term that is made is one of the pool. -/
theorem made_in {p : Pl} {t : Int} (h : (partP p (atP p t).1).2.2 = true) : inP p t = true := by
  cases hin : inP p t with
  | true => rfl
  | false => rw [atP_out hin] at h; cases h
/-- The parts of a term that is made: less than it, or 0, or its key. -/
theorem part_cases {p : Pl} (hp : Ok p) {t : Int} (h : (partP p (atP p t).1).2.2 = true) : ((partP p (atP p t).1).1 = 0 ∨ (inP p (partP p (atP p t).1).1 = true ∧ (partP p (atP p t).1).1 < t)) ∧
    ((partP p (atP p t).1).2.1 = 0 ∨ (inP p (partP p (atP p t).1).2.1 = true ∧ ((partP p (atP p t).1).2.1 < t ∨ (atP p (partP p (atP p t).1).2.1).1.kind = 6))) := by
  obtain ⟨ha, hb⟩ := kid_less hp (made_in h)
  revert h
  unfold partP
  split
  · exact fun _ => ⟨ha, hb.imp id fun x => ⟨x.1, .inl x.2⟩⟩
  · split
    · exact fun _ => ⟨ha, .inl rfl⟩
    · split
      · intro h
        have h0 : keyP p (atP p t).1 ≠ 0 := by simpa using h
        refine ⟨ha, .inr ⟨?_, .inr ?_⟩⟩
        · obtain ⟨i, hi, h1, _⟩ := numP_some h0
          show inP p ((numP p (keyNd (holdN (atP p t).1)) : Nat) : Int) = true
          rw [h1]; simp [inP]; omega
        · show (atP p (keyP p (atP p t).1 : Int)).1.kind = 6
          rw [key_kind h0]; rfl
      · intro h; cases h
theorem part_key {p : Pl} {n : Nd} (h : n.kind = 6) : (partP p n).2.2 = false := by
  simp [partP, h, showB]

section
variable {B a b : Nat} {v : Value} {p : Pl} {B2 k : Nat} {gv : Value} {mb : Nat} {g : List Int} {s : Int → Option Way}
theorem derives_leaf {t : Int} (ht : i64R t) (h : (partP p (atP p t).1).2.2 = false) : DerC B a b v p B2 k gv mb g s (derB p s) t :=
  derives_step ht (fun h' => by rw [h] at h'; cases h') (fun h' => by rw [h] at h'; cases h') (derB_eq p s t)
theorem derives_all (hp : Ok p) : ∀ (n : Nat) (t : Int), t.toNat < n → i64R t → DerC B a b v p B2 k gv mb g s (derB p s) t := by
  intro n
  induction n with
  | zero => intro t h; omega
  | succ n ih =>
    intro t hn ht
    cases hm : (partP p (atP p t).1).2.2 with
    | false => exact derives_leaf ht hm
    | true =>
      have hl := hp.len
      have hin := made_in hm
      have hin' := hin
      simp only [inP, Bool.and_eq_true, decide_eq_true_eq] at hin'
      obtain ⟨ha, hb⟩ := part_cases hp hm
      refine derives_step ht (fun _ => ?_) (fun _ h0 => ?_) (derB_eq p s t)
      · exact ih _ (by rcases ha with e | ⟨_, e⟩ <;> omega) (in_i64 hl (ha.imp id fun x => x.1))
      · obtain ⟨h1, h2 | h2⟩ := hb.resolve_left h0
        · exact ih _ (by omega) (in_i64 hl (.inr h1))
        · exact derives_leaf (in_i64 hl (.inr h1)) (part_key h2)
/-- Derives of every number. -/
theorem derives_any {w : World} (hp : IsPool w B a b v p) (hk : IsKnow w B2 k gv mb a p g s) {t : Int} (ht : i64R t) : Calls Tryd.prog 23 #[.pointer (some ⟨k, 0, none⟩), .int .i64 t] w fun e w' => e = .returned (.bool (derB p s t)) ∧ Below w.heap.size w w' :=
  derives_all hp.ok _ t (Nat.lt_succ_self _) ht w hp hk
end
end Go.Proofs.YtjpkeoenajlmeaaDoor
namespace Go.Proofs.YtjpkeoenajlmeaaDoor
set_option linter.unusedVariables false

theorem seen_der {p : Pl} {s : Int → Option Way} {t : Int} (h : (s t).isSome = true) : derB p s t = true := derB_iff.2 (.seen h)
theorem key_der {p : Pl} {s : Int → Option Way} {t : Int} (h : (atP p t).1.kind = 6) : derB p s t = (s t).isSome := by
  rw [derB_eq, part_key h, h]
  simp [freeB]
theorem show_part {p : Pl} {n : Nd} (h : n.kind = 7 ∨ n.kind = 8 ∨ n.kind = 9) : partP p n = (n.a, (keyP p n : Int), decide (keyP p n ≠ 0)) := by
  unfold partP
  rw [if_neg (by omega), if_neg (by omega), if_pos (by unfold showB; rcases h with h | h | h <;> rw [h] <;> rfl)]
theorem show_free {k : Int} (h : k = 7 ∨ k = 8 ∨ k = 9) : freeB k = false := by
  rcases h with h | h | h <;> rw [h] <;> rfl
theorem show_eq {p : Pl} {s : Int → Option Way} {t : Int} (h : (atP p t).1.kind = 7 ∨ (atP p t).1.kind = 8 ∨ (atP p t).1.kind = 9) :
    derB p s t = ((s t).isSome || (derB p s (atP p t).1.a && (decide (keyP p (atP p t).1 ≠ 0) && (s (keyP p (atP p t).1 : Int)).isSome))) := by
  rw [derB_eq, show_part h, show_free h]
  simp only [Bool.false_or]
  by_cases h0 : keyP p (atP p t).1 = 0
  · rw [decide_eq_false (by simpa using h0)]; simp
  · rw [decide_eq_true h0]
    have hk : (atP p (keyP p (atP p t).1 : Int)).1.kind = 6 := by rw [key_kind h0]; rfl
    rw [key_der hk, show ((keyP p (atP p t).1 : Int) == 0) = false by rw [beq_eq_false_iff_ne]; omega]
    simp
theorem show_der {p : Pl} {s : Int → Option Way} {t : Int} (h : (atP p t).1.kind = 7 ∨ (atP p t).1.kind = 8 ∨ (atP p t).1.kind = 9) (hk : (decide (keyP p (atP p t).1 ≠ 0) && (s (keyP p (atP p t).1 : Int)).isSome) = false) : derB p s t = (s t).isSome := by
  rw [show_eq h, hk]; simp
end Go.Proofs.YtjpkeoenajlmeaaDoor
