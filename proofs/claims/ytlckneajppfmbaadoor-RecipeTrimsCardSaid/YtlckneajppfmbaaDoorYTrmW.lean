/-
  No more than needed, as plain data: what is left of a run that makes all makes the same at its end.
  No more than needed: the walk of RecipeTrims.
-/
import Derived.Test.YtlckneajppfmbaaDoorYTrmR
import Derived.Test.YtlckneajppfmbaaDoorYLivW
namespace Go.Proofs.YtlckneajppfmbaaDoor
set_option linter.unusedVariables false

theorem runP_step (p : Pl) (g m : List Int) (o : OpP) (l : List OpP) : runP p g m (o :: l) = if (doP p g m o).2.1 ≠ 0 then (m, (doP p g m o).2.1, (doP p g m o).2.2) else runP (doP p g m o).2.2 g (m ++ [(doP p g m o).1]) l := rfl
theorem run_again {q : Pl} {g : List Int} {o : OpP} {t : Int} : ∀ (l : List OpP) (p : Pl) (m m' : List Int), runP p g m l = (m', 0, q) → doP q g m' o = (t, 0, q) → runP p g m (l ++ [o]) = (m' ++ [t], 0, q)
  | [], p, m, m', h, hd => by
    simp only [runP] at h
    cases h
    rw [List.nil_append, runP_step, if_neg (by rw [hd]; simp), hd]
    rfl
  | x :: l, p, m, m', h, hd => by
    rw [runP_step] at h
    by_cases he : (doP p g m x).2.1 ≠ 0
    · rw [if_pos he] at h
      have h2 := congrArg (fun x : List Int × Int × Pl => x.2.1) h
      exact absurd h2 he
    · rw [if_neg he] at h
      rw [List.cons_append, runP_step, if_neg he]
      exact run_again l _ _ _ h hd
/-- Each operation of a run that makes all. -/
def EachP (P : Pl) (g M : List Int) (l : List OpP) (k : Nat) : Prop :=
  ∀ i, i < l.length → ∃ q q' e t, Ok q ∧ doP q g (M.take (k + i)) (l.getD i zeroO) = (t, 0, q') ∧ P = q' ++ e ∧ (∀ x ∈ M.take (k + i), inP q x = true) ∧ M.getD (k + i) 0 = t ∧ (M.take (k + i)).length = k + i
theorem run_each {g : List Int} {M : List Int} {P : Pl} : ∀ (l : List OpP) (p : Pl) (m : List Int), Ok p → (∀ x ∈ g, inP p x = true) → (∀ x ∈ m, Der p (Reach p g) x) → runP p g m l = (M, 0, P) →
    Ok P ∧ (∃ e, P = p ++ e) ∧ (∃ made, M = m ++ made) ∧ M.length = m.length + l.length ∧ EachP P g M l m.length
  | [], p, m, hp, hg, hm, h => by
    simp only [runP] at h
    cases h
    exact ⟨hp, ⟨[], by simp⟩, ⟨[], by simp⟩, by simp, fun i hi => by simp at hi⟩
  | o :: l, p, m, hp, hg, hm, h => by
    rw [runP_step] at h
    by_cases he : (doP p g m o).2.1 ≠ 0
    · rw [if_pos he] at h
      have h2 := congrArg (fun x : List Int × Int × Pl => x.2.1) h
      exact absurd h2 he
    · rw [if_neg he] at h
      obtain ⟨e1, h1⟩ := (doP_out p g m o).1
      have hok : Ok (doP p g m o).2.2 := (doP_out p g m o).2 hp
      have hz : (doP p g m o).2.1 = 0 := by omega
      have hS : ∀ t, Reach p g t → inP p t = true ∧ Reach (p ++ e1) g t := fun t h => ⟨Reach.inp hp hg h, (reach_ext hp hg e1).2 h⟩
      obtain ⟨k1, ⟨e2, k2⟩, ⟨made, k3⟩, k4, k5⟩ := run_each l _ (m ++ [(doP p g m o).1]) hok (fun x hx => by rw [h1]; exact inP_le (hg x hx) (by simp)) (fun x hx => by
        rcases List.mem_append.1 hx with hx | hx
        · rw [h1]; exact der_ext hS (hm x hx)
        · rw [List.mem_singleton.1 hx]; exact do_sound hp hg hm hz) h
      have hM : M = m ++ ((doP p g m o).1 :: made) := by rw [k3, List.append_assoc]; rfl
      refine ⟨k1, ⟨e1 ++ e2, by rw [k2, h1, List.append_assoc]⟩, ⟨_, hM⟩, by rw [k4]; simp; omega, fun i hi => ?_⟩
      have hl : M.length = m.length + (l.length + 1) := by rw [k4]; simp; omega
      cases i with
      | zero =>
        have ht : M.take (m.length + 0) = m := by rw [hM]; simp
        refine ⟨p, (doP p g m o).2.2, e2, (doP p g m o).1, hp, ?_, k2, ?_, ?_, by rw [ht]; rfl⟩
        · rw [ht]
          show doP p g m o = ((doP p g m o).1, 0, (doP p g m o).2.2)
          rw [← hz]
        · rw [ht]; exact fun x hx => der_in (fun _ h => Reach.inp hp hg h) (hm x hx)
        · rw [hM, List.getD_eq_getElem?_getD, List.getElem?_append_right (by omega)]
          simp
      | succ i =>
        simp only [List.length_cons] at hi
        obtain ⟨q, q', e, t, a1, a2, a3, a4, a5, a6⟩ := k5 i (by omega)
        have hn : (m ++ [(doP p g m o).1]).length + i = m.length + (i + 1) := by simp; omega
        rw [hn] at a2 a4 a5 a6
        exact ⟨q, q', e, t, a1, by simpa using a2, a3, a4, a5, a6⟩
theorem keepP_len (f : Nat → Bool) : ∀ (r : List OpP) (i : Nat) (now : Nat → Int) (kept : List OpP), (keepP f r i now kept).length ≤ kept.length + r.length ∧ kept.length ≤ (keepP f r i now kept).length
  | [], _, _, kept => by simp [keepP]
  | o :: r, i, now, kept => by
    unfold keepP
    split
    · have := keepP_len f r (i + 1) (fun x => if x = i then (kept.length : Int) else now x) (kept ++ [movP o i now])
      simp only [List.length_append, List.length_cons, List.length_nil] at this ⊢
      omega
    · have := keepP_len f r (i + 1) now kept
      simp only [List.length_cons]
      omega
/-- What is kept runs on, and makes what it made. -/
theorem keep_run {P : Pl} (hP : Ok P) {g M : List Int} {l : List OpP} (hlen : M.length = l.length) (hE : EachP P g M l 0) {f : Nat → Bool}
    (hcl : ∀ j, j < l.length → f j = true → (refA (l.getD j zeroO) j = true → f (l.getD j zeroO).a.toNat = true) ∧ (refB (l.getD j zeroO) j = true → f (l.getD j zeroO).b.toNat = true)) (hlast : f (l.length - 1) = true) :
    ∀ (r : List OpP) (i : Nat) (now : Nat → Int) (kept : List OpP) (m' : List Int), i + r.length = l.length → (∀ j, j < r.length → l.getD (i + j) zeroO = r.getD j zeroO) →
      runP P g [] kept = (m', 0, P) → m'.length = kept.length → (∀ x, x < i → f x = true → (0 ≤ now x ∧ now x < (kept.length : Int)) ∧ m'.getD (now x).toNat 0 = M.getD x 0) →
      ∃ m2, runP P g [] (keepP f r i now kept) = (m2, 0, P) ∧ m2.length = (keepP f r i now kept).length ∧ (r ≠ [] → kept.length < (keepP f r i now kept).length ∧ m2.getD (m2.length - 1) 0 = M.getD (l.length - 1) 0)
  | [], i, now, kept, m', hi, hr, h, hm, hn => ⟨m', h, hm, fun h => absurd rfl h⟩
  | o :: r, i, now, kept, m', hi, hr, h, hm, hn => by
    simp only [List.length_cons] at hi
    have ho : l.getD i zeroO = o := by have := hr 0 (by simp); simpa using this
    have hr' : ∀ j, j < r.length → l.getD (i + 1 + j) zeroO = r.getD j zeroO := fun j hj => by
      have := hr (j + 1) (by simp; omega)
      rw [show i + 1 + j = i + (j + 1) by omega, this]
      simp
    unfold keepP
    by_cases hf : f i = true
    · rw [if_pos hf]
      obtain ⟨q, q', e, t, a1, a2, a3, a4, a5, a6⟩ := hE i (by omega)
      rw [Nat.zero_add] at a2 a4 a5 a6
      rw [ho] at a2
      obtain ⟨c1, c2⟩ := hcl i (by omega) hf
      rw [ho] at c1 c2
      obtain ⟨u1, u2⟩ := do_used a2
      have hup : ∀ j : Int, upB (M.take i) j = true → 0 ≤ j ∧ j < (i : Int) := fun j hj => by
        simp only [upB, Bool.and_eq_true, decide_eq_true_eq, a6] at hj; exact hj
      have hmv : ∀ j : Int, 0 ≤ j ∧ j < (i : Int) → f j.toNat = true → upB m' (now j.toNat) = true ∧ mdP m' (now j.toNat) = mdP (M.take i) j := fun j hj hfj => by
        obtain ⟨⟨b1, b2⟩, b3⟩ := hn j.toNat (by omega) hfj
        refine ⟨by simp only [upB, Bool.and_eq_true, decide_eq_true_eq]; omega, ?_⟩
        rw [md_take (by simp only [upB, Bool.and_eq_true, decide_eq_true_eq, a6]; exact hj)]
        exact b3
      have hd : doP P g m' (movP o i now) = (t, 0, P) := by
        refine do_again a1 hP a2 a3 a4 rfl rfl rfl ?_ ?_ ?_
        · intro hu
          show movA o i now = o.a
          unfold movA
          rw [if_neg (by unfold refA; rw [hu]; simp)]
        · intro hu hb
          have hj := hup _ hb
          have hrf : refA o i = true := by unfold refA; rw [hu]; simp only [Bool.true_and, Bool.and_eq_true, decide_eq_true_eq]; exact hj
          show upB m' (movA o i now) = true ∧ mdP m' (movA o i now) = _
          unfold movA
          rw [if_pos hrf]
          exact hmv _ hj (c1 hrf)
        · intro hu hb
          have hj := hup _ hb
          have hrf : refB o i = true := by unfold refB; rw [hu]; simp only [Bool.true_and, Bool.and_eq_true, decide_eq_true_eq]; exact hj
          show upB m' (movB o i now) = true ∧ mdP m' (movB o i now) = _
          unfold movB
          rw [if_pos hrf]
          exact hmv _ hj (c2 hrf)
      have h2 := run_again kept P [] m' h hd
      obtain ⟨m2, k1, k2, k3⟩ := keep_run hP hlen hE hcl hlast r (i + 1) (fun x => if x = i then (kept.length : Int) else now x) (kept ++ [movP o i now]) (m' ++ [t]) (by omega) hr' h2 (by simp [hm]) (fun x hx hfx => by
        by_cases e : x = i
        · subst e
          rw [if_pos rfl]
          refine ⟨by simp; omega, ?_⟩
          rw [show ((kept.length : Int)).toNat = kept.length by omega, a5, ← hm, List.getD_eq_getElem?_getD, List.getElem?_append_right (by omega)]
          simp
        · obtain ⟨⟨b1, b2⟩, b3⟩ := hn x (by omega) hfx
          rw [if_neg e]
          refine ⟨by simp; omega, ?_⟩
          rw [← b3, List.getD_eq_getElem?_getD, List.getElem?_append_left (by omega), ← List.getD_eq_getElem?_getD])
      refine ⟨m2, k1, k2, fun _ => ?_⟩
      by_cases hz : r = []
      · subst hz
        simp only [List.length_nil] at hi
        simp only [keepP] at k1 k2 ⊢
        rw [h2] at k1
        cases k1
        refine ⟨by simp, ?_⟩
        rw [show l.length - 1 = i by omega, a5, List.getD_eq_getElem?_getD, List.getElem?_append_right (by simp)]
        simp
      · obtain ⟨b1, b2⟩ := k3 hz
        exact ⟨by simp only [List.length_append, List.length_cons, List.length_nil] at b1; omega, b2⟩
    · rw [if_neg hf]
      obtain ⟨m2, k1, k2, k3⟩ := keep_run hP hlen hE hcl hlast r (i + 1) now kept m' (by omega) hr' h hm (fun x hx hfx => hn x (by
        by_cases e : x = i
        · subst e; exact absurd hfx hf
        · omega) hfx)
      refine ⟨m2, k1, k2, fun _ => k3 (fun hz => ?_)⟩
      subst hz
      simp only [List.length_nil] at hi
      rw [show l.length - 1 = i by omega] at hlast
      exact hf hlast
/-- What Trim leaves makes what was made. -/
theorem trim_eval {p : Pl} (hp : Ok p) {g : List Int} (hg : ∀ x ∈ g, inP p x = true) {l : List OpP} (h0 : (folP p g l).2.1 = 0) :
    evlP (folP (folP p g l).2.2 g (trimP l)) = ((evlP (folP p g l)).1, 0, 0) ∧ (folP (folP p g l).2.2 g (trimP l)).2.2 = (folP p g l).2.2 := by
  unfold folP at h0 ⊢
  by_cases h1 : 256 < l.length
  · rw [if_pos h1] at h0; cases h0
  rw [if_neg h1] at h0 ⊢
  by_cases h2 : l.length = 0
  · rw [if_pos h2] at h0; cases h0
  rw [if_neg h2] at h0 ⊢
  generalize hR : runP p g [] l = R at h0 ⊢
  obtain ⟨M, er, P⟩ := R
  simp only at h0
  subst h0
  simp only
  obtain ⟨k1, _, _, k4, k5⟩ := run_each l p [] hp hg (by simp) hR
  simp only [List.length_nil, Nat.zero_add] at k4 k5
  have hne : l ≠ [] := by rintro rfl; exact h2 rfl
  have hcl := fun j (hj : j < l.length) => markF_closed l l.length (fun x => x == l.length - 1) j hj
  obtain ⟨m2, r1, r2, r3⟩ := keep_run k1 k4 k5 hcl (part_last hne) l 0 (fun _ => 0) [] [] (by simp) (fun j _ => by simp) rfl rfl (fun x hx => by omega)
  obtain ⟨r4, r5⟩ := r3 hne
  have hkl := (keepP_len (markF l l.length fun x => x == l.length - 1) l 0 (fun _ => 0) []).1
  have ht : trimP l = keepP (markF l l.length fun x => x == l.length - 1) l 0 (fun _ => 0) [] := by unfold trimP partF; rw [if_neg hne]
  rw [ht]
  simp only [List.length_nil, Nat.zero_add] at hkl r4
  rw [if_neg (by omega), if_neg (by omega), r1]
  refine ⟨?_, rfl⟩
  unfold evlP
  simp only [ne_eq, not_true_eq_false, if_false]
  rw [r5, k4]
end Go.Proofs.YtlckneajppfmbaaDoor
namespace Go.Proofs.YtlckneajppfmbaaDoor
open Go.RowKit Go.Maps
set_option linter.unusedVariables false

theorem keepP_ok (f : Nat → Bool) : ∀ (r : List OpP) (i : Nat) (now : Nat → Int) (kept : List OpP), (∀ o ∈ r, OpOk o) → (∀ o ∈ kept, OpOk o) → (∀ x, i64R (now x)) → i + r.length ≤ 1000 → kept.length ≤ i → ∀ o ∈ keepP f r i now kept, OpOk o
  | [], i, now, kept, _, hk, _, _, _ => hk
  | o :: r, i, now, kept, hr, hk, hn, hl, hi => by
    simp only [List.length_cons] at hl
    unfold keepP
    split
    · refine keepP_ok f r (i + 1) _ _ (fun x hx => hr x (List.mem_cons_of_mem _ hx)) (fun x hx => ?_) (fun x => ?_) (by omega) (by simp; omega)
      · rcases List.mem_append.1 hx with hx | hx
        · exact hk x hx
        · rw [List.mem_singleton.1 hx]
          obtain ⟨c1, c2, c3, c4, c5⟩ := hr o (List.mem_cons_self ..)
          refine ⟨c1, ?_, ?_, c4, c5⟩
          · show i64R (movA o i now)
            unfold movA; split
            · exact hn _
            · exact c2
          · show i64R (movB o i now)
            unfold movB; split
            · exact hn _
            · exact c3
      · show i64R (if x = i then (kept.length : Int) else now x)
        split
        · unfold i64R; omega
        · exact hn x
    · exact keepP_ok f r (i + 1) now kept (fun x hx => hr x (List.mem_cons_of_mem _ hx)) hk hn (by omega) (by omega)
theorem trimP_ok {l : List OpP} (h : ∀ o ∈ l, OpOk o) (hl : l.length ≤ 1000) : (∀ o ∈ trimP l, OpOk o) ∧ (trimP l).length ≤ l.length := by
  rw [trimP_eq]
  exact ⟨keepP_ok _ l 0 _ [] h (fun o ho => by simp at ho) (fun x => by unfold i64R; simp) (by omega) (Nat.le_refl _), by have := (keepP_len (partF l) l 0 (fun _ => 0) []).1; simpa using this⟩

set_option maxRecDepth 100000 in
set_option maxHeartbeats 25600000 in
theorem rtrims_walk {w : World} (hl : Laid w) {fo : Fo} {vn : Value} (hk : IsK w (fun b => b < w.heap.size) vn fo) (hok : OkF fo) {vl : Value} {l : List OpP} (hr : Row w 5 vl l.length (opsV l)) (hlo : ∀ o ∈ l, OpOk o) : Calls Tryd.prog 6 #[vn, vl] w fun e w' => e = .returned (.bool true) ∧ Below w.heap.size w w' := by
  obtain ⟨av, cv, rfl, _⟩ := hk.shape
  obtain ⟨la, lc, rfl⟩ := hr.shape
  have HL := Lib.hid hl
  have HK := Lib.hid hk
  have HOK := Lib.hid hok
  have HROW := Lib.hid hr
  have HLO := Lib.hid hlo
  have LA := Lib.hid (large9_any hk)
  clear hl hk hok hr hlo
  go_enter Tryd.func6, Tryd.ntmps6
  go_wp2_with fail
  refine LA.out.mono ?_
  rintro e w1 ⟨⟨q1, rfl, hq1⟩, u1⟩
  have HU1 := Lib.hid u1
  clear u1 LA
  have LVW : Hid (∀ W : World, Below w.heap.size w W → Calls Tryd.prog 22 #[] W fun e w' => e = .returned (.bool true) ∧ Below W.heap.size W w') := Lib.hid (fun W h => live9_any (HL.out.below h))
  cases q1 with
  | true =>
    go_wp2_with fail
    refine (LVW.out _ HU1.out).mono ?_
    rintro e w2 ⟨rfl, u2⟩
    have HU2 := Lib.hid (bmore HU1.out u2)
    clear u2
    go_wp2_with fail
    go_returns
    exact ⟨rfl, HU2.out⟩
  | false =>
    have hsz := hq1 rfl
    clear hq1
    have LG := Lib.hid (long_any (HROW.out.below HU1.out))
    go_wp2_with fail
    refine LG.out.mono ?_
    rintro e w2 ⟨⟨q2, rfl, hq2⟩, rfl⟩
    clear LG
    cases q2 with
    | true =>
      go_wp2_with fail
      refine (LVW.out _ HU1.out).mono ?_
      rintro e w3 ⟨rfl, u2⟩
      have HU2 := Lib.hid (bmore HU1.out u2)
      clear u2
      go_wp2_with fail
      go_returns
      exact ⟨rfl, HU2.out⟩
    | false =>
      have hl300 := hq2 rfl
      clear hq2
      have hkl := (HK.out.below HU1.out).keep (G' := fun b => b < w1.heap.size) (fun b hb _ => ⟨Nat.lt_of_lt_of_le hb HU1.out.size, rfl⟩)
      have GI := Lib.hid (lgiven_any (HL.out.below HU1.out) hkl HOK.out (by omega) (by omega))
      clear hkl
      go_wp2_with fail
      refine GI.out.mono ?_
      rintro e w3 ⟨sb, pa, b, vv, k, mb, gv, s, ra, rl, rs, rd, gvl, q, gl, rfl, sd, _, _, u3, _⟩
      have SD := Lib.hid sd
      have HV3 := Lib.hid u3
      have HU := Lib.hid (bmore HU1.out u3)
      have HBS := Lib.hid (HL.out.below HU1.out).lt
      have HGI := Lib.hid sd.know.ok.ing
      have TOK := Lib.hid (trimP_ok HLO.out (by omega))
      clear sd u3 GI
      have hmade : (w3.alloc (.cells #[] OpT)).ownsRow 0 OpT 5 (.slice (some ⟨w3.heap.size, 0, none⟩) 0 0) ([] : List OpP).length (opsV []) := World.ownsRow_made w3 #[] 0 (Nat.zero_le _) (by unfold maxLen; omega) rfl
      have HMD := Lib.hid hmade
      clear hmade
      go_upto_region 7 with (at_builtin; refine wpList_append_opsF rfl _ _ rfl 0 (.slice (some ⟨w3.heap.size, 0, none⟩) 0 0) [] rfl HMD.out _ l rfl (HROW.out.below (bmore HU.out (bA0 w3 (.cells #[] OpT)))) (by simp; omega) (Nat.zero_le _) ?_; intro v5 w5 hrow5 hg5; rw [List.nil_append] at hrow5; obtain ⟨xa, xc, rfl⟩ := (row_of_own hrow5).shape; have HG5 := Lib.hid hg5; have HR5 := Lib.hid hrow5; clear hg5 hrow5)
      have B5 := Lib.hid ((bA0 w3 (.cells #[] OpT)).trans (grown_below HG5.out (bA0 w3 (.cells #[] OpT)).size (fun j e => by simp only [Value.ownBlock, Option.some.injEq] at e; rw [← e]; exact Nat.le_refl _)))
      have PT := Lib.hid (trim_any (row_of_own HR5.out) HLO.out (by omega))
      clear HG5 HMD
      go_wp2_with fail
      refine PT.out.mono ?_
      rintro e w6 ⟨mv, rfl, hm6, u6⟩
      obtain ⟨ma, mc, rfl⟩ := (row_of_own hm6).shape
      have B6 := Lib.hid (bmore B5.out u6)
      have HR6 := Lib.hid (own_hold HR5.out (Hold.below u6))
      have HM6 := Lib.hid hm6
      have RT := Lib.hid (rtrim_any (HROW.out.below (bmore HU.out B6.out)) HLO.out (by omega))
      clear hm6 u6 PT HR5
      go_wp2_with fail
      refine RT.out.mono ?_
      rintro e w7 ⟨rv, rfl, hm7, u7⟩
      obtain ⟨ra7, rc7, rfl⟩ := (row_of_own hm7).shape
      have B7 := Lib.hid (bmore B6.out u7)
      have HR7 := Lib.hid (own_hold HR6.out (Hold.below u7))
      have HM7 := Lib.hid (own_hold HM6.out (Hold.below u7))
      have SA := Lib.hid (rsame9_any (row_of_own HM7.out) (row_of_own hm7) TOK.out.1)
      clear hm7 u7 RT HR6 HM6
      go_wp2_with fail
      refine SA.out.mono ?_
      rintro e w8 ⟨rfl, u8⟩
      have B8 := Lib.hid (bmore B7.out u8)
      have HR8 := Lib.hid (own_hold HR7.out (Hold.below u8))
      have HM8 := Lib.hid (own_hold HM7.out (Hold.below u8))
      have SB := Lib.hid (rsame9_any (row_of_own HR8.out) (HROW.out.below (bmore HU.out B8.out)) HLO.out)
      clear u8 SA HR7 HM7
      go_wp2_with fail
      refine SB.out.mono ?_
      rintro e w9 ⟨rfl, u9⟩
      have B9 := Lib.hid (bmore B8.out u9)
      have HR9 := Lib.hid (own_hold HR8.out (Hold.below u9))
      have HM9 := Lib.hid (own_hold HM8.out (Hold.below u9))
      clear u9 SB HR8 HM8
      have HL7 := Lib.hid ((HL.out.below HU.out).below B9.out)
      have HP7 := Lib.hid (SD.out.pool.below B9.out)
      have HK7 := Lib.hid (SD.out.know.below B9.out)
      have HS7 := Lib.hid (Hold.below B9.out _ _ SD.out.lay)
      have HV7 := Lib.hid (HV3.out.trans (B9.out.mono HV3.out.size))
      have x0 := cellB (j := 0) HS7.out rfl
      have x1 := cellB (j := 1) HS7.out rfl
      have HKP := Lib.hid (fun (V : World) (hb : Below w9.heap.size w9 V) => (show V.cell? ⟨sb, 0, none⟩ = some (.pointer (some ⟨pa, 0, none⟩)) ∧ V.cell? ⟨sb, 1, none⟩ = some (.pointer (some ⟨k, 0, none⟩)) from ⟨bcellAt hb x0, bcellAt hb x1⟩))
      have HKQ := Lib.hid (fun (V : World) (hs : V.heap[sb]? = some (Obj.cells #[.pointer (some ⟨pa, 0, none⟩), .pointer (some ⟨k, 0, none⟩), .pointer (some ⟨ra, 0, none⟩), gvl] SidesT)) => (show V.cell? ⟨sb, 0, none⟩ = some (.pointer (some ⟨pa, 0, none⟩)) ∧ V.cell? ⟨sb, 1, none⟩ = some (.pointer (some ⟨k, 0, none⟩)) from ⟨cellB (j := 0) hs rfl, cellB (j := 1) hs rfl⟩))
      have HTE := Lib.hid (fun h => trim_eval (l := l) HP7.out.ok HGI.out h)
      go_upto_region 10 with fail
      refine lex_start [0, 1, 2, 3, 4, 5, 6, 7, 8, 9, 10, 11, 12, 13, 14, 15, 16] (S := fun V => V.cell? ⟨sb, 0, none⟩ = some (.pointer (some ⟨pa, 0, none⟩)) ∧ V.cell? ⟨sb, 1, none⟩ = some (.pointer (some ⟨k, 0, none⟩))) (by kernel_rfl) (HKP.out _ (bd _)) (fun hS => ?_)
      clear hS
      simp only [inOrder, List.filterMap, List.getElem?_cons_succ, List.getElem?_cons_zero]
      have b0 := bd w9
      refine lex_take (i := 0) (v := ?_) rfl (by kernel_rfl) (by kernel_rfl) (by kernel_rfl) (by rfl) (HKP.out _ b0) ?_ ?_
      rotate_left
      · ((intro W hW; obtain ⟨k0, k1⟩ := hW; go_simp) <;> with_reducible rfl)
      simp only [Act.put, List.setIfInBounds_toArray, List.set_cons_zero, List.set_cons_succ]
      refine lex_take (i := 1) (v := ?_) rfl (by kernel_rfl) (by kernel_rfl) (by kernel_rfl) (by rfl) (HKP.out _ b0) ?_ ?_
      rotate_left
      · ((intro W hW; obtain ⟨k0, k1⟩ := hW; go_simp) <;> with_reducible rfl)
      simp only [Act.put, List.setIfInBounds_toArray, List.set_cons_zero, List.set_cons_succ]
      refine lex_take (i := 2) (v := ?_) rfl (by kernel_rfl) (by kernel_rfl) (by kernel_rfl) (by rfl) (HKP.out _ b0) ?_ ?_
      rotate_left
      · ((intro W hW; obtain ⟨k0, k1⟩ := hW; go_simp) <;> with_reducible rfl)
      simp only [Act.put, List.setIfInBounds_toArray, List.set_cons_zero, List.set_cons_succ]
      refine lex_take (i := 3) (v := ?_) rfl (by kernel_rfl) (by kernel_rfl) (by kernel_rfl) (by rfl) (HKP.out _ b0) ?_ ?_
      rotate_left
      · ((intro W hW; obtain ⟨k0, k1⟩ := hW; go_simp) <;> with_reducible rfl)
      simp only [Act.put, List.setIfInBounds_toArray, List.set_cons_zero, List.set_cons_succ]
      refine lex_take (i := 4) (v := ?_) rfl (by kernel_rfl) (by kernel_rfl) (by kernel_rfl) (by rfl) (HKP.out _ b0) ?_ ?_
      rotate_left
      · ((intro W hW; obtain ⟨k0, k1⟩ := hW; go_simp) <;> with_reducible rfl)
      simp only [Act.put, List.setIfInBounds_toArray, List.set_cons_zero, List.set_cons_succ]
      refine lex_take (i := 5) (v := ?_) rfl (by kernel_rfl) (by kernel_rfl) (by kernel_rfl) (by rfl) (HKP.out _ b0) ?_ ?_
      rotate_left
      · ((intro W hW; obtain ⟨k0, k1⟩ := hW; go_simp) <;> with_reducible rfl)
      simp only [Act.put, List.setIfInBounds_toArray, List.set_cons_zero, List.set_cons_succ]
      refine lex_take (i := 6) (v := ?_) rfl (by kernel_rfl) (by kernel_rfl) (by kernel_rfl) (by rfl) (HKP.out _ b0) ?_ ?_
      rotate_left
      · ((intro W hW; obtain ⟨k0, k1⟩ := hW; go_simp) <;> with_reducible rfl)
      simp only [Act.put, List.setIfInBounds_toArray, List.set_cons_zero, List.set_cons_succ]
      refine lex_take (i := 7) (v := ?_) rfl (by kernel_rfl) (by kernel_rfl) (by kernel_rfl) (by rfl) (HKP.out _ b0) ?_ ?_
      rotate_left
      · ((intro W hW; obtain ⟨k0, k1⟩ := hW; go_simp) <;> with_reducible rfl)
      simp only [Act.put, List.setIfInBounds_toArray, List.set_cons_zero, List.set_cons_succ]
      refine lex_take (i := 8) (v := ?_) rfl (by kernel_rfl) (by kernel_rfl) (by kernel_rfl) (by rfl) (HKP.out _ b0) ?_ ?_
      rotate_left
      · ((intro W hW; obtain ⟨k0, k1⟩ := hW; go_simp) <;> with_reducible rfl)
      simp only [Act.put, List.setIfInBounds_toArray, List.set_cons_zero, List.set_cons_succ]
      refine lex_do (i := 9) rfl (by kernel_rfl) (by rfl) (fun K hK => ?_)
      go_simp
      refine (eval_any HBS.out (HP7.out.below b0) (HL7.out.below b0) (HK7.out.below b0) SD.out.mbb (own_hold HR9.out (Hold.below b0)) HLO.out).mono ?_
      rintro e w7x ⟨rfl, g7⟩
      have HS8 := Lib.hid (g7.hold (HP7.out.below b0) (T := SidesT) (by decide) (by decide) _ _ (Hold.below b0 _ _ HS7.out))
      have HMX := Lib.hid (own_hold (own_hold HM9.out (Hold.below b0)) (g7.hold (HP7.out.below b0) (T := OpT) (by decide) (by decide)))
      refine hK _ _ ⟨HKQ.out _ HS8.out, ?_⟩
      clear hK K
      obtain ⟨ok8, ⟨e8, he8⟩, _⟩ := fol_sound (g := gl) l HP7.out.ok HK7.out.ok.ing
      have hez : (evlP (folP q gl l)).2.1 = (folP q gl l).2.1 := by unfold evlP; split; rfl; rename_i h; simp at h; simp [h]
      generalize evlP (folP q gl l) = ev at *
      generalize folP q gl l = r8 at *
      obtain ⟨made8, er8, q8⟩ := r8
      obtain ⟨t8, ee8, at8⟩ := ev
      simp only at he8 ok8 g7 hez HTE
      subst he8
      subst hez
      have HK8 := Lib.hid ((HK7.out.below b0).grow (HP7.out.below b0) SD.out.mbb g7)
      have HV8 := Lib.hid ((HV7.out.trans (b0.mono HV7.out.size)).trans g7.1)
      obtain ⟨_, _, v8, p8, _⟩ := g7
      have HP8 := Lib.hid p8
      clear p8 b0 x0 x1 HKP ok8
      refine lex_take (i := 10) (v := ?_) rfl (by kernel_rfl) (by kernel_rfl) (by kernel_rfl) (by rfl) (HKQ.out _ HS8.out) ?_ ?_
      rotate_left
      · ((intro W hW; obtain ⟨k0, k1⟩ := hW; go_simp) <;> with_reducible rfl)
      simp only [Act.put, List.setIfInBounds_toArray, List.set_cons_zero, List.set_cons_succ]
      refine lex_take (i := 11) (v := ?_) rfl (by kernel_rfl) (by kernel_rfl) (by kernel_rfl) (by rfl) (HKQ.out _ HS8.out) ?_ ?_
      rotate_left
      · ((intro W hW; obtain ⟨k0, k1⟩ := hW; go_simp) <;> with_reducible rfl)
      simp only [Act.put, List.setIfInBounds_toArray, List.set_cons_zero, List.set_cons_succ]
      refine lex_take (i := 12) (v := ?_) rfl (by kernel_rfl) (by kernel_rfl) (by kernel_rfl) (by rfl) (HKQ.out _ HS8.out) ?_ ?_
      rotate_left
      · ((intro W hW; obtain ⟨k0, k1⟩ := hW; go_simp) <;> with_reducible rfl)
      simp only [Act.put, List.setIfInBounds_toArray, List.set_cons_zero, List.set_cons_succ]
      refine lex_take (i := 13) (v := ?_) rfl (by kernel_rfl) (by kernel_rfl) (by kernel_rfl) (by rfl) (HKQ.out _ HS8.out) ?_ ?_
      rotate_left
      · ((intro W hW; obtain ⟨k0, k1⟩ := hW; go_simp) <;> with_reducible rfl)
      simp only [Act.put, List.setIfInBounds_toArray, List.set_cons_zero, List.set_cons_succ]
      refine lex_take (i := 14) (v := ?_) rfl (by kernel_rfl) (by kernel_rfl) (by kernel_rfl) (by rfl) (HKQ.out _ HS8.out) ?_ ?_
      rotate_left
      · ((intro W hW; obtain ⟨k0, k1⟩ := hW; go_simp) <;> with_reducible rfl)
      simp only [Act.put, List.setIfInBounds_toArray, List.set_cons_zero, List.set_cons_succ]
      refine lex_take (i := 15) (v := ?_) rfl (by kernel_rfl) (by kernel_rfl) (by kernel_rfl) (by rfl) (HKQ.out _ HS8.out) ?_ ?_
      rotate_left
      · ((intro W hW; obtain ⟨k0, k1⟩ := hW; go_simp) <;> with_reducible rfl)
      simp only [Act.put, List.setIfInBounds_toArray, List.set_cons_zero, List.set_cons_succ]
      refine lex_take (i := 16) (v := ?_) rfl (by kernel_rfl) (by kernel_rfl) (by kernel_rfl) (by rfl) (HKQ.out _ HS8.out) ?_ ?_
      rotate_left
      · ((intro W hW; obtain ⟨k0, k1⟩ := hW; go_simp) <;> with_reducible rfl)
      simp only [Act.put, List.setIfInBounds_toArray, List.set_cons_zero, List.set_cons_succ]
      refine lex_done (by kernel_rfl) ?_
      clear HR9 HM9 HS7 HP7 HK7 HL7
      have HL8 := Lib.hid (Laid.base (HL.out.below HU1.out) HBS.out HV8.out)
      have x0 := cellB (j := 0) HS8.out rfl
      have x1 := cellB (j := 1) HS8.out rfl
      have HKP := Lib.hid (fun (V : World) (hb : Below w7x.heap.size w7x V) => (show V.cell? ⟨sb, 0, none⟩ = some (.pointer (some ⟨pa, 0, none⟩)) ∧ V.cell? ⟨sb, 1, none⟩ = some (.pointer (some ⟨k, 0, none⟩)) from ⟨bcellAt hb x0, bcellAt hb x1⟩))
      have HS7 := HS8
      clear HS8
      go_wp2_with fail
      refine lex_start [0, 1, 2, 3, 4, 5, 6, 7, 8, 9, 10, 11, 12, 13, 14, 15, 16] (S := fun V => V.cell? ⟨sb, 0, none⟩ = some (.pointer (some ⟨pa, 0, none⟩)) ∧ V.cell? ⟨sb, 1, none⟩ = some (.pointer (some ⟨k, 0, none⟩))) (by kernel_rfl) (HKP.out _ (bd _)) (fun hS => ?_)
      clear hS
      simp only [inOrder, List.filterMap, List.getElem?_cons_succ, List.getElem?_cons_zero]
      have b0 := bd w7x
      refine lex_take (i := 0) (v := ?_) rfl (by kernel_rfl) (by kernel_rfl) (by kernel_rfl) (by rfl) (HKP.out _ b0) ?_ ?_
      rotate_left
      · ((intro W hW; obtain ⟨k0, k1⟩ := hW; go_simp) <;> with_reducible rfl)
      simp only [Act.put, List.setIfInBounds_toArray, List.set_cons_zero, List.set_cons_succ]
      refine lex_take (i := 1) (v := ?_) rfl (by kernel_rfl) (by kernel_rfl) (by kernel_rfl) (by rfl) (HKP.out _ b0) ?_ ?_
      rotate_left
      · ((intro W hW; obtain ⟨k0, k1⟩ := hW; go_simp) <;> with_reducible rfl)
      simp only [Act.put, List.setIfInBounds_toArray, List.set_cons_zero, List.set_cons_succ]
      refine lex_take (i := 2) (v := ?_) rfl (by kernel_rfl) (by kernel_rfl) (by kernel_rfl) (by rfl) (HKP.out _ b0) ?_ ?_
      rotate_left
      · ((intro W hW; obtain ⟨k0, k1⟩ := hW; go_simp) <;> with_reducible rfl)
      simp only [Act.put, List.setIfInBounds_toArray, List.set_cons_zero, List.set_cons_succ]
      refine lex_take (i := 3) (v := ?_) rfl (by kernel_rfl) (by kernel_rfl) (by kernel_rfl) (by rfl) (HKP.out _ b0) ?_ ?_
      rotate_left
      · ((intro W hW; obtain ⟨k0, k1⟩ := hW; go_simp) <;> with_reducible rfl)
      simp only [Act.put, List.setIfInBounds_toArray, List.set_cons_zero, List.set_cons_succ]
      refine lex_take (i := 4) (v := ?_) rfl (by kernel_rfl) (by kernel_rfl) (by kernel_rfl) (by rfl) (HKP.out _ b0) ?_ ?_
      rotate_left
      · ((intro W hW; obtain ⟨k0, k1⟩ := hW; go_simp) <;> with_reducible rfl)
      simp only [Act.put, List.setIfInBounds_toArray, List.set_cons_zero, List.set_cons_succ]
      refine lex_take (i := 5) (v := ?_) rfl (by kernel_rfl) (by kernel_rfl) (by kernel_rfl) (by rfl) (HKP.out _ b0) ?_ ?_
      rotate_left
      · ((intro W hW; obtain ⟨k0, k1⟩ := hW; go_simp) <;> with_reducible rfl)
      simp only [Act.put, List.setIfInBounds_toArray, List.set_cons_zero, List.set_cons_succ]
      refine lex_take (i := 6) (v := ?_) rfl (by kernel_rfl) (by kernel_rfl) (by kernel_rfl) (by rfl) (HKP.out _ b0) ?_ ?_
      rotate_left
      · ((intro W hW; obtain ⟨k0, k1⟩ := hW; go_simp) <;> with_reducible rfl)
      simp only [Act.put, List.setIfInBounds_toArray, List.set_cons_zero, List.set_cons_succ]
      refine lex_take (i := 7) (v := ?_) rfl (by kernel_rfl) (by kernel_rfl) (by kernel_rfl) (by rfl) (HKP.out _ b0) ?_ ?_
      rotate_left
      · ((intro W hW; obtain ⟨k0, k1⟩ := hW; go_simp) <;> with_reducible rfl)
      simp only [Act.put, List.setIfInBounds_toArray, List.set_cons_zero, List.set_cons_succ]
      refine lex_take (i := 8) (v := ?_) rfl (by kernel_rfl) (by kernel_rfl) (by kernel_rfl) (by rfl) (HKP.out _ b0) ?_ ?_
      rotate_left
      · ((intro W hW; obtain ⟨k0, k1⟩ := hW; go_simp) <;> with_reducible rfl)
      simp only [Act.put, List.setIfInBounds_toArray, List.set_cons_zero, List.set_cons_succ]
      refine lex_do (i := 9) rfl (by kernel_rfl) (by rfl) (fun K hK => ?_)
      go_simp
      refine (eval_any HBS.out (HP8.out.below b0) (HL8.out.below b0) (HK8.out.below b0) SD.out.mbb (own_hold HMX.out (Hold.below b0)) TOK.out.1).mono ?_
      rintro e w9x ⟨rfl, g7⟩
      have HS8 := Lib.hid (g7.hold (HP8.out.below b0) (T := SidesT) (by decide) (by decide) _ _ (Hold.below b0 _ _ HS7.out))
      refine hK _ _ ⟨HKQ.out _ HS8.out, ?_⟩
      clear hK K
      generalize evlP (folP (q ++ e8) gl (trimP l)) = ev2 at *
      have HV9 := Lib.hid ((HV8.out.trans (b0.mono HV8.out.size)).trans g7.1)
      obtain ⟨t9, ee9, at9⟩ := ev2

      clear b0 x0 x1 HKP g7
      refine lex_take (i := 10) (v := ?_) rfl (by kernel_rfl) (by kernel_rfl) (by kernel_rfl) (by rfl) (HKQ.out _ HS8.out) ?_ ?_
      rotate_left
      · ((intro W hW; obtain ⟨k0, k1⟩ := hW; go_simp) <;> with_reducible rfl)
      simp only [Act.put, List.setIfInBounds_toArray, List.set_cons_zero, List.set_cons_succ]
      refine lex_take (i := 11) (v := ?_) rfl (by kernel_rfl) (by kernel_rfl) (by kernel_rfl) (by rfl) (HKQ.out _ HS8.out) ?_ ?_
      rotate_left
      · ((intro W hW; obtain ⟨k0, k1⟩ := hW; go_simp) <;> with_reducible rfl)
      simp only [Act.put, List.setIfInBounds_toArray, List.set_cons_zero, List.set_cons_succ]
      refine lex_take (i := 12) (v := ?_) rfl (by kernel_rfl) (by kernel_rfl) (by kernel_rfl) (by rfl) (HKQ.out _ HS8.out) ?_ ?_
      rotate_left
      · ((intro W hW; obtain ⟨k0, k1⟩ := hW; go_simp) <;> with_reducible rfl)
      simp only [Act.put, List.setIfInBounds_toArray, List.set_cons_zero, List.set_cons_succ]
      refine lex_take (i := 13) (v := ?_) rfl (by kernel_rfl) (by kernel_rfl) (by kernel_rfl) (by rfl) (HKQ.out _ HS8.out) ?_ ?_
      rotate_left
      · ((intro W hW; obtain ⟨k0, k1⟩ := hW; go_simp) <;> with_reducible rfl)
      simp only [Act.put, List.setIfInBounds_toArray, List.set_cons_zero, List.set_cons_succ]
      refine lex_take (i := 14) (v := ?_) rfl (by kernel_rfl) (by kernel_rfl) (by kernel_rfl) (by rfl) (HKQ.out _ HS8.out) ?_ ?_
      rotate_left
      · ((intro W hW; obtain ⟨k0, k1⟩ := hW; go_simp) <;> with_reducible rfl)
      simp only [Act.put, List.setIfInBounds_toArray, List.set_cons_zero, List.set_cons_succ]
      refine lex_take (i := 15) (v := ?_) rfl (by kernel_rfl) (by kernel_rfl) (by kernel_rfl) (by rfl) (HKQ.out _ HS8.out) ?_ ?_
      rotate_left
      · ((intro W hW; obtain ⟨k0, k1⟩ := hW; go_simp) <;> with_reducible rfl)
      simp only [Act.put, List.setIfInBounds_toArray, List.set_cons_zero, List.set_cons_succ]
      refine lex_take (i := 16) (v := ?_) rfl (by kernel_rfl) (by kernel_rfl) (by kernel_rfl) (by rfl) (HKQ.out _ HS8.out) ?_ ?_
      rotate_left
      · ((intro W hW; obtain ⟨k0, k1⟩ := hW; go_simp) <;> with_reducible rfl)
      simp only [Act.put, List.setIfInBounds_toArray, List.set_cons_zero, List.set_cons_succ]
      refine lex_done (by kernel_rfl) ?_
      have HU8 := Lib.hid (HU1.out.trans (HV9.out.mono HU1.out.size))
      clear HMX HP8 HK8 HL8 HS7
      by_cases h0 : ee8 = 0
      · subst h0
        have hte := (HTE.out rfl).1
        simp only [Prod.mk.injEq] at hte
        obtain ⟨rfl, rfl, rfl⟩ := hte
        go_wp2_with fail
        refine (num9_any 0 _).mono ?_
        rintro e wA ⟨rfl, rfl⟩
        go_wp2_with fail
        refine (num9_any 0 _).mono ?_
        rintro e wA ⟨rfl, rfl⟩
        go_wp2_with fail
        refine (LVW.out _ HU8.out).mono ?_
        rintro e w10 ⟨rfl, u10⟩
        have HU10 := Lib.hid (bmore HU8.out u10)
        clear u10
        go_wp2_with fail
        go_returns
        exact ⟨rfl, HU10.out⟩
      · have hne : (ee8 != 0) = true := by simp [h0]
        go_wp2_with fail
        refine (num9_any ee8 _).mono ?_
        rintro e wA ⟨rfl, rfl⟩
        go_wp2_with fail
        refine (LVW.out _ HU8.out).mono ?_
        rintro e w10 ⟨rfl, u10⟩
        have HU10 := Lib.hid (bmore HU8.out u10)
        clear u10
        go_wp2_with fail
        go_returns
        exact ⟨rfl, HU10.out⟩
end Go.Proofs.YtlckneajppfmbaaDoor
