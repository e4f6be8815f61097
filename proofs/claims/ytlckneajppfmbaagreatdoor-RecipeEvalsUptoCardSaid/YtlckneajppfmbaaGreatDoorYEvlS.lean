/-
  Every recipe over everything that may be known: the walk of RecipeEvals.
  The statement RecipeEvals, as a tied card: every recipe over everything that may be known. No condition.
-/
import Derived.Test.YtlckneajppfmbaaGreatDoorYRDo
import Derived.Test.YtlckneajppfmbaaGreatDoorTRTree
import Derived.Test.YtlckneajppfmbaaGreatDoorTLaidL
import Derived.Test.YtlckneajppfmbaaGreatDoorCards
import Derived.Test.YtlckneajppfmbaaGreatDoorTie
import Derived.JoinedOf
import Derived.ChangeMaps5
import Derived.SevenTiedAt
namespace Go.Proofs.YtlckneajppfmbaaGreatDoor
open Go.RowKit Go.Maps
set_option linter.unusedVariables false

section
variable {p : Pl}
/-- The trees of one term in the two pools are one tree. -/
theorem trees_same {t : Int} {n1 n2 : Nd} {k1 k2 : Fo} (h1 : inP p t = true → RepF p [t] (.cons n1 k1 .nil)) (h2 : inP p t = false → n1 = zeroN ∧ k1 = .nil) (g1 : inP p t = true → RepF p [t] (.cons n2 k2 .nil)) (g2 : inP p t = false → n2 = zeroN ∧ k2 = .nil) (o1 : OkF (.cons n1 k1 .nil)) (o2 : OkF (.cons n2 k2 .nil)) : n1 = n2 ∧ k1 = k2 := by
  cases hin : inP p t with
  | true =>
    have := RepF.tree (h1 hin) (g1 hin) o1.bare o2.bare
    simp only [Fo.cons.injEq, and_true] at this
    exact this
  | false =>
    obtain ⟨rfl, rfl⟩ := h2 hin
    obtain ⟨rfl, rfl⟩ := g2 hin
    exact ⟨rfl, rfl⟩
end
theorem same_yes {G G' : Nat → Prop} {n n2 : Nd} {k k2 : Fo} {W : World} {v v2 : Value} (e : n = n2 ∧ k = k2) (h1 : IsK W G v k) (h2 : IsK W G' v2 k2) (o1 : OkF (.cons n k .nil)) (o2 : OkF (.cons n2 k2 .nil)) : Calls Tryz.prog 15 #[.agg (treeA n v), .agg (treeA n2 v2)] W fun e w' => e = .returned (.bool true) ∧ Below W.heap.size W w' := by
  have := same_any n k n2 k2 W v v2 h1 h2 ⟨o1.2.1, o1.2.2.1⟩ ⟨o2.2.1, o2.2.2.1⟩ o1.2.2.2.1.bare o2.2.2.2.1.bare
  rwa [decide_eq_true e] at this


/-- With room no operation is refused for want of it. -/
theorem errP_six (p : Pl) (n : Nd) : errP p n ≠ 6 ∧ errP p n ≠ 3 := by
  have hs : shp n = 53 ∨ shp n = 50 ∨ shp n = 1 ∨ shp n = 0 := by
    unfold shp
    split
    · exact .inl rfl
    · split
      · exact .inr (.inl rfl)
      · split
        · exact .inr (.inr (.inl rfl))
        · exact .inr (.inr (.inr rfl))
  unfold errP
  split
  · rename_i h
    rcases hs with e | e | e | e <;> rw [e] <;> omega
  · split
    · omega
    · split <;> omega
theorem mk_six {p : Pl} (h : p.length < 65536) (n : Nd) : ((mkP p n).2.1 ≠ 6 ∧ (mkP p n).2.1 ≠ 3) ∧ (mkP p n).2.2.length ≤ p.length + 1 := by
  have he := errP_six p n
  unfold mkP
  split
  · exact ⟨he, by simp⟩
  · split
    · exact ⟨⟨by simp, by simp⟩, by simp⟩
    · rw [if_neg (by omega)]
      exact ⟨⟨by simp, by simp⟩, by simp [addP]⟩
theorem do_six {p : Pl} (h : p.length < 65536) (g m : List Int) (o : OpP) : ((doP p g m o).2.1 ≠ 6 ∧ (doP p g m o).2.1 ≠ 3) ∧ (doP p g m o).2.2.length ≤ p.length + 1 := by
  have h0 : ∀ x y : Int, y = 0 ∨ y = 90 → (fun r : Int × Int × Pl => (r.2.1 ≠ 6 ∧ r.2.1 ≠ 3) ∧ r.2.2.length ≤ p.length + 1) (x, y, p) := fun x y hy => ⟨⟨by simp only; omega, by simp only; omega⟩, by simp⟩
  have h1 : ∀ n, (fun r : Int × Int × Pl => (r.2.1 ≠ 6 ∧ r.2.1 ≠ 3) ∧ r.2.2.length ≤ p.length + 1) (mkP p n) := fun n => mk_six h n
  have hi : ∀ (c : Prop) [Decidable c] (x y : Int × Int × Pl), (fun r : Int × Int × Pl => (r.2.1 ≠ 6 ∧ r.2.1 ≠ 3) ∧ r.2.2.length ≤ p.length + 1) x → (fun r : Int × Int × Pl => (r.2.1 ≠ 6 ∧ r.2.1 ≠ 3) ∧ r.2.2.length ≤ p.length + 1) y → (fun r : Int × Int × Pl => (r.2.1 ≠ 6 ∧ r.2.1 ≠ 3) ∧ r.2.2.length ≤ p.length + 1) (if c then x else y) := fun c _ x y hx hy => by
    by_cases e : c
    · rw [if_pos e]; exact hx
    · rw [if_neg e]; exact hy
  show (fun r : Int × Int × Pl => (r.2.1 ≠ 6 ∧ r.2.1 ≠ 3) ∧ r.2.2.length ≤ p.length + 1) (doP p g m o)
  generalize (fun r : Int × Int × Pl => (r.2.1 ≠ 6 ∧ r.2.1 ≠ 3) ∧ r.2.2.length ≤ p.length + 1) = G at *
  unfold doP noP
  repeat' (first | exact h0 _ _ (.inl rfl) | exact h0 _ _ (.inr rfl) | exact h1 _ | refine hi _ _ _ ?_ ?_)
theorem run_six {g : List Int} : ∀ (l : List OpP) (p : Pl) (m : List Int), p.length + l.length ≤ 65535 → ((runP p g m l).2.1 ≠ 6 ∧ (runP p g m l).2.1 ≠ 3) ∧ (runP p g m l).2.2.length ≤ p.length + l.length
  | [], p, m, h => ⟨⟨by simp [runP], by simp [runP]⟩, by simp [runP]⟩
  | o :: l, p, m, h => by
    simp only [List.length_cons] at h ⊢
    obtain ⟨h1, h2⟩ := do_six (p := p) (by omega) g m o
    rw [runP_cons]
    split
    · exact ⟨h1, by simp only; omega⟩
    · obtain ⟨k1, k2⟩ := run_six l (doP p g m o).2.2 (m ++ [(doP p g m o).1]) (by omega)
      exact ⟨k1, by omega⟩
theorem wpList_append_ops {w : World} {ops : Array Oper} {rest : List Oper} {o : Oper} {a : Act} {Q : Exit → Act → World → Prop} (hgd : o.guard = none) (s x : Operand)
    (ho : o.op = .call { callee := .builtin .append, args := #[s, x], argTypes := #[23, 23] })
    (base : Nat) (v : Value) (xs : List OpP) (hs : a.eval s = v) (hown : w.ownsRow base OpT 5 v xs.length (opsV xs)) (vx : Value) (l : List OpP) (hx : a.eval x = vx) (hrd : Row w 5 vx l.length (opsV l))
    (hlen : xs.length + l.length ≤ 1000000) (hbase : base ≤ w.heap.size)
    (h : ∀ v' w', w'.ownsRow base OpT 5 v' (xs ++ l).length (opsV (xs ++ l)) → w.grownBy w' v.ownBlock → wpList Tryz.prog ops Q rest (a.put o.dst v') w') : wpList Tryz.prog ops Q (o :: rest) a w :=
  wpList_plain hgd fun _ hK => wp_append_ops s x ho base v xs hs hown vx l hx hrd hlen hbase fun v' w' h1 h2 => hK _ _ (h v' w' h1 h2)

set_option maxRecDepth 100000 in
set_option maxHeartbeats 25600000 in
theorem revals_walk {w : World} (hl : Laid w) {fo : Fo} {vn : Value} (hk : IsK w (fun b => b < w.heap.size) vn fo) (hok : OkF fo) {vo : Value} {l : List OpP} (hr : Row w 5 vo l.length (opsV l)) (hlo : ∀ o ∈ l, OpOk o) : Calls Tryz.prog 3 #[vn, vo] w fun e w' => e = .returned (.bool true) ∧ Below w.heap.size w w' := by
  obtain ⟨av, cv, rfl, _⟩ := hk.shape
  obtain ⟨la, lc, rfl⟩ := hr.shape
  have HL := Lib.hid hl
  have HK := Lib.hid hk
  have HOK := Lib.hid hok
  have HROW := Lib.hid hr
  have HLO := Lib.hid hlo
  have LA := Lib.hid (large9_any hk)
  clear hl hk hok hr hlo
  go_enter Tryz.func3, Tryz.ntmps3
  go_wp2_with fail
  refine LA.out.mono ?_
  rintro e w1 ⟨⟨q1, rfl, hq1⟩, u1⟩
  have HU1 := Lib.hid u1
  clear u1 LA
  have LVW : Hid (∀ W : World, Below w.heap.size w W → Calls Tryz.prog 6 #[] W fun e w' => e = .returned (.bool true) ∧ Below W.heap.size W w') := Lib.hid (fun W h => live9_any (HL.out.below h))
  cases q1 with
  | true =>
    go_wp2_with fail
    refine (LVW.out _ HU1.out).mono ?_
    rintro e w2 ⟨rfl, u2⟩
    have HU2 := Lib.hid (bmore HU1.out u2)
    clear u2
    go_wp2_with fail
    go_returns
    exact ⟨rfl, HU2.out⟩
  | false =>
    have hsz := hq1 rfl
    clear hq1
    have LG := Lib.hid (long_any (HROW.out.below HU1.out))
    go_wp2_with fail
    refine LG.out.mono ?_
    rintro e w2 ⟨⟨q2, rfl, hq2⟩, rfl⟩
    clear LG
    cases q2 with
    | true =>
      go_wp2_with fail
      refine (LVW.out _ HU1.out).mono ?_
      rintro e w3 ⟨rfl, u2⟩
      have HU2 := Lib.hid (bmore HU1.out u2)
      clear u2
      go_wp2_with fail
      go_returns
      exact ⟨rfl, HU2.out⟩
    | false =>
      have hl300 := hq2 rfl
      clear hq2
      have hkl := (HK.out.below HU1.out).keep (G' := fun b => b < w1.heap.size) (fun b hb _ => ⟨Nat.lt_of_lt_of_le hb HU1.out.size, rfl⟩)
      have GI := Lib.hid (lgiven_any (HL.out.below HU1.out) hkl HOK.out (by omega) (by omega))
      clear hkl
      have HBS := Lib.hid (HL.out.below HU1.out).lt
      have HLB := Lib.hid (fun (W : World) (h : Below w1.heap.size w1 W) => Laid.base (HL.out.below HU1.out) HBS.out h)
      have HW1 := Lib.hid HU1.out.size
      have HOPS := Lib.hid (fun (W : World) (h : Below w1.heap.size w1 W) => HROW.out.below (HU1.out.trans (h.mono HW1.out)))
      have HTO := Lib.hid (fun (W : World) (h : Below w1.heap.size w1 W) => HU1.out.trans (h.mono HW1.out))
      go_wp2_with fail
      refine GI.out.mono ?_
      rintro e w3 ⟨sb, pa, b, vv, k, mb, gv, s, ra, rl, rs, rd, gvl, q, gl, rfl, sd, hqs, _, u3, _⟩
      obtain ⟨gva, gvc, rfl⟩ := (row_of_own sd.row).shape
      have SD := Lib.hid sd
      have HV3 := Lib.hid u3
      have HGI := Lib.hid sd.know.ok.ing
      have hq1l : q.length ≤ 6000 := by omega
      clear sd u3 GI hqs
      have b4 := bZ w3 (.cells #[] OpT)
      have hmade : (w3.alloc (.cells #[] OpT)).ownsRow 0 OpT 5 (.slice (some ⟨w3.heap.size, 0, none⟩) 0 0) ([] : List OpP).length (opsV []) := World.ownsRow_made w3 #[] 0 (Nat.zero_le _) (by unfold maxLen; omega) rfl
      have HMD := Lib.hid hmade
      have HR4 := Lib.hid ((HOPS.out _ HV3.out).below b4)
      have HB4 := Lib.hid b4
      clear hmade b4
      go_wp2_with (at_builtin; refine wpList_append_ops rfl _ _ rfl 0 (.slice (some ⟨w3.heap.size, 0, none⟩) 0 0) [] rfl HMD.out _ l rfl HR4.out (by simp; omega) (Nat.zero_le _) ?_; intro v5 w5 hrow5 hg5; rw [List.nil_append] at hrow5; obtain ⟨xa, xc, rfl⟩ := (row_of_own hrow5).shape)
      have b5 : Below w3.heap.size w3 w5 := HB4.out.trans (grown_below hg5 HB4.out.size (fun j e => by simp only [Value.ownBlock, Option.some.injEq] at e; rw [← e]; exact Nat.le_refl _))
      have SD5 := Lib.hid (SD.out.below b5)
      have HV5 := Lib.hid (HV3.out.trans (b5.mono HV3.out.size))
      have HX5 := Lib.hid hrow5
      clear b5 hrow5 hg5 HMD HR4 HB4 SD HV3
      have x0 := cellB (j := 0) SD5.out.lay rfl
      have x1 := cellB (j := 1) SD5.out.lay rfl
      have x2 := cellB (j := 2) SD5.out.lay rfl
      have x3 := cellB (j := 3) SD5.out.lay rfl
      have HKP := Lib.hid (fun (V : World) (hb : Below w5.heap.size w5 V) => (show V.cell? ⟨sb, 0, none⟩ = some (.pointer (some ⟨pa, 0, none⟩)) ∧ V.cell? ⟨sb, 1, none⟩ = some (.pointer (some ⟨k, 0, none⟩)) ∧ V.cell? ⟨sb, 2, none⟩ = some (.pointer (some ⟨ra, 0, none⟩)) ∧ V.cell? ⟨sb, 3, none⟩ = some (.slice gva gl.length gvc) from ⟨bcellAt hb x0, bcellAt hb x1, bcellAt hb x2, bcellAt hb x3⟩))
      have HKQ := Lib.hid (fun (V : World) (hs : V.heap[sb]? = some (Obj.cells #[.pointer (some ⟨pa, 0, none⟩), .pointer (some ⟨k, 0, none⟩), .pointer (some ⟨ra, 0, none⟩), .slice gva gl.length gvc] SidesT)) => (show V.cell? ⟨sb, 0, none⟩ = some (.pointer (some ⟨pa, 0, none⟩)) ∧ V.cell? ⟨sb, 1, none⟩ = some (.pointer (some ⟨k, 0, none⟩)) ∧ V.cell? ⟨sb, 2, none⟩ = some (.pointer (some ⟨ra, 0, none⟩)) ∧ V.cell? ⟨sb, 3, none⟩ = some (.slice gva gl.length gvc) from ⟨cellB (j := 0) hs rfl, cellB (j := 1) hs rfl, cellB (j := 2) hs rfl, cellB (j := 3) hs rfl⟩))
      have EV := Lib.hid (eval_any HBS.out (SD5.out.pool.below (bd w5)) ((HLB.out _ HV5.out).below (bd w5)) (SD5.out.know.below (bd w5)) SD5.out.mbb (own_hold HX5.out (Hold.below (bd w5))) HLO.out)
      unfold EvPost at EV
      have hrl := fun h6 => (run_six (g := gl) l q [] h6)
      obtain ⟨e6, he6⟩ := (fol_sound (g := gl) l SD5.out.pool.ok HGI.out).2.1
      have hfl : (256 < l.length ∧ folP q gl l = ([], 6, q)) ∨ (l.length = 0 ∧ folP q gl l = ([], 3, q)) ∨ (¬ 256 < l.length ∧ l.length ≠ 0 ∧ (∀ p' : Pl, folP p' gl l = runP p' gl [] l) ∧ (folP q gl l).2.1 ≠ 6 ∧ (folP q gl l).2.1 ≠ 3) := by
        by_cases h1 : 256 < l.length
        · exact .inl ⟨h1, by unfold folP; rw [if_pos h1]⟩
        · by_cases h2 : l.length = 0
          · exact .inr (.inl ⟨h2, by unfold folP; rw [if_neg h1, if_pos h2]⟩)
          · have hf : ∀ p' : Pl, folP p' gl l = runP p' gl [] l := fun p' => by unfold folP; rw [if_neg h1, if_neg h2]
            have h6 := hrl (by omega)
            exact .inr (.inr ⟨h1, h2, hf, by rw [hf]; exact h6.1.1, by rw [hf]; exact h6.1.2⟩)
      have HFL := Lib.hid hfl
      clear hrl hfl
      have HEQ : Hid (evlP (folP q gl l) = evlP (folP q gl l)) := Lib.hid rfl
      have HE1 : Hid ((evlP (folP q gl l)).2.1 = (folP q gl l).2.1) := Lib.hid (by unfold evlP; split; rfl; rename_i h; simp only; omega)
      have RE0 := Lib.hid (fun (W : World) (rl' rs' rd' : Value) (h1 : IsRef W w1.heap.size ra rl' rs' rd' q) (h2 : W.ownsRow w1.heap.size TermT 1 (.slice gva gl.length gvc) gl.length (ints gl)) (h3 : Below w1.heap.size w1 W) => reval_any h1 h2 HGI.out (vo := .slice la l.length lc) (l := l) (fun W' h => HOPS.out W' (h3.trans h)) HLO.out (by omega))
      unfold REvPost at RE0
      have HFF : Hid (folP q gl l = folP q gl l) := Lib.hid rfl
      generalize hr1 : folP q gl l = r1 at *
      obtain ⟨made1, er1, q1'⟩ := r1
      simp only at he6 HE1
      subst he6
      generalize hev : evlP (made1, er1, q ++ e6) = ev at *
      obtain ⟨t1, f1, at1⟩ := ev
      simp only at HE1
      have hf1 : f1 = er1 := HE1.out
      subst hf1
      clear HE1 HEQ HFF
      go_wp2_with fail
      go_region_held3 (fun V => V.cell? ⟨sb, 0, none⟩ = some (.pointer (some ⟨pa, 0, none⟩)) ∧ V.cell? ⟨sb, 1, none⟩ = some (.pointer (some ⟨k, 0, none⟩)) ∧ V.cell? ⟨sb, 2, none⟩ = some (.pointer (some ⟨ra, 0, none⟩)) ∧ V.cell? ⟨sb, 3, none⟩ = some (.slice gva gl.length gvc)) ((first | exact HKQ.out _ HS6.out | (refine HKP.out _ ?_; first | exact bd _ | exact bdn _ _)))
        (((with_reducible refine EV.out.mono ?_); rintro e w6 ⟨rfl, g6⟩; have HS6 := Lib.hid (g6.hold (SD5.out.pool.below (bd w5)) (T := SidesT) (by decide) (by decide) _ _ (Hold.below (bd w5) _ _ SD5.out.lay))))
      have sd5 := SD5.out.below (bd w5)
      have HV6 := Lib.hid ((HV5.out.trans ((bd w5).mono HV5.out.size)).trans g6.1)
      have HK6 := Lib.hid (sd5.know.grow sd5.pool sd5.mbb g6)
      have HR6 := Lib.hid (IsRef.grew sd5.pool sd5.ref g6)
      have HG6 := Lib.hid (own_hold sd5.row (g6.hold sd5.pool (T := TermT) (by decide) (by decide)))
      have HX6 := Lib.hid (own_hold (own_hold HX5.out (Hold.below (bd w5))) (g6.hold sd5.pool (T := OpT) (by decide) (by decide)))
      obtain ⟨_, _, v6, p6, _⟩ := g6
      have HP6 := Lib.hid p6
      clear p6 sd5 x0 x1 x2 x3 HKP EV HX5 HV5
      have x0 := cellB (j := 0) HS6.out rfl
      have x1 := cellB (j := 1) HS6.out rfl
      have x2 := cellB (j := 2) HS6.out rfl
      have x3 := cellB (j := 3) HS6.out rfl
      have HKP := Lib.hid (fun (V : World) (hb : Below w6.heap.size w6 V) => (show V.cell? ⟨sb, 0, none⟩ = some (.pointer (some ⟨pa, 0, none⟩)) ∧ V.cell? ⟨sb, 1, none⟩ = some (.pointer (some ⟨k, 0, none⟩)) ∧ V.cell? ⟨sb, 2, none⟩ = some (.pointer (some ⟨ra, 0, none⟩)) ∧ V.cell? ⟨sb, 3, none⟩ = some (.slice gva gl.length gvc) from ⟨bcellAt hb x0, bcellAt hb x1, bcellAt hb x2, bcellAt hb x3⟩))
      have RE := Lib.hid (RE0.out (w6.drew) _ _ _ (HR6.out.below (bd w6)) (own_hold HG6.out (Hold.below (bd w6))) (HV6.out.trans ((bd w6).mono HV6.out.size)))
      clear RE0
      go_wp2_with fail
      go_region_held3 (fun V => V.cell? ⟨sb, 0, none⟩ = some (.pointer (some ⟨pa, 0, none⟩)) ∧ V.cell? ⟨sb, 1, none⟩ = some (.pointer (some ⟨k, 0, none⟩)) ∧ V.cell? ⟨sb, 2, none⟩ = some (.pointer (some ⟨ra, 0, none⟩)) ∧ V.cell? ⟨sb, 3, none⟩ = some (.slice gva gl.length gvc)) ((first | exact HKQ.out _ HS7.out | (refine HKP.out _ ?_; first | exact bd _ | exact bdn _ _)))
        (((with_reducible refine RE.out.mono ?_); rintro e w7 ⟨rfl, vl7, vs7, vd7, r7, m7⟩; have HS7 := Lib.hid (m7.hold (T := SidesT) (by decide) (by decide) (by decide) _ _ (Hold.below (bd w6) _ _ HS6.out))))
      have HV7 := Lib.hid ((HV6.out.trans ((bd w6).mono HV6.out.size)).trans m7.1)
      have HP7 := Lib.hid (IsPool.rmost (HP6.out.below (bd w6)) m7)
      have HK7 := Lib.hid ((HK6.out.below (bd w6)).rmost m7)
      have HG7 := Lib.hid (own_hold (own_hold HG6.out (Hold.below (bd w6))) (m7.hold (T := TermT) (by decide) (by decide) (by decide)))
      have HX7 := Lib.hid (own_hold (own_hold HX6.out (Hold.below (bd w6))) (m7.hold (T := OpT) (by decide) (by decide) (by decide)))
      have HR7 := Lib.hid r7
      clear r7 m7 x0 x1 x2 x3 HKP RE HP6 HK6 HR6 HG6 HX6 HS6
      have x0 := cellB (j := 0) HS7.out rfl
      have x1 := cellB (j := 1) HS7.out rfl
      have x2 := cellB (j := 2) HS7.out rfl
      have x3 := cellB (j := 3) HS7.out rfl
      have HKP := Lib.hid (fun (V : World) (hb : Below w7.heap.size w7 V) => (show V.cell? ⟨sb, 0, none⟩ = some (.pointer (some ⟨pa, 0, none⟩)) ∧ V.cell? ⟨sb, 1, none⟩ = some (.pointer (some ⟨k, 0, none⟩)) ∧ V.cell? ⟨sb, 2, none⟩ = some (.pointer (some ⟨ra, 0, none⟩)) ∧ V.cell? ⟨sb, 3, none⟩ = some (.slice gva gl.length gvc) from ⟨bcellAt hb x0, bcellAt hb x1, bcellAt hb x2, bcellAt hb x3⟩))
      have TR := Lib.hid (trace_any HBS.out (HP7.out.below (bd w7)) ((HLB.out _ HV7.out).below (bd w7)) (HK7.out.below (bd w7)) SD5.out.mbb (own_hold HX7.out (Hold.below (bd w7))) HLO.out)
      unfold TrPost at TR
      obtain ⟨e8, he8⟩ := (fol_sound (g := gl) l HP7.out.ok HK7.out.ok.ing).2.1
      have RU0 := Lib.hid (fun (W : World) (rl' rs' rd' : Value) (h1 : IsRef W w1.heap.size ra rl' rs' rd' (q ++ e6)) (h2 : W.ownsRow w1.heap.size TermT 1 (.slice gva gl.length gvc) gl.length (ints gl)) (h3 : Below w1.heap.size w1 W) => rrun_any h1 h2 HK7.out.ok.ing (vo := .slice la l.length lc) (l := l) (fun W' h => HOPS.out W' (h3.trans h)) HLO.out (by omega))
      generalize hr8 : folP (q ++ e6) gl l = r8 at *
      obtain ⟨made8, er8, q8⟩ := r8
      simp only at he8
      subst he8
      go_wp2_with fail
      go_region_held3 (fun V => V.cell? ⟨sb, 0, none⟩ = some (.pointer (some ⟨pa, 0, none⟩)) ∧ V.cell? ⟨sb, 1, none⟩ = some (.pointer (some ⟨k, 0, none⟩)) ∧ V.cell? ⟨sb, 2, none⟩ = some (.pointer (some ⟨ra, 0, none⟩)) ∧ V.cell? ⟨sb, 3, none⟩ = some (.slice gva gl.length gvc)) ((first | exact HKQ.out _ HS8.out | (refine HKP.out _ ?_; first | exact bd _ | exact bdn _ _)))
        (((with_reducible refine TR.out.mono ?_); rintro e w8 ⟨mv, rfl, hmv, g8⟩; have HS8 := Lib.hid (g8.hold (HP7.out.below (bd w7)) (T := SidesT) (by decide) (by decide) _ _ (Hold.below (bd w7) _ _ HS7.out))))
      have hp7 := HP7.out.below (bd w7)
      have HV8 := Lib.hid ((HV7.out.trans ((bd w7).mono HV7.out.size)).trans g8.1)
      have HR8 := Lib.hid (IsRef.grew hp7 (HR7.out.below (bd w7)) g8)
      have HG8 := Lib.hid (own_hold (own_hold HG7.out (Hold.below (bd w7))) (g8.hold hp7 (T := TermT) (by decide) (by decide)))
      have HX8 := Lib.hid (own_hold (own_hold HX7.out (Hold.below (bd w7))) (g8.hold hp7 (T := OpT) (by decide) (by decide)))
      have HM8 := Lib.hid hmv
      have HLN := Lib.hid (show w1.heap.size ≤ w7.heap.size from HV7.out.size)
      obtain ⟨_, _, v8, p8, _⟩ := g8
      have HP8 := Lib.hid p8
      obtain ⟨ma, mc, rfl⟩ := (row_of_own hmv).shape
      clear p8 hmv hp7 x0 x1 x2 x3 HKP TR HP7 HR7 HG7 HX7 HS7 HK7
      by_cases hbig : 256 < l.length ∨ l.length = 0
      · have h8 : ∀ p' : Pl, (folP p' gl l).1 = [] ∧ ((folP p' gl l).2.1 = 6 ∨ (folP p' gl l).2.1 = 3) ∧ (folP p' gl l).2.2 = p' := fun p' => by
          unfold folP
          by_cases h1 : 256 < l.length
          · rw [if_pos h1]; exact ⟨rfl, .inl rfl, rfl⟩
          · rw [if_neg h1, if_pos (hbig.resolve_left h1)]; exact ⟨rfl, .inr rfl, rfl⟩
        have h81 := h8 q
        rw [hr1] at h81
        have h88 := h8 (q ++ e6)
        rw [hr8] at h88
        obtain ⟨rfl, hf1, he6⟩ := h81
        obtain ⟨rfl, _, he8⟩ := h88
        simp only at he8 hf1
        have hf63 : ((f1 != 6) && (f1 != 3)) = false := by rcases hf1 with h | h <;> rw [h] <;> rfl
        have hcase : (f1 != 6) = false ∨ ((f1 != 6) = true ∧ (f1 != 3) = false) := by rcases hf1 with h | h <;> rw [h] <;> simp
        obtain ⟨qz, hqz⟩ : ∃ qz, qz = (q ++ e6) ++ e8 := ⟨_, rfl⟩
        rw [he8] at hqz
        have HPW : Hid (IsPool w8 w1.heap.size pa b v8 qz) := Lib.hid (by rw [hqz, ← he8]; exact HP8.out)
        have HRW : Hid (IsRef w8 w1.heap.size ra vl7 vs7 vd7 qz) := Lib.hid (by rw [hqz]; exact HR8.out)
        have HSW := Lib.hid HS8.out
        have HVW := Lib.hid HV8.out
        have HXW := Lib.hid (row_of_own HX8.out)
        have HOW := Lib.hid (HOPS.out _ HV8.out)
        have HMW := Lib.hid (row_of_own HM8.out)
        obtain ⟨made8, hm8⟩ : ∃ made8 : List Int, made8 = [] := ⟨_, rfl⟩
        have HNW : Hid (Row w8 1 (.slice none made8.length 0) made8.length (ints made8)) := Lib.hid (by rw [hm8]; exact ⟨rfl, .inl ⟨rfl, rfl⟩⟩)
        rw [← hm8] at HMW
        have hlz : made8.length = 0 := by rw [hm8]; rfl
        clear HP8 HR8 HS8 HV8 HX8 HM8 HG8 RU0 HFL hev hr1 hr8 h8 he6 he8 hf63 hbig
        rcases hcase with hc1 | ⟨hc1, hc2⟩
        · skip
          obtain ⟨nva, nvc, rfl⟩ := (row_of_own HRW.out.rl).shape
          have z0 := cellB (j := 0) HSW.out rfl
          have z2 := cellB (j := 2) HSW.out rfl
          have zr := cellB (j := 0) HRW.out.lay rfl
          have HKP := Lib.hid (fun (V : World) (hb : Below w8.heap.size w8 V) => (show V.cell? ⟨sb, 0, none⟩ = some (.pointer (some ⟨pa, 0, none⟩)) ∧ V.cell? ⟨sb, 2, none⟩ = some (.pointer (some ⟨ra, 0, none⟩)) ∧ V.cell? ⟨ra, 0, none⟩ = some (.slice nva qz.length nvc) from ⟨bcellAt hb z0, bcellAt hb z2, bcellAt hb zr⟩))
          have hoo : (t1 != t1) = false := by simp
          have hff : (f1 != f1) = false := by simp
          have haa : (at1 != at1) = false := by simp
          have NU := Lib.hid (fun (V : World) => num9_any f1 V)
          have PL := Lib.hid (fun (V : World) (h : Below w8.heap.size w8 V) => plen (HPW.out.below h))
          have SM := Lib.hid (fun (V : World) (h : Below w8.heap.size w8 V) => rsame9_any (HXW.out.below h) (HOW.out.below h) HLO.out)
          go_wp2_with fail
          go_region_held3 (fun V => V.cell? ⟨sb, 0, none⟩ = some (.pointer (some ⟨pa, 0, none⟩)) ∧ V.cell? ⟨sb, 2, none⟩ = some (.pointer (some ⟨ra, 0, none⟩)) ∧ V.cell? ⟨ra, 0, none⟩ = some (.slice nva qz.length nvc)) ((refine HKP.out _ ?_; first | exact bd _ | exact bdn _ _ | exact bmore (bd _) u4))
            ((first
              | ((with_reducible refine (NU.out _).mono ?_); rintro e w9 ⟨rfl, rfl⟩)
              | ((with_reducible refine (PL.out _ (bd _)).mono ?_); rintro e w9 ⟨rfl, rfl⟩)
              | ((with_reducible refine (SM.out _ (bd _)).mono ?_); rintro e w9 ⟨rfl, u4⟩)))
          have hb9 := bmore (bd w8) u4
          have HVW9 := Lib.hid (HVW.out.trans (hb9.mono HVW.out.size))
          have HSW9 := Lib.hid (Hold.below hb9 _ _ HSW.out)
          have HPW9 := Lib.hid (HPW.out.below hb9)
          have HRW9 := Lib.hid (HRW.out.below hb9)
          have HM9 := Lib.hid (HMW.out.below hb9)
          have HN9 := Lib.hid (HNW.out.below hb9)
          have hml := HM9.out.small
          unfold maxLen at hml
          clear hb9 u4 z0 z2 zr HKP SM PL NU HPW HRW HMW HNW HSW HVW HXW HOW
          go_wp2_with fail
          go_loopw [16] (fun v16 wr => ∃ i : Nat, v16 = .int .i64 (i : Int) ∧ i ≤ made8.length ∧ Below w9.heap.size w9 wr) (fun v _ => made8.length - (intOf v).toNat)
          case atStart => exact ⟨0, rfl, Nat.zero_le _, Below.refl _ _⟩
          case round =>
            obtain ⟨i, rfl, hi, hb⟩ := hrel
            have HB := Lib.hid hb
            by_cases hlt : i < made8.length
            · exact absurd hlt (by omega)
            · obtain rfl : i = made8.length := by omega
              have hs := Hold.below hb _ _ HSW9.out
              have z0 := cellB (j := 0) hs rfl
              have z2 := cellB (j := 2) hs rfl
              have HKP := Lib.hid (fun (V : World) (hb : Below wr.heap.size wr V) => (show V.cell? ⟨sb, 0, none⟩ = some (.pointer (some ⟨pa, 0, none⟩)) ∧ V.cell? ⟨sb, 2, none⟩ = some (.pointer (some ⟨ra, 0, none⟩)) from ⟨bcellAt hb z0, bcellAt hb z2⟩))
              have HVE := Lib.hid (HVW9.out.trans (hb.mono HVW9.out.size))
              have PT := Lib.hid (fun (V : World) (h : Below wr.heap.size wr V) => ptree (HLB.out _ (HVE.out.trans (h.mono HVE.out.size))) ((HPW9.out.below HB.out).below h) t1)
              have RT := Lib.hid (fun (V : World) (h : Below wr.heap.size wr V) => rtree ((HRW9.out.below HB.out).below h) t1)
              have LV := Lib.hid (fun (V : World) (h : Below wr.heap.size wr V) => LVW.out V (HTO.out _ (HVE.out.trans (h.mono HVE.out.size))))
              clear hs hb hlt hi
              go_wp2_with fail
              go_region_held3 (fun V => V.cell? ⟨sb, 0, none⟩ = some (.pointer (some ⟨pa, 0, none⟩)) ∧ V.cell? ⟨sb, 2, none⟩ = some (.pointer (some ⟨ra, 0, none⟩))) ((refine HKP.out _ ?_; first | exact bd _ | exact bdn _ _ | exact bmore (bd _) u2 | exact bmore (bmore (bd _) u2) u3 | exact bmore (bmore (bmore (bd _) u2) u3) u4 | exact bmore (bmore (bmore (bmore (bd _) u2) u3) u4) u5))
                ((first
                  | ((with_reducible refine (PT.out _ (bd _)).mono ?_); rintro e w10 ⟨m1, j1, a1, rfl, hm1, ho1, u2, hr1, hz1⟩)
                  | ((with_reducible refine (RT.out _ (bmore (bd _) u2)).mono ?_); rintro e w11 ⟨m2, j2, a2, rfl, hm2, ho2, u3, hr2, hz2⟩)
                  | ((with_reducible refine (same_yes (trees_same hr1 hz1 hr2 hz2 ho1 ho2) (hm1.below u3) hm2 ho1 ho2).mono ?_); rintro e w12 ⟨rfl, u4⟩)
                  | ((with_reducible refine (LV.out _ (bmore (bmore (bmore (bd _) u2) u3) u4)).mono ?_); rintro e w13 ⟨rfl, u5⟩)))
              have hbz := bmore (bmore (bmore (bmore (bd wr) u2) u3) u4) u5
              have HBZ := Lib.hid (HTO.out _ (HVE.out.trans (hbz.mono HVE.out.size)))
              clear u2 u3 u4 u5 hbz
              go_wp2_with fail
              go_returns
              exact ⟨rfl, HBZ.out⟩
        · skip
          obtain ⟨nva, nvc, rfl⟩ := (row_of_own HRW.out.rl).shape
          have z0 := cellB (j := 0) HSW.out rfl
          have z2 := cellB (j := 2) HSW.out rfl
          have zr := cellB (j := 0) HRW.out.lay rfl
          have HKP := Lib.hid (fun (V : World) (hb : Below w8.heap.size w8 V) => (show V.cell? ⟨sb, 0, none⟩ = some (.pointer (some ⟨pa, 0, none⟩)) ∧ V.cell? ⟨sb, 2, none⟩ = some (.pointer (some ⟨ra, 0, none⟩)) ∧ V.cell? ⟨ra, 0, none⟩ = some (.slice nva qz.length nvc) from ⟨bcellAt hb z0, bcellAt hb z2, bcellAt hb zr⟩))
          have hoo : (t1 != t1) = false := by simp
          have hff : (f1 != f1) = false := by simp
          have haa : (at1 != at1) = false := by simp
          have NU := Lib.hid (fun (V : World) => num9_any f1 V)
          have PL := Lib.hid (fun (V : World) (h : Below w8.heap.size w8 V) => plen (HPW.out.below h))
          have SM := Lib.hid (fun (V : World) (h : Below w8.heap.size w8 V) => rsame9_any (HXW.out.below h) (HOW.out.below h) HLO.out)
          go_wp2_with fail
          go_region_held3 (fun V => V.cell? ⟨sb, 0, none⟩ = some (.pointer (some ⟨pa, 0, none⟩)) ∧ V.cell? ⟨sb, 2, none⟩ = some (.pointer (some ⟨ra, 0, none⟩)) ∧ V.cell? ⟨ra, 0, none⟩ = some (.slice nva qz.length nvc)) ((refine HKP.out _ ?_; first | exact bd _ | exact bdn _ _ | exact bmore (bd _) u4))
            ((first
              | ((with_reducible refine (NU.out _).mono ?_); rintro e w9 ⟨rfl, rfl⟩)
              | ((with_reducible refine (PL.out _ (bd _)).mono ?_); rintro e w9 ⟨rfl, rfl⟩)
              | ((with_reducible refine (SM.out _ (bd _)).mono ?_); rintro e w9 ⟨rfl, u4⟩)))
          have hb9 := bmore (bd w8) u4
          have HVW9 := Lib.hid (HVW.out.trans (hb9.mono HVW.out.size))
          have HSW9 := Lib.hid (Hold.below hb9 _ _ HSW.out)
          have HPW9 := Lib.hid (HPW.out.below hb9)
          have HRW9 := Lib.hid (HRW.out.below hb9)
          have HM9 := Lib.hid (HMW.out.below hb9)
          have HN9 := Lib.hid (HNW.out.below hb9)
          have hml := HM9.out.small
          unfold maxLen at hml
          clear hb9 u4 z0 z2 zr HKP SM PL NU HPW HRW HMW HNW HSW HVW HXW HOW
          go_wp2_with fail
          go_loopw [16] (fun v16 wr => ∃ i : Nat, v16 = .int .i64 (i : Int) ∧ i ≤ made8.length ∧ Below w9.heap.size w9 wr) (fun v _ => made8.length - (intOf v).toNat)
          case atStart => exact ⟨0, rfl, Nat.zero_le _, Below.refl _ _⟩
          case round =>
            obtain ⟨i, rfl, hi, hb⟩ := hrel
            have HB := Lib.hid hb
            by_cases hlt : i < made8.length
            · exact absurd hlt (by omega)
            · obtain rfl : i = made8.length := by omega
              have hs := Hold.below hb _ _ HSW9.out
              have z0 := cellB (j := 0) hs rfl
              have z2 := cellB (j := 2) hs rfl
              have HKP := Lib.hid (fun (V : World) (hb : Below wr.heap.size wr V) => (show V.cell? ⟨sb, 0, none⟩ = some (.pointer (some ⟨pa, 0, none⟩)) ∧ V.cell? ⟨sb, 2, none⟩ = some (.pointer (some ⟨ra, 0, none⟩)) from ⟨bcellAt hb z0, bcellAt hb z2⟩))
              have HVE := Lib.hid (HVW9.out.trans (hb.mono HVW9.out.size))
              have PT := Lib.hid (fun (V : World) (h : Below wr.heap.size wr V) => ptree (HLB.out _ (HVE.out.trans (h.mono HVE.out.size))) ((HPW9.out.below HB.out).below h) t1)
              have RT := Lib.hid (fun (V : World) (h : Below wr.heap.size wr V) => rtree ((HRW9.out.below HB.out).below h) t1)
              have LV := Lib.hid (fun (V : World) (h : Below wr.heap.size wr V) => LVW.out V (HTO.out _ (HVE.out.trans (h.mono HVE.out.size))))
              clear hs hb hlt hi
              go_wp2_with fail
              go_region_held3 (fun V => V.cell? ⟨sb, 0, none⟩ = some (.pointer (some ⟨pa, 0, none⟩)) ∧ V.cell? ⟨sb, 2, none⟩ = some (.pointer (some ⟨ra, 0, none⟩))) ((refine HKP.out _ ?_; first | exact bd _ | exact bdn _ _ | exact bmore (bd _) u2 | exact bmore (bmore (bd _) u2) u3 | exact bmore (bmore (bmore (bd _) u2) u3) u4 | exact bmore (bmore (bmore (bmore (bd _) u2) u3) u4) u5))
                ((first
                  | ((with_reducible refine (PT.out _ (bd _)).mono ?_); rintro e w10 ⟨m1, j1, a1, rfl, hm1, ho1, u2, hr1, hz1⟩)
                  | ((with_reducible refine (RT.out _ (bmore (bd _) u2)).mono ?_); rintro e w11 ⟨m2, j2, a2, rfl, hm2, ho2, u3, hr2, hz2⟩)
                  | ((with_reducible refine (same_yes (trees_same hr1 hz1 hr2 hz2 ho1 ho2) (hm1.below u3) hm2 ho1 ho2).mono ?_); rintro e w12 ⟨rfl, u4⟩)
                  | ((with_reducible refine (LV.out _ (bmore (bmore (bmore (bd _) u2) u3) u4)).mono ?_); rintro e w13 ⟨rfl, u5⟩)))
              have hbz := bmore (bmore (bmore (bmore (bd wr) u2) u3) u4) u5
              have HBZ := Lib.hid (HTO.out _ (HVE.out.trans (hbz.mono HVE.out.size)))
              clear u2 u3 u4 u5 hbz
              go_wp2_with fail
              go_returns
              exact ⟨rfl, HBZ.out⟩
      · obtain ⟨_, _, hf, h6, h3⟩ := (HFL.out.resolve_left (fun h => hbig (.inl h.1))).resolve_left (fun h => hbig (.inr h.1))
        try simp only at h6 h3
        have hc1 : (f1 != 6) = true := by simp [h6]
        have hc2 : (f1 != 3) = true := by simp [h3]
        have hrr : runP (q ++ e6) gl [] l = (made8, er8, (q ++ e6) ++ e8) := by rw [← hf, hr8]
        rw [hrr] at RU0
        have x0 := cellB (j := 0) HS8.out rfl
        have x1 := cellB (j := 1) HS8.out rfl
        have x2 := cellB (j := 2) HS8.out rfl
        have x3 := cellB (j := 3) HS8.out rfl
        have HKP := Lib.hid (fun (V : World) (hb : Below w8.heap.size w8 V) => (show V.cell? ⟨sb, 0, none⟩ = some (.pointer (some ⟨pa, 0, none⟩)) ∧ V.cell? ⟨sb, 1, none⟩ = some (.pointer (some ⟨k, 0, none⟩)) ∧ V.cell? ⟨sb, 2, none⟩ = some (.pointer (some ⟨ra, 0, none⟩)) ∧ V.cell? ⟨sb, 3, none⟩ = some (.slice gva gl.length gvc) from ⟨bcellAt hb x0, bcellAt hb x1, bcellAt hb x2, bcellAt hb x3⟩))
        have RU := Lib.hid (RU0.out (w8.drew) _ _ _ (HR8.out.below (bd w8)) (own_hold HG8.out (Hold.below (bd w8))) (HV8.out.trans ((bd w8).mono HV8.out.size)))
        clear RU0 hev hr1 hr8 hbig HFL hf hrr
        go_wp2_with fail
        go_region_held3 (fun V => V.cell? ⟨sb, 0, none⟩ = some (.pointer (some ⟨pa, 0, none⟩)) ∧ V.cell? ⟨sb, 1, none⟩ = some (.pointer (some ⟨k, 0, none⟩)) ∧ V.cell? ⟨sb, 2, none⟩ = some (.pointer (some ⟨ra, 0, none⟩)) ∧ V.cell? ⟨sb, 3, none⟩ = some (.slice gva gl.length gvc)) ((first | exact HKQ.out _ HS9.out | (refine HKP.out _ ?_; first | exact bd _ | exact bdn _ _)))
          (((with_reducible refine RU.out.mono ?_); rintro e w19 ⟨mw, rfl, hmw, vl9, vs9, vd9, r9, m9⟩; have HS9 := Lib.hid (m9.hold (T := SidesT) (by decide) (by decide) (by decide) _ _ (Hold.below (bd w8) _ _ HS8.out))))
        have HVW := Lib.hid ((HV8.out.trans ((bd w8).mono HV8.out.size)).trans m9.1)
        obtain ⟨qz, hqz⟩ : ∃ qz, qz = (q ++ e6) ++ e8 := ⟨_, rfl⟩
        have HPW : Hid (IsPool w19 w1.heap.size pa b v8 qz) := Lib.hid (by rw [hqz]; exact IsPool.rmost (HP8.out.below (bd w8)) m9)
        have HRW : Hid (IsRef w19 w1.heap.size ra vl9 vs9 vd9 qz) := Lib.hid (by rw [hqz]; exact r9)
        have HSW := HS9
        have HXW := Lib.hid (row_of_own (own_hold (own_hold HX8.out (Hold.below (bd w8))) (m9.hold (T := OpT) (by decide) (by decide) (by decide))))
        have HOW := Lib.hid (HOPS.out _ HVW.out)
        have HMW := Lib.hid (row_of_own (own_hold (own_hold HM8.out (Hold.below (bd w8))) (m9.hold (T := TermT) (by decide) (by decide) (by decide))))
        have HNW := Lib.hid (row_of_own hmw)
        obtain ⟨na, nc, rfl⟩ := (row_of_own hmw).shape
        clear r9 m9 hmw x0 x1 x2 x3 RU HP8 HR8 HS8 HV8 HX8 HM8 HG8 HKP
        obtain ⟨nva, nvc, rfl⟩ := (row_of_own HRW.out.rl).shape
        have z0 := cellB (j := 0) HSW.out rfl
        have z2 := cellB (j := 2) HSW.out rfl
        have zr := cellB (j := 0) HRW.out.lay rfl
        have HKP := Lib.hid (fun (V : World) (hb : Below w19.heap.size w19 V) => (show V.cell? ⟨sb, 0, none⟩ = some (.pointer (some ⟨pa, 0, none⟩)) ∧ V.cell? ⟨sb, 2, none⟩ = some (.pointer (some ⟨ra, 0, none⟩)) ∧ V.cell? ⟨ra, 0, none⟩ = some (.slice nva qz.length nvc) from ⟨bcellAt hb z0, bcellAt hb z2, bcellAt hb zr⟩))
        have hoo : (t1 != t1) = false := by simp
        have hff : (f1 != f1) = false := by simp
        have haa : (at1 != at1) = false := by simp
        have NU := Lib.hid (fun (V : World) => num9_any f1 V)
        have PL := Lib.hid (fun (V : World) (h : Below w19.heap.size w19 V) => plen (HPW.out.below h))
        have SM := Lib.hid (fun (V : World) (h : Below w19.heap.size w19 V) => rsame9_any (HXW.out.below h) (HOW.out.below h) HLO.out)
        go_wp2_with fail
        go_region_held3 (fun V => V.cell? ⟨sb, 0, none⟩ = some (.pointer (some ⟨pa, 0, none⟩)) ∧ V.cell? ⟨sb, 2, none⟩ = some (.pointer (some ⟨ra, 0, none⟩)) ∧ V.cell? ⟨ra, 0, none⟩ = some (.slice nva qz.length nvc)) ((refine HKP.out _ ?_; first | exact bd _ | exact bdn _ _ | exact bmore (bd _) u4))
          ((first
            | ((with_reducible refine (NU.out _).mono ?_); rintro e w9 ⟨rfl, rfl⟩)
            | ((with_reducible refine (PL.out _ (bd _)).mono ?_); rintro e w9 ⟨rfl, rfl⟩)
            | ((with_reducible refine (SM.out _ (bd _)).mono ?_); rintro e w9 ⟨rfl, u4⟩)))
        have hb9 := bmore (bd w19) u4
        have HVW9 := Lib.hid (HVW.out.trans (hb9.mono HVW.out.size))
        have HSW9 := Lib.hid (Hold.below hb9 _ _ HSW.out)
        have HPW9 := Lib.hid (HPW.out.below hb9)
        have HRW9 := Lib.hid (HRW.out.below hb9)
        have HM9 := Lib.hid (HMW.out.below hb9)
        have HN9 := Lib.hid (HNW.out.below hb9)
        have hml := HM9.out.small
        unfold maxLen at hml
        clear hb9 u4 z0 z2 zr HKP SM PL NU HPW HRW HMW HNW HSW HVW HXW HOW
        go_wp2_with fail
        go_loopw [16] (fun v16 wr => ∃ i : Nat, v16 = .int .i64 (i : Int) ∧ i ≤ made8.length ∧ Below w9.heap.size w9 wr) (fun v _ => made8.length - (intOf v).toNat)
        case atStart => exact ⟨0, rfl, Nat.zero_le _, Below.refl _ _⟩
        case round =>
          obtain ⟨i, rfl, hi, hb⟩ := hrel
          have HB := Lib.hid hb
          by_cases hlt : i < made8.length
          · obtain ⟨qa, qc, hqe, hqx⟩ := HM9.out.at
            obtain ⟨b3, o3, rfl, q3⟩ := hqx (by omega)
            cases hqe
            obtain ⟨qa, qc, hqe, hqx2⟩ := HN9.out.at
            obtain ⟨b4, o4, rfl, q4⟩ := hqx2 (by omega)
            cases hqe
            have c3 := bcellAt hb (q3 i _ (ints_at made8 i hlt))
            have c4 := bcellAt hb (q4 i _ (ints_at made8 i hlt))
            generalize made8[i] = x at *
            have hxx : (x != x) = false := by simp
            have hi0 : (0 : Int) ≤ (i : Int) := by omega
            have hi1 : (i : Int) < (made8.length : Int) := by omega
            clear q3 q4 hqx hqx2 hb
            go_wp2_with fail
            go_quiet (fail)
            have HBQ := Lib.hid (bmore HB.out (bdn wr nq))
            clear c3 c4
            go_wp2_with fail
            go_roundw
            case rel => exact ⟨i + 1, by go_num, by omega, HBQ.out⟩
            case measure => simp [intOf] <;> omega
          · obtain rfl : i = made8.length := by omega
            have hs := Hold.below hb _ _ HSW9.out
            have z0 := cellB (j := 0) hs rfl
            have z2 := cellB (j := 2) hs rfl
            have HKP := Lib.hid (fun (V : World) (hb : Below wr.heap.size wr V) => (show V.cell? ⟨sb, 0, none⟩ = some (.pointer (some ⟨pa, 0, none⟩)) ∧ V.cell? ⟨sb, 2, none⟩ = some (.pointer (some ⟨ra, 0, none⟩)) from ⟨bcellAt hb z0, bcellAt hb z2⟩))
            have HVE := Lib.hid (HVW9.out.trans (hb.mono HVW9.out.size))
            have PT := Lib.hid (fun (V : World) (h : Below wr.heap.size wr V) => ptree (HLB.out _ (HVE.out.trans (h.mono HVE.out.size))) ((HPW9.out.below HB.out).below h) t1)
            have RT := Lib.hid (fun (V : World) (h : Below wr.heap.size wr V) => rtree ((HRW9.out.below HB.out).below h) t1)
            have LV := Lib.hid (fun (V : World) (h : Below wr.heap.size wr V) => LVW.out V (HTO.out _ (HVE.out.trans (h.mono HVE.out.size))))
            clear hs hb hlt hi
            go_wp2_with fail
            go_region_held3 (fun V => V.cell? ⟨sb, 0, none⟩ = some (.pointer (some ⟨pa, 0, none⟩)) ∧ V.cell? ⟨sb, 2, none⟩ = some (.pointer (some ⟨ra, 0, none⟩))) ((refine HKP.out _ ?_; first | exact bd _ | exact bdn _ _ | exact bmore (bd _) u2 | exact bmore (bmore (bd _) u2) u3 | exact bmore (bmore (bmore (bd _) u2) u3) u4 | exact bmore (bmore (bmore (bmore (bd _) u2) u3) u4) u5))
              ((first
                | ((with_reducible refine (PT.out _ (bd _)).mono ?_); rintro e w10 ⟨m1, j1, a1, rfl, hm1, ho1, u2, hr1, hz1⟩)
                | ((with_reducible refine (RT.out _ (bmore (bd _) u2)).mono ?_); rintro e w11 ⟨m2, j2, a2, rfl, hm2, ho2, u3, hr2, hz2⟩)
                | ((with_reducible refine (same_yes (trees_same hr1 hz1 hr2 hz2 ho1 ho2) (hm1.below u3) hm2 ho1 ho2).mono ?_); rintro e w12 ⟨rfl, u4⟩)
                | ((with_reducible refine (LV.out _ (bmore (bmore (bmore (bd _) u2) u3) u4)).mono ?_); rintro e w13 ⟨rfl, u5⟩)))
            have hbz := bmore (bmore (bmore (bmore (bd wr) u2) u3) u4) u5
            have HBZ := Lib.hid (HTO.out _ (HVE.out.trans (hbz.mono HVE.out.size)))
            clear u2 u3 u4 u5 hbz
            go_wp2_with fail
            go_returns
            exact ⟨rfl, HBZ.out⟩
end Go.Proofs.YtlckneajppfmbaaGreatDoor
namespace Go.Proofs.YtlckneajppfmbaaGreatDoor
open Go Go.ChangeShapes Go.WideShapes Go.ChangeAt Go.RowKit
set_option linter.unusedVariables false

set_option maxRecDepth 100000 in
/-- What the walk gives, for every argument. -/
theorem revals_contract (H : Type) (enc : TypeId × Value → H) (W : World) (base : Nat) (args : Array Value) (ds gs : List (DataW H)) (before : List MemPlace)
    (hval0 : ∀ (j : Nat) t v, Tryz.f3.params[j]? = some t → args[j]? = some v → Value.okWide Tryz.prog W .any base t v)
    (hW : DataW.Whole enc Tryz.prog Tryz.f3.params.toList Rows.recipeEvalsSpec.vars false W args.toList ds gs before) (hL : laidMetH Tryz.prog laidL W) :
    Calls Tryz.prog 3 args W fun e W' => ∃ v, e = .returned v ∧ Rows.recipeEvalsSpec.post enc Tryz.prog Tryz.f3 false true false false W args v W' := by
  have hval : ∀ (j : Nat) t v, Tryz.f3.params[j]? = some t → args[j]? = some v → Value.okWide Tryz.prog W .any base t v := hval0
  have hW' := hW
  obtain ⟨p, q, hA0, hV, rfl, hfz, hnd⟩ := hW
  have hA : DataW.TrodAll enc Tryz.prog W 0 (fun _ => true) true Tryz.f3.params.toList args.toList ds p := hA0
  rw [Tryz.params3] at hA hval
  obtain ⟨v0, vs0, d0, ds0, p0, q0, hargs0, rfl, rfl, h0, r0⟩ := trodAll_cons hA
  obtain ⟨v1, vs1, d1, ds1, p1, q1, hargs1, rfl, rfl, h1, r1⟩ := trodAll_cons r0
  obtain ⟨rfl, rfl, rfl⟩ := trodAll_nil r1
  subst hargs1
  obtain rfl : args = #[v0, v1] := by cases args; simp_all
  obtain ⟨rfl, rfl⟩ := trodVars_none hV
  have hv0 := hval 0 22 v0 rfl rfl
  have hc0 : Cell.okWide Tryz.prog W .any base 22 v0 := by simpa only [Value.okWide, Tryz.underlying22] using hv0
  obtain ⟨a0, c0, n0, e0⟩ := okWide_slice Tryz.underlying22 hv0
  obtain ⟨fuel0, hf0⟩ := id h0
  rw [show v0.cells.toList = [v0] by rw [e0]; rfl] at hf0
  obtain ⟨l0, rl0, hs0⟩ := open_trees hc0 hf0
  have hv1 := hval 1 23 v1 rfl rfl
  have hc1 : Cell.okWide Tryz.prog W .any base 23 v1 := by simpa only [Value.okWide, Tryz.underlying23] using hv1
  obtain ⟨a1, c1, n1, e1⟩ := okWide_slice Tryz.underlying23 hv1
  obtain ⟨fuel1, hf1⟩ := id h1
  rw [show v1.cells.toList = [v1] by rw [e1]; rfl] at hf1
  obtain ⟨l1, rl1, hs1⟩ := open_ops hc1 hf1
  have HL := of_laid hL
  clear hA0 hval0 hL
  simp only [List.append_nil] at hW'
  refine (revals_walk HL rl0 hs0 rl1 hs1).mono fun e W' ⟨he, bel⟩ => ?_
  subst he
  exact ⟨_, rfl, _, _, _, [], _, [], hW', trodAll_mk1 (shut_bool Tryz.underlying4 _), (trodAll_cons_mk (Below.trod laidOut (by kernel_rfl) (of_decide_eq_true (by kernel_rfl)) h0 bel (places_lt h0)) (trodAll_cons_mk (Below.trod laidOut (by kernel_rfl) (of_decide_eq_true (by kernel_rfl)) h1 bel (places_lt h1)) trodAll_mk0)), rfl, bel.frame _, fun h => by cases h⟩

set_option maxRecDepth 100000 in
theorem revals_lifted (os : Os) (started : os.Started) (H : Type) (enc : TypeId × Value → H) :
    ReturnsInHanded {} Tryz.checked os 3 .any (fun w args => (Rows.recipeEvalsSpec.pre enc Tryz.prog Tryz.f3 [] false w args ∧ laidMetH Tryz.prog laidL w) ∧ sizedMet enc Tryz.prog Tryz.f3 (OpenSpec.ofChange Rows.recipeEvalsSpec) false w args)
      (Rows.recipeEvalsSpec.post enc Tryz.prog Tryz.f3 false true false false) := by
  refine returnsInHanded_of_change_and (C := Tryz.checked) (X := fun w _ => laidMetH Tryz.prog laidL w) (fun _ _ _ hh h => h.of_heap hh) own started (by kernel_rfl) Tryz.func3
    (ChangeSpec.witness_shaped (enc := enc) (C := Tryz.checked) (os := os) (X := fun w _ => laidMetH Tryz.prog laidL w) false (World.doorLaid Tryz.prog 400 os) #[.slice none 0 0, .slice none 0 0] 8 rfl (World.shaped_of_RefB (by kernel_rfl) (by kernel_rfl)) (by kernel_rfl) (by kernel_rfl) (by kernel_rfl) (door_met os _)) ?_
  intro W base args ds gs before hval hW _ _ hL _
  exact revals_contract H enc W base args ds gs before hval hW hL

/-- The row's statement. -/
theorem revals_holds : Rows.RecipeEvalsSaid :=
  OpenClaim.holds_of_wide 3 Tryz.f3 rfl rfl rfl rfl rfl rfl rfl ⟨rfl, rfl, rfl, rfl, rfl⟩ rfl rfl rfl rfl rfl (by kernel_rfl) Tryz.func3 (by kernel_rfl)
    (of_decide_eq_true (by kernel_rfl)) (by unfold Func.isWrapper; first | (rw [if_pos (by decide +kernel)]; kernel_rfl) | (rw [if_neg (by decide +kernel)]; exact ⟨rfl, rfl⟩))
    (fun os started H enc _ => revals_lifted os started H enc)

/-- The card. -/
theorem revals_card : Rows.RecipeEvalsCardSaid :=
  Claim7.holds_tied_plain_at .later [] [.data] true _ false
    revals_holds (fun _ h => by cases h) (by kernel_rfl) (fun _ h => by cases h) recipeEvals_row_tie rfl ⟨rfl, rfl⟩ (by kernel_rfl) rfl
    (fun f fn hf hfn => by
      obtain rfl : f = 3 := Option.some.inj ((show Tryz.prog.funcNamed "escrow/escrowlaw09.RecipeEvals" = some 3 by kernel_rfl).symm.trans hf) |>.symm
      obtain rfl : fn = Tryz.f3 := (Option.some.inj (Tryz.func3.symm.trans hfn)).symm
      exact ⟨by kernel_rfl, fun j t ht => by
        rw [Tryz.params3] at ht
        have hm : t ∈ [22, 23] := by simpa using Array.mem_of_getElem? ht
        have hall : ([22, 23].all fun u => !Tryz.prog.wantsStandIn u) = true := by kernel_rfl
        exact (show Tryz.prog.wantsStandIn t = false by simpa using List.all_eq_true.1 hall t hm)⟩)
    (by kernel_rfl)
#print axioms revals_card
end Go.Proofs.YtlckneajppfmbaaGreatDoor
