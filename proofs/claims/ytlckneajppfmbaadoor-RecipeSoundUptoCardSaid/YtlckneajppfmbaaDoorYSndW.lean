/-
  Whatever is made is derived: the walk of RecipeSound.
-/
import Derived.Test.YtlckneajppfmbaaDoorYAsk
namespace Go.Proofs.YtlckneajppfmbaaDoor
open Go.RowKit Go.Maps
set_option linter.unusedVariables false

/-- What is made is derived, as the program's Derives tells it. -/
theorem sound_der {p : Pl} {g : List Int} {s : Int → Option Way} (hs : SeenOk p g s) {t : Int} (h : Der p (Reach p g) t) : derB p s t = true :=
  derB_iff.2 (h.mono fun x hx => (hs.reach x).2 hx)

set_option maxRecDepth 100000 in
set_option maxHeartbeats 25600000 in
theorem rsound_walk {w : World} (hl : Laid w) {fo : Fo} {vn : Value} (hk : IsK w (fun b => b < w.heap.size) vn fo) (hok : OkF fo) {vl : Value} {l : List OpP} (hr : Row w 5 vl l.length (opsV l)) (hlo : ∀ o ∈ l, OpOk o) : Calls Tryd.prog 4 #[vn, vl] w fun e w' => e = .returned (.bool true) ∧ Below w.heap.size w w' := by
  obtain ⟨av, cv, rfl, _⟩ := hk.shape
  obtain ⟨la, lc, rfl⟩ := hr.shape
  have HL := Lib.hid hl
  have HK := Lib.hid hk
  have HOK := Lib.hid hok
  have HROW := Lib.hid hr
  have HLO := Lib.hid hlo
  have LA := Lib.hid (large9_any hk)
  clear hl hk hok hr hlo
  go_enter Tryd.func4, Tryd.ntmps4
  go_wp2_with fail
  refine LA.out.mono ?_
  rintro e w1 ⟨⟨q1, rfl, hq1⟩, u1⟩
  have HU1 := Lib.hid u1
  clear u1 LA
  have LVW : Hid (∀ W : World, Below w.heap.size w W → Calls Tryd.prog 22 #[] W fun e w' => e = .returned (.bool true) ∧ Below W.heap.size W w') := Lib.hid (fun W h => live9_any (HL.out.below h))
  cases q1 with
  | true =>
    go_wp2_with fail
    refine (LVW.out _ HU1.out).mono ?_
    rintro e w2 ⟨rfl, u2⟩
    have HU2 := Lib.hid (bmore HU1.out u2)
    clear u2
    go_wp2_with fail
    go_returns
    exact ⟨rfl, HU2.out⟩
  | false =>
    have hsz := hq1 rfl
    clear hq1
    have LG := Lib.hid (long_any (HROW.out.below HU1.out))
    go_wp2_with fail
    refine LG.out.mono ?_
    rintro e w2 ⟨⟨q2, rfl, hq2⟩, rfl⟩
    clear LG
    cases q2 with
    | true =>
      go_wp2_with fail
      refine (LVW.out _ HU1.out).mono ?_
      rintro e w3 ⟨rfl, u2⟩
      have HU2 := Lib.hid (bmore HU1.out u2)
      clear u2
      go_wp2_with fail
      go_returns
      exact ⟨rfl, HU2.out⟩
    | false =>
      have hl300 := hq2 rfl
      clear hq2
      have hkl := (HK.out.below HU1.out).keep (G' := fun b => b < w1.heap.size) (fun b hb _ => ⟨Nat.lt_of_lt_of_le hb HU1.out.size, rfl⟩)
      have GI := Lib.hid (lgiven_any (HL.out.below HU1.out) hkl HOK.out (by omega) (by omega))
      clear hkl
      go_wp2_with fail
      refine GI.out.mono ?_
      rintro e w3 ⟨sb, pa, b, vv, k, mb, gv, s, ra, rl, rs, rd, gvl, q, gl, rfl, sd, _, _, u3, _⟩
      have SD := Lib.hid sd
      have HV3 := Lib.hid u3
      have HU := Lib.hid (bmore HU1.out u3)
      have HBS := Lib.hid (HL.out.below HU1.out).lt
      have x0 := cellB (j := 0) sd.lay rfl
      have x1 := cellB (j := 1) sd.lay rfl
      have HGI := Lib.hid sd.know.ok.ing
      clear sd u3 GI
      have HKP := Lib.hid (fun (V : World) (hb : Below w3.heap.size w3 V) => (show V.cell? ⟨sb, 0, none⟩ = some (.pointer (some ⟨pa, 0, none⟩)) ∧ V.cell? ⟨sb, 1, none⟩ = some (.pointer (some ⟨k, 0, none⟩)) from ⟨bcellAt hb x0, bcellAt hb x1⟩))
      go_wp2_with fail
      refine lex_start [0, 1, 2, 3, 4, 5, 6, 7, 8, 9, 10, 11, 12] (S := fun V => V.cell? ⟨sb, 0, none⟩ = some (.pointer (some ⟨pa, 0, none⟩)) ∧ V.cell? ⟨sb, 1, none⟩ = some (.pointer (some ⟨k, 0, none⟩))) (by kernel_rfl) (HKP.out _ (bd _)) (fun hS => ?_)
      clear hS
      simp only [inOrder, List.filterMap, List.getElem?_cons_succ, List.getElem?_cons_zero]
      have b0 := bd w3
      refine lex_take (i := 0) (v := ?_) rfl (by kernel_rfl) (by kernel_rfl) (by kernel_rfl) (by rfl) (HKP.out _ b0) ?_ ?_
      rotate_left
      · ((intro W hW; obtain ⟨k0, k1⟩ := hW; go_simp) <;> with_reducible rfl)
      simp only [Act.put, List.setIfInBounds_toArray, List.set_cons_zero, List.set_cons_succ]
      refine lex_take (i := 1) (v := ?_) rfl (by kernel_rfl) (by kernel_rfl) (by kernel_rfl) (by rfl) (HKP.out _ b0) ?_ ?_
      rotate_left
      · ((intro W hW; obtain ⟨k0, k1⟩ := hW; go_simp) <;> with_reducible rfl)
      simp only [Act.put, List.setIfInBounds_toArray, List.set_cons_zero, List.set_cons_succ]
      refine lex_take (i := 2) (v := ?_) rfl (by kernel_rfl) (by kernel_rfl) (by kernel_rfl) (by rfl) (HKP.out _ b0) ?_ ?_
      rotate_left
      · ((intro W hW; obtain ⟨k0, k1⟩ := hW; go_simp) <;> with_reducible rfl)
      simp only [Act.put, List.setIfInBounds_toArray, List.set_cons_zero, List.set_cons_succ]
      refine lex_take (i := 3) (v := ?_) rfl (by kernel_rfl) (by kernel_rfl) (by kernel_rfl) (by rfl) (HKP.out _ b0) ?_ ?_
      rotate_left
      · ((intro W hW; obtain ⟨k0, k1⟩ := hW; go_simp) <;> with_reducible rfl)
      simp only [Act.put, List.setIfInBounds_toArray, List.set_cons_zero, List.set_cons_succ]
      refine lex_take (i := 4) (v := ?_) rfl (by kernel_rfl) (by kernel_rfl) (by kernel_rfl) (by rfl) (HKP.out _ b0) ?_ ?_
      rotate_left
      · ((intro W hW; obtain ⟨k0, k1⟩ := hW; go_simp) <;> with_reducible rfl)
      simp only [Act.put, List.setIfInBounds_toArray, List.set_cons_zero, List.set_cons_succ]
      refine lex_take (i := 5) (v := ?_) rfl (by kernel_rfl) (by kernel_rfl) (by kernel_rfl) (by rfl) (HKP.out _ b0) ?_ ?_
      rotate_left
      · ((intro W hW; obtain ⟨k0, k1⟩ := hW; go_simp) <;> with_reducible rfl)
      simp only [Act.put, List.setIfInBounds_toArray, List.set_cons_zero, List.set_cons_succ]
      refine lex_take (i := 6) (v := ?_) rfl (by kernel_rfl) (by kernel_rfl) (by kernel_rfl) (by rfl) (HKP.out _ b0) ?_ ?_
      rotate_left
      · ((intro W hW; obtain ⟨k0, k1⟩ := hW; go_simp) <;> with_reducible rfl)
      simp only [Act.put, List.setIfInBounds_toArray, List.set_cons_zero, List.set_cons_succ]
      refine lex_take (i := 7) (v := ?_) rfl (by kernel_rfl) (by kernel_rfl) (by kernel_rfl) (by rfl) (HKP.out _ b0) ?_ ?_
      rotate_left
      · ((intro W hW; obtain ⟨k0, k1⟩ := hW; go_simp) <;> with_reducible rfl)
      simp only [Act.put, List.setIfInBounds_toArray, List.set_cons_zero, List.set_cons_succ]
      refine lex_reorder [9, 8, 10, 11, 12] ?_
      simp only [inOrder, List.filterMap, List.getElem?_cons_succ, List.getElem?_cons_zero]
      refine lex_take (i := 9) (v := ?_) rfl (by kernel_rfl) (by kernel_rfl) (by kernel_rfl) (by rfl) (HKP.out _ b0) ?_ ?_
      rotate_left
      · ((intro W hW; obtain ⟨k0, k1⟩ := hW; go_simp) <;> with_reducible rfl)
      simp only [Act.put, List.setIfInBounds_toArray, List.set_cons_zero, List.set_cons_succ]
      refine lex_reorder [8, 10, 11, 12] ?_
      simp only [inOrder, List.filterMap, List.getElem?_cons_succ, List.getElem?_cons_zero]
      have b1 := bmore b0 (bZ w3.drew (.cells #[] OpT))
      have hmade : (w3.drew.alloc (.cells #[] OpT)).ownsRow 0 OpT 5 (.slice (some ⟨w3.drew.heap.size, 0, none⟩) 0 0) ([] : List OpP).length (opsV []) := World.ownsRow_made w3.drew #[] 0 (Nat.zero_le _) (by unfold maxLen; omega) rfl
      refine lex_do (i := 8) rfl (by kernel_rfl) (by rfl) (fun K hK => ?_)
      go_simp
      refine hK _ _ ⟨HKP.out _ b1, ?_⟩
      clear hK K
      refine lex_do (i := 10) rfl (by kernel_rfl) (by rfl) (fun K hK => ?_)
      refine wp_append_ops _ _ rfl 0 (.slice (some ⟨w3.heap.size, 0, none⟩) 0 0) [] rfl hmade _ l rfl (HROW.out.below (bmore HU.out b1)) (by simp; omega) (Nat.zero_le _) (fun v5 w5 hrow5 hg5 => ?_)
      have b5 : Below w3.heap.size w3 w5 := b0.trans ((bZ w3.drew (.cells #[] OpT)).trans (grown_below hg5 (by simp) (fun j e => by simp only [Value.ownBlock, Option.some.injEq] at e; rw [← e]; exact Nat.le_refl _)))
      rw [List.nil_append] at hrow5
      refine hK _ _ ⟨HKP.out _ b5, ?_⟩
      clear hK K hmade b1
      simp only [Act.put, List.setIfInBounds_toArray, List.set_cons_zero, List.set_cons_succ]
      refine lex_do (i := 11) rfl (by kernel_rfl) (by rfl) (fun K hK => ?_)
      go_simp
      refine (trace_any HBS.out (SD.out.pool.below b5) ((HL.out.below HU.out).below b5) (SD.out.know.below b5) SD.out.mbb hrow5 HLO.out).mono ?_
      rintro e w6 ⟨mv, rfl, hmv, g6⟩
      have HS6 := Lib.hid (g6.hold (SD.out.pool.below b5) (T := SidesT) (by decide) (by decide) _ _ (Hold.below b5 _ _ SD.out.lay))
      have HKQ := Lib.hid (fun (V : World) (hs : V.heap[sb]? = some (Obj.cells #[.pointer (some ⟨pa, 0, none⟩), .pointer (some ⟨k, 0, none⟩), .pointer (some ⟨ra, 0, none⟩), gvl] SidesT)) => (show V.cell? ⟨sb, 0, none⟩ = some (.pointer (some ⟨pa, 0, none⟩)) ∧ V.cell? ⟨sb, 1, none⟩ = some (.pointer (some ⟨k, 0, none⟩)) from ⟨cellB (j := 0) hs rfl, cellB (j := 1) hs rfl⟩))
      refine hK _ _ ⟨HKQ.out _ HS6.out, ?_⟩
      clear hK K
      obtain ⟨ok6, ⟨e6, he6⟩, hsd6⟩ := fol_sound l SD.out.pool.ok HGI.out
      generalize folP q gl l = r6 at *
      obtain ⟨made, er6, q6⟩ := r6
      simp only at he6 hsd6 ok6 hmv g6
      subst he6
      have HK6 := Lib.hid ((SD.out.know.below b5).grow (SD.out.pool.below b5) SD.out.mbb g6)
      have HV6 := Lib.hid ((HV3.out.trans (b5.mono HV3.out.size)).trans g6.1)
      obtain ⟨_, _, v6, p6, _⟩ := g6
      have HP6 := Lib.hid p6
      have HM6 := Lib.hid hmv
      have HSD6 := Lib.hid hsd6
      obtain ⟨ma, mc, rfl⟩ := (row_of_own hmv).shape
      clear p6 hmv hsd6 b5 b0 hrow5 hg5 x0 x1 HKP ok6
      refine lex_take (i := 12) (v := ?_) rfl (by kernel_rfl) (by kernel_rfl) (by kernel_rfl) (by rfl) (HKQ.out _ HS6.out) ?_ ?_
      rotate_left
      · ((intro W hW; obtain ⟨k0, k1⟩ := hW; go_simp) <;> with_reducible rfl)
      simp only [Act.put, List.setIfInBounds_toArray, List.set_cons_zero, List.set_cons_succ]
      refine lex_done (by kernel_rfl) ?_
      have x0 := cellB (j := 0) HS6.out rfl
      have x1 := cellB (j := 1) HS6.out rfl
      have hml := (row_of_own HM6.out).small
      unfold maxLen at hml
      go_wp2_with fail
      go_loopw [8] (fun v8 wr => ∃ i : Nat, v8 = .int .i64 (i : Int) ∧ i ≤ made.length ∧ Below w6.heap.size w6 wr) (fun v _ => made.length - (intOf v).toNat)
      case atStart => exact ⟨0, rfl, Nat.zero_le _, Below.refl _ _⟩
      case round =>
        obtain ⟨i, rfl, hi, hb⟩ := hrel
        have HB := Lib.hid hb
        have y0 := bcellAt hb x0
        have y1 := bcellAt hb x1
        by_cases hlt : i < made.length
        · obtain ⟨qa, qc, hqe, hqx⟩ := (row_of_own HM6.out).at
          obtain ⟨gb, go, rfl, qq⟩ := hqx (by omega)
          cases hqe
          have c0 := bcellAt hb (qq i _ (ints_at made i hlt))
          have hdr := HSD6.out _ (List.getElem_mem hlt)
          have hti : i64R made[i] := in_i64 HP6.out.ok.len (.inr (der_in (fun t h => Reach.inp HP6.out.ok HK6.out.ok.ing h) hdr))
          have DE := Lib.hid (fun (V : World) (h : Below wr.heap.size wr V) => derives_any ((HP6.out.below HB.out).below h) ((HK6.out.below HB.out).below h) hti)
          rw [sound_der HK6.out.ok hdr] at DE
          clear hb qq hqx hdr hti x0 x1
          generalize made[i] = t at *
          have hi0 : (0 : Int) ≤ (i : Int) := by omega
          have hi1 : (i : Int) < (made.length : Int) := by omega
          have HKD := Lib.hid (fun (V : World) (hb : Below wr.heap.size wr V) => (show V.cell? ⟨sb, 1, none⟩ = some (.pointer (some ⟨k, 0, none⟩)) ∧ V.cell? ⟨gb, go + i, none⟩ = some (.int .i64 t) from ⟨bcellAt hb y1, bcellAt hb c0⟩))
          go_wp2_with fail
          go_region_held3 (fun V => V.cell? ⟨sb, 1, none⟩ = some (.pointer (some ⟨k, 0, none⟩)) ∧ V.cell? ⟨gb, go + i, none⟩ = some (.int .i64 t)) ((refine HKD.out _ ?_; first | exact bd _ | exact bdn _ _ | exact bmore (bd _) u8))
            (((with_reducible refine (DE.out _ (bd _)).mono ?_); rintro e w8 ⟨rfl, u8⟩))
          have HB8 := Lib.hid (bmore HB.out (bmore (bd wr) u8))
          clear u8
          go_wp2_with fail
          go_roundw
          case rel => exact ⟨i + 1, by go_num, by omega, HB8.out⟩
          case measure => simp [intOf]; omega
        · obtain rfl : i = made.length := by omega
          have HL7 := Lib.hid ((Laid.base (HL.out.below HU1.out) HBS.out HV6.out).below hb)
          have HP7 := Lib.hid (HP6.out.below hb)
          have HK7 := Lib.hid (HK6.out.below hb)
          have HS7 := Lib.hid (Hold.below hb _ _ HS6.out)
          have HU := Lib.hid (HU1.out.trans ((HV6.out.mono HU1.out.size).trans (hb.mono (Nat.le_trans HU1.out.size HV6.out.size))))
          have HV7 := Lib.hid (HV6.out.trans (hb.mono HV6.out.size))
          clear hb x0 x1 HP6 HM6 hlt
          obtain ⟨x0, x1⟩ := And.intro y0 y1
          clear y0 y1
          have HKP := Lib.hid (fun (V : World) (hb : Below wr.heap.size wr V) => (show V.cell? ⟨sb, 0, none⟩ = some (.pointer (some ⟨pa, 0, none⟩)) ∧ V.cell? ⟨sb, 1, none⟩ = some (.pointer (some ⟨k, 0, none⟩)) from ⟨bcellAt hb x0, bcellAt hb x1⟩))
          go_wp2_with fail
          refine lex_start [0, 1, 2, 3, 4, 5, 6, 7, 8, 9, 10, 11, 12, 13, 14, 15, 16, 17, 18] (S := fun V => V.cell? ⟨sb, 0, none⟩ = some (.pointer (some ⟨pa, 0, none⟩)) ∧ V.cell? ⟨sb, 1, none⟩ = some (.pointer (some ⟨k, 0, none⟩))) (by kernel_rfl) (HKP.out _ (bd _)) (fun hS => ?_)
          clear hS
          simp only [inOrder, List.filterMap, List.getElem?_cons_succ, List.getElem?_cons_zero]
          have b0 := bd wr
          refine lex_take (i := 0) (v := ?_) rfl (by kernel_rfl) (by kernel_rfl) (by kernel_rfl) (by rfl) (HKP.out _ b0) ?_ ?_
          rotate_left
          · ((intro W hW; obtain ⟨k0, k1⟩ := hW; go_simp) <;> with_reducible rfl)
          simp only [Act.put, List.setIfInBounds_toArray, List.set_cons_zero, List.set_cons_succ]
          refine lex_take (i := 1) (v := ?_) rfl (by kernel_rfl) (by kernel_rfl) (by kernel_rfl) (by rfl) (HKP.out _ b0) ?_ ?_
          rotate_left
          · ((intro W hW; obtain ⟨k0, k1⟩ := hW; go_simp) <;> with_reducible rfl)
          simp only [Act.put, List.setIfInBounds_toArray, List.set_cons_zero, List.set_cons_succ]
          refine lex_take (i := 2) (v := ?_) rfl (by kernel_rfl) (by kernel_rfl) (by kernel_rfl) (by rfl) (HKP.out _ b0) ?_ ?_
          rotate_left
          · ((intro W hW; obtain ⟨k0, k1⟩ := hW; go_simp) <;> with_reducible rfl)
          simp only [Act.put, List.setIfInBounds_toArray, List.set_cons_zero, List.set_cons_succ]
          refine lex_take (i := 3) (v := ?_) rfl (by kernel_rfl) (by kernel_rfl) (by kernel_rfl) (by rfl) (HKP.out _ b0) ?_ ?_
          rotate_left
          · ((intro W hW; obtain ⟨k0, k1⟩ := hW; go_simp) <;> with_reducible rfl)
          simp only [Act.put, List.setIfInBounds_toArray, List.set_cons_zero, List.set_cons_succ]
          refine lex_take (i := 4) (v := ?_) rfl (by kernel_rfl) (by kernel_rfl) (by kernel_rfl) (by rfl) (HKP.out _ b0) ?_ ?_
          rotate_left
          · ((intro W hW; obtain ⟨k0, k1⟩ := hW; go_simp) <;> with_reducible rfl)
          simp only [Act.put, List.setIfInBounds_toArray, List.set_cons_zero, List.set_cons_succ]
          refine lex_take (i := 5) (v := ?_) rfl (by kernel_rfl) (by kernel_rfl) (by kernel_rfl) (by rfl) (HKP.out _ b0) ?_ ?_
          rotate_left
          · ((intro W hW; obtain ⟨k0, k1⟩ := hW; go_simp) <;> with_reducible rfl)
          simp only [Act.put, List.setIfInBounds_toArray, List.set_cons_zero, List.set_cons_succ]
          refine lex_take (i := 6) (v := ?_) rfl (by kernel_rfl) (by kernel_rfl) (by kernel_rfl) (by rfl) (HKP.out _ b0) ?_ ?_
          rotate_left
          · ((intro W hW; obtain ⟨k0, k1⟩ := hW; go_simp) <;> with_reducible rfl)
          simp only [Act.put, List.setIfInBounds_toArray, List.set_cons_zero, List.set_cons_succ]
          refine lex_take (i := 7) (v := ?_) rfl (by kernel_rfl) (by kernel_rfl) (by kernel_rfl) (by rfl) (HKP.out _ b0) ?_ ?_
          rotate_left
          · ((intro W hW; obtain ⟨k0, k1⟩ := hW; go_simp) <;> with_reducible rfl)
          simp only [Act.put, List.setIfInBounds_toArray, List.set_cons_zero, List.set_cons_succ]
          refine lex_reorder [9, 8, 10, 11, 12, 13, 14, 15, 16, 17, 18] ?_
          simp only [inOrder, List.filterMap, List.getElem?_cons_succ, List.getElem?_cons_zero]
          refine lex_take (i := 9) (v := ?_) rfl (by kernel_rfl) (by kernel_rfl) (by kernel_rfl) (by rfl) (HKP.out _ b0) ?_ ?_
          rotate_left
          · ((intro W hW; obtain ⟨k0, k1⟩ := hW; go_simp) <;> with_reducible rfl)
          simp only [Act.put, List.setIfInBounds_toArray, List.set_cons_zero, List.set_cons_succ]
          refine lex_reorder [8, 10, 11, 12, 13, 14, 15, 16, 17, 18] ?_
          simp only [inOrder, List.filterMap, List.getElem?_cons_succ, List.getElem?_cons_zero]
          have b1 := bmore b0 (bZ wr.drew (.cells #[] OpT))
          have hmade : (wr.drew.alloc (.cells #[] OpT)).ownsRow 0 OpT 5 (.slice (some ⟨wr.drew.heap.size, 0, none⟩) 0 0) ([] : List OpP).length (opsV []) := World.ownsRow_made wr.drew #[] 0 (Nat.zero_le _) (by unfold maxLen; omega) rfl
          refine lex_do (i := 8) rfl (by kernel_rfl) (by rfl) (fun K hK => ?_)
          go_simp
          refine hK _ _ ⟨HKP.out _ b1, ?_⟩
          clear hK K
          refine lex_do (i := 10) rfl (by kernel_rfl) (by rfl) (fun K hK => ?_)
          refine wp_append_ops _ _ rfl 0 (.slice (some ⟨wr.heap.size, 0, none⟩) 0 0) [] rfl hmade _ l rfl (HROW.out.below (bmore HU.out b1)) (by simp; omega) (Nat.zero_le _) (fun v5 w5 hrow5 hg5 => ?_)
          have b5 : Below wr.heap.size wr w5 := b0.trans ((bZ wr.drew (.cells #[] OpT)).trans (grown_below hg5 (by simp) (fun j e => by simp only [Value.ownBlock, Option.some.injEq] at e; rw [← e]; exact Nat.le_refl _)))
          rw [List.nil_append] at hrow5
          refine hK _ _ ⟨HKP.out _ b5, ?_⟩
          clear hK K hmade b1
          simp only [Act.put, List.setIfInBounds_toArray, List.set_cons_zero, List.set_cons_succ]
          refine lex_do (i := 11) rfl (by kernel_rfl) (by rfl) (fun K hK => ?_)
          go_simp
          refine (eval_any HBS.out (HP7.out.below b5) (HL7.out.below b5) (HK7.out.below b5) SD.out.mbb hrow5 HLO.out).mono ?_
          rintro e w7 ⟨rfl, g7⟩
          have HS8 := Lib.hid (g7.hold (HP7.out.below b5) (T := SidesT) (by decide) (by decide) _ _ (Hold.below b5 _ _ HS7.out))
          refine hK _ _ ⟨HKQ.out _ HS8.out, ?_⟩
          clear hK K
          obtain ⟨ok8, ⟨e8, he8⟩, hsd8⟩ := fol_sound (g := gl) l HP7.out.ok HK7.out.ok.ing
          have hev := fun h => evl_mem (r := folP (q ++ e6) gl l) (fun h => fol_made h) h
          generalize evlP (folP (q ++ e6) gl l) = ev at *
          generalize folP (q ++ e6) gl l = r8 at *
          obtain ⟨made8, er8, q8⟩ := r8
          obtain ⟨t8, ee8, at8⟩ := ev
          simp only at he8 hsd8 ok8 g7 hev
          subst he8
          have HK8 := Lib.hid ((HK7.out.below b5).grow (HP7.out.below b5) SD.out.mbb g7)
          have HV8 := Lib.hid ((HV7.out.trans (b5.mono HV7.out.size)).trans g7.1)
          obtain ⟨_, _, v8, p8, _⟩ := g7
          have HP8 := Lib.hid p8
          have HD8 := Lib.hid (fun h => hsd8 _ (hev h))
          clear p8 hsd8 hev b5 b0 hrow5 hg5 x0 x1 HKP ok8
          refine lex_take (i := 12) (v := ?_) rfl (by kernel_rfl) (by kernel_rfl) (by kernel_rfl) (by rfl) (HKQ.out _ HS8.out) ?_ ?_
          rotate_left
          · ((intro W hW; obtain ⟨k0, k1⟩ := hW; go_simp) <;> with_reducible rfl)
          simp only [Act.put, List.setIfInBounds_toArray, List.set_cons_zero, List.set_cons_succ]
          refine lex_take (i := 13) (v := ?_) rfl (by kernel_rfl) (by kernel_rfl) (by kernel_rfl) (by rfl) (HKQ.out _ HS8.out) ?_ ?_
          rotate_left
          · ((intro W hW; obtain ⟨k0, k1⟩ := hW; go_simp) <;> with_reducible rfl)
          simp only [Act.put, List.setIfInBounds_toArray, List.set_cons_zero, List.set_cons_succ]
          refine lex_take (i := 14) (v := ?_) rfl (by kernel_rfl) (by kernel_rfl) (by kernel_rfl) (by rfl) (HKQ.out _ HS8.out) ?_ ?_
          rotate_left
          · ((intro W hW; obtain ⟨k0, k1⟩ := hW; go_simp) <;> with_reducible rfl)
          simp only [Act.put, List.setIfInBounds_toArray, List.set_cons_zero, List.set_cons_succ]
          refine lex_take (i := 15) (v := ?_) rfl (by kernel_rfl) (by kernel_rfl) (by kernel_rfl) (by rfl) (HKQ.out _ HS8.out) ?_ ?_
          rotate_left
          · ((intro W hW; obtain ⟨k0, k1⟩ := hW; go_simp) <;> with_reducible rfl)
          simp only [Act.put, List.setIfInBounds_toArray, List.set_cons_zero, List.set_cons_succ]
          refine lex_take (i := 16) (v := ?_) rfl (by kernel_rfl) (by kernel_rfl) (by kernel_rfl) (by rfl) (HKQ.out _ HS8.out) ?_ ?_
          rotate_left
          · ((intro W hW; obtain ⟨k0, k1⟩ := hW; go_simp) <;> with_reducible rfl)
          simp only [Act.put, List.setIfInBounds_toArray, List.set_cons_zero, List.set_cons_succ]
          refine lex_take (i := 17) (v := ?_) rfl (by kernel_rfl) (by kernel_rfl) (by kernel_rfl) (by rfl) (HKQ.out _ HS8.out) ?_ ?_
          rotate_left
          · ((intro W hW; obtain ⟨k0, k1⟩ := hW; go_simp) <;> with_reducible rfl)
          simp only [Act.put, List.setIfInBounds_toArray, List.set_cons_zero, List.set_cons_succ]
          refine lex_take (i := 18) (v := ?_) rfl (by kernel_rfl) (by kernel_rfl) (by kernel_rfl) (by rfl) (HKQ.out _ HS8.out) ?_ ?_
          rotate_left
          · ((intro W hW; obtain ⟨k0, k1⟩ := hW; go_simp) <;> with_reducible rfl)
          simp only [Act.put, List.setIfInBounds_toArray, List.set_cons_zero, List.set_cons_succ]
          refine lex_done (by kernel_rfl) ?_
          have x1 := cellB (j := 1) HS8.out rfl
          have HU8 := Lib.hid (HU1.out.trans (HV8.out.mono HU1.out.size))
          by_cases h0 : ee8 = 0
          · subst h0
            have hdr := HD8.out rfl
            have hti : i64R t8 := in_i64 HP8.out.ok.len (.inr (der_in (fun t h => Reach.inp HP8.out.ok HK8.out.ok.ing h) hdr))
            have DE := Lib.hid (derives_any HP8.out HK8.out hti)
            rw [sound_der HK8.out.ok hdr] at DE
            clear hdr hti
            go_wp2_with fail
            refine (num9_any 0 _).mono ?_
            rintro e w9 ⟨rfl, rfl⟩
            go_wp2_with fail
            refine DE.out.mono ?_
            rintro e w9 ⟨rfl, u9⟩
            have HU9 := Lib.hid (bmore HU8.out u9)
            clear u9 x1
            go_wp2_with fail
            refine (LVW.out _ HU9.out).mono ?_
            rintro e w10 ⟨rfl, u10⟩
            have HU10 := Lib.hid (bmore HU9.out u10)
            clear u10
            go_wp2_with fail
            go_returns
            exact ⟨rfl, HU10.out⟩
          · have hne : (ee8 != 0) = true := by simp [h0]
            go_wp2_with fail
            refine (num9_any ee8 _).mono ?_
            rintro e w9 ⟨rfl, rfl⟩
            go_wp2_with fail
            refine (LVW.out _ HU8.out).mono ?_
            rintro e w10 ⟨rfl, u10⟩
            have HU10 := Lib.hid (bmore HU8.out u10)
            clear u10
            go_wp2_with fail
            go_returns
            exact ⟨rfl, HU10.out⟩
end Go.Proofs.YtlckneajppfmbaaDoor
