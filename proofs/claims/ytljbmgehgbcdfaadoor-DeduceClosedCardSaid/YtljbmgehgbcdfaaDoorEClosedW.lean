/-
  The law's own walk: DeduceClosed.
-/
import Derived.Test.YtljbmgehgbcdfaaDoorEPools
import Derived.Test.YtljbmgehgbcdfaaDoorEDer
namespace Go.Proofs.YtljbmgehgbcdfaaDoor
open Go.RowKit Go.Maps
set_option linter.unusedVariables false

theorem kid_real {p : Pl} {n : Nd} (h : errP p n = 0) : (1 ≤ kidsN n.kind → inP p n.a = true) ∧ (kidsN n.kind = 2 → inP p n.b = true) := by
  unfold errP at h
  split at h
  · rename_i h1; exact absurd h h1
  · split at h
    · cases h
    · rename_i h2
      have h2' : kidsBad p n = false := by simpa using h2
      simp only [kidsBad, Bool.or_eq_false_iff, Bool.and_eq_false_iff, decide_eq_false_iff_not, Bool.not_eq_false', beq_eq_false_iff_ne] at h2'
      exact ⟨fun e => h2'.1.resolve_left (fun h => h e), fun e => h2'.2.resolve_left (fun h => h e)⟩
theorem at_mem {p : Pl} {t : Int} (h : inP p t = true) : atP p t ∈ p := by
  have h' := h
  simp only [inP, Bool.and_eq_true, decide_eq_true_eq] at h'
  unfold atP
  rw [if_pos h, List.getD_eq_getElem?_getD, List.getElem?_eq_getElem (show t.toNat - 1 < p.length by omega)]
  exact List.getElem_mem _
theorem in_ne {p : Pl} {t : Int} (h : inP p t = true) : t ≠ 0 := fun e => by rw [e, inP_zero] at h; cases h

section
variable {p : Pl} {g : List Int} {s : Int → Option Way} {t : Int}
theorem free_yes (h : freeB (atP p t).1.kind = true) : derB p s t = true := derB_iff.2 (.free h)
theorem pair_eq (hp : Ok p) (hin : inP p t = true) (h : (atP p t).1.kind = 4) : derB p s t = ((s t).isSome || (derB p s (atP p t).1.a && derB p s (atP p t).1.b)) := by
  have hb := in_ne ((kid_real (hp.mem _ (at_mem hin))).2 (by rw [h]; rfl))
  rw [derB_eq, show partP p (atP p t).1 = ((atP p t).1.a, (atP p t).1.b, true) by unfold partP; rw [if_pos h], h]
  simp only [freeB]
  rw [show ((atP p t).1.b == 0) = false by simpa using hb]; simp
theorem hash_eq (h : (atP p t).1.kind = 5) : derB p s t = ((s t).isSome || derB p s (atP p t).1.a) := by
  rw [derB_eq, show partP p (atP p t).1 = ((atP p t).1.a, 0, true) by unfold partP; rw [if_neg (by omega), if_pos h], h]
  simp [freeB]
theorem other_eq (h : (atP p t).1.kind ≠ 1 ∧ (atP p t).1.kind ≠ 2 ∧ (atP p t).1.kind ≠ 3 ∧ (atP p t).1.kind ≠ 4 ∧ (atP p t).1.kind ≠ 5 ∧ (atP p t).1.kind ≠ 7 ∧ (atP p t).1.kind ≠ 8 ∧ (atP p t).1.kind ≠ 9) : derB p s t = (s t).isSome := by
  obtain ⟨h1, h2, h3, h4, h5, h7, h8, h9⟩ := h
  have e1 : freeB (atP p t).1.kind = false := by simp [freeB, h1, h2, h3]
  have e2 : partP p (atP p t).1 = (0, 0, false) := by unfold partP; rw [if_neg h4, if_neg h5, if_neg (by simp [showB, h7, h8, h9])]
  rw [derB_eq, e1, e2]
  simp
theorem take_der (hs : ∀ x, (s x).isSome = true ↔ Reach p g x) (r : Int) (h0 : takeN r (atP p t).1 ≠ 0) (h : derB p s t = true) : derB p s (takeN r (atP p t).1) = true := by
  rw [derB_iff] at h ⊢
  exact h.take (fun x r hx h0 => (hs _).2 (.step r ((hs x).1 hx) h0)) r h0
/-- What a pair that is derived shows. -/
theorem pair_shows (hp : Ok p) (hs : ∀ x, (s x).isSome = true ↔ Reach p g x) (hin : inP p t = true) (h : (atP p t).1.kind = 4) (hd : derB p s t = true) : derB p s (atP p t).1.a = true ∧ derB p s (atP p t).1.b = true := by
  have hk := kid_real (hp.mem _ (at_mem hin))
  have ha := in_ne (hk.1 (by rw [h]; decide))
  have hb := in_ne (hk.2 (by rw [h]; rfl))
  have e1 : takeN 1 (atP p t).1 = (atP p t).1.a := by unfold takeN; rw [if_pos h, if_pos rfl]
  have e2 : takeN 2 (atP p t).1 = (atP p t).1.b := by unfold takeN; rw [if_pos h, if_neg (by omega), if_pos rfl]
  have h1 := take_der hs 1 (by rw [e1]; exact ha) hd
  have h2 := take_der hs 2 (by rw [e2]; exact hb) hd
  rw [e1] at h1
  rw [e2] at h2
  exact ⟨h1, h2⟩
/-- What a signature, a promise, a fake that is derived shows. -/
theorem show_shows (hp : Ok p) (hs : ∀ x, (s x).isSome = true ↔ Reach p g x) (hin : inP p t = true) (h : (atP p t).1.kind = 7 ∨ (atP p t).1.kind = 8 ∨ (atP p t).1.kind = 9) (hd : derB p s t = true) : derB p s (atP p t).1.a = true := by
  have hk := kid_real (hp.mem _ (at_mem hin))
  have ha := in_ne (hk.1 (by rcases h with h | h | h <;> rw [h] <;> decide))
  have e1 : takeN 3 (atP p t).1 = (atP p t).1.a := by unfold takeN; rw [if_neg (by omega), if_pos (by unfold showB; rcases h with h | h | h <;> rw [h] <;> rfl), if_pos rfl]
  have h1 := take_der hs 3 (by rw [e1]; exact ha) hd
  rwa [e1] at h1
/-- A signature, a promise, a fake: its key's own derivation. -/
theorem show_eq2 (h : (atP p t).1.kind = 7 ∨ (atP p t).1.kind = 8 ∨ (atP p t).1.kind = 9) : derB p s t = ((s t).isSome || (derB p s (atP p t).1.a && (decide (keyP p (atP p t).1 ≠ 0) && derB p s (keyP p (atP p t).1 : Int)))) := by
  rw [show_eq h]
  by_cases h0 : keyP p (atP p t).1 = 0
  · rw [decide_eq_false (by simpa using h0)]; simp
  · rw [key_der (show (atP p (keyP p (atP p t).1 : Int)).1.kind = 6 by rw [key_kind h0]; rfl)]
end

set_option maxRecDepth 100000 in
set_option maxHeartbeats 25600000 in
theorem closed_walk {w : World} (hl : Laid w) {fo : Fo} {vn : Value} (hk : IsK w (fun b => b < w.heap.size) vn fo) (hok : OkF fo) {vg : Value} {g : List Int} (hg : Row w 1 vg g.length (ints g)) (hgi : ∀ x ∈ g, i64R x) : Calls Tryd.prog 7 #[vn, vg] w fun e w' => e = .returned (.bool true) ∧ Below w.heap.size w w' := by
  have hlen := hk.small
  unfold maxLen at hlen
  obtain ⟨av, cv, rfl, _⟩ := hk.shape
  obtain ⟨ga, gc, rfl⟩ := hg.shape
  have HL := Lib.hid hl
  have HK := Lib.hid hk
  have HOK := Lib.hid hok
  have HG := Lib.hid hg
  have HGI := Lib.hid hgi
  have WD := Lib.hid (wide_any hk)
  have hgl : g.length ≤ 9223372036854775807 := by
    rcases hg.2 with ⟨_, h0⟩ | ⟨b, off, cap, _, _, h4, h5, _⟩
    · omega
    · unfold maxLen at h5; omega
  clear hl hk hok hg hgi
  go_enter Tryd.func7, Tryd.ntmps7
  go_wp2_with fail
  refine WD.out.mono ?_
  rintro e w1 ⟨⟨q1, rfl, hq1⟩, u1⟩
  have HU1 := Lib.hid u1
  clear u1 WD
  cases q1 with
  | true =>
    go_wp2_with fail
    refine (live_any (HL.out.below HU1.out)).mono ?_
    rintro e w2 ⟨rfl, u2⟩
    have HU2 := Lib.hid (bmore HU1.out u2)
    clear u2
    go_wp2_with fail
    go_returns
    exact ⟨rfl, HU2.out⟩
  | false =>
    obtain ⟨h12, h400⟩ := hq1 rfl
    by_cases h20 : 20 < g.length
    · have h20' : (20 : Int) < (g.length : Int) := by omega
      go_wp2_with fail
      refine (live_any (HL.out.below HU1.out)).mono ?_
      rintro e w2 ⟨rfl, u2⟩
      have HU2 := Lib.hid (bmore HU1.out u2)
      clear u2
      go_wp2_with fail
      go_returns
      exact ⟨rfl, HU2.out⟩
    · have h20' : decide ((20 : Int) < (g.length : Int)) = false := decide_eq_false (by omega)
      have hkl := (HK.out.below HU1.out).keep (G' := fun b => b < w1.heap.size) (fun b hb _ => ⟨Nat.lt_of_lt_of_le hb HU1.out.size, rfl⟩)
      have PO := Lib.hid (pools_any (HL.out.below HU1.out) hkl HOK.out (by omega) (by omega))
      have hg20 : g.length ≤ 20 := by omega
      clear hkl h20
      go_wp2_with fail
      refine PO.out.mono ?_
      rintro e w2 ⟨pa, b, ra, vv, vo, rl, rs, rd, q, rfl, p2, r2, u2⟩
      have HP2 := Lib.hid p2
      have HR2 := Lib.hid r2
      have HU2 := Lib.hid (bmore HU1.out u2)
      have HG2 := Lib.hid (HG.out.below (bmore HU1.out u2))
      clear p2 r2 u2 PO
      have KN := Lib.hid (know_any HP2.out HG2.out HGI.out (by omega))
      go_wp2_with fail
      refine KN.out.mono ?_
      rintro e w3 ⟨k, mb, gv, s, rfl, k3, u3⟩
      have HP3 := Lib.hid (HP2.out.below u3)
      have HR3 := Lib.hid (HR2.out.below u3)
      have HU3 := Lib.hid (bmore HU2.out u3)
      have HK3 := Lib.hid k3
      clear k3 u3 KN HP2 HR2
      obtain ⟨ala, alc, rfl⟩ := (row_of_own HR3.out.rl).shape
      have hql : q.length ≤ 65536 := HP3.out.ok.len
      go_wp2_with fail
      go_loopw [10] (fun v10 wr => ∃ t : Nat, v10 = .int .i64 (t : Int) ∧ 1 ≤ t ∧ t ≤ q.length + 1 ∧ Below w3.heap.size w3 wr) (fun v _ => q.length + 2 - (intOf v).toNat)
      case atStart => exact ⟨1, rfl, by omega, by omega, Below.refl _ _⟩
      case round =>
        obtain ⟨t, rfl, ht1, ht2, hb⟩ := hrel
        have HB := Lib.hid hb
        have cR : wr.cell? ⟨ra, 0, none⟩ = some (.slice ala q.length alc) := cellB (HR3.out.below hb).lay rfl
        clear hb
        by_cases hlt : t ≤ q.length
        · have ht0 : (t : Int) ≤ (q.length : Int) := by omega
          have hin : inP q (t : Int) = true := by simp [inP]; omega
          have hti : i64R (t : Int) := in_i64 hql (.inr hin)
          have RN := Lib.hid (rnode (HR3.out.below HB.out) (t : Int))
          rw [hin] at RN
          have hno := atP_nok HP3.out.nok (t : Int)
          have hfi := hno.frm
          have hto := hno.to
          have DE := Lib.hid (fun (W : World) (h : Below wr.heap.size wr W) => derives_any ((HP3.out.below HB.out).below h) ((HK3.out.below HB.out).below h) hti)
          have DA := Lib.hid (fun (W : World) (h : Below wr.heap.size wr W) => derives_any ((HP3.out.below HB.out).below h) ((HK3.out.below HB.out).below h) hno.a)
          have DB := Lib.hid (fun (W : World) (h : Below wr.heap.size wr W) => derives_any ((HP3.out.below HB.out).below h) ((HK3.out.below HB.out).below h) hno.b)
          have SE := Lib.hid (fun (W : World) (h : Below wr.heap.size wr W) => sees_any ((HK3.out.below HB.out).below h) hti)
          have F1 := Lib.hid (fun (h : freeB (atP q (t : Int)).1.kind = true) => free_yes (s := s) h)
          have F4 := Lib.hid (fun (h : (atP q (t : Int)).1.kind = 4) => pair_eq (s := s) HP3.out.ok hin h)
          have S4 := Lib.hid (fun (h : (atP q (t : Int)).1.kind = 4) (hd : derB q s (t : Int) = true) => pair_shows HP3.out.ok HK3.out.ok.reach hin h hd)
          have F5 := Lib.hid (fun (h : (atP q (t : Int)).1.kind = 5) => hash_eq (s := s) h)
          have F7 := Lib.hid (fun (h : (atP q (t : Int)).1.kind = 7 ∨ (atP q (t : Int)).1.kind = 8 ∨ (atP q (t : Int)).1.kind = 9) => show_eq2 (s := s) h)
          have S7 := Lib.hid (fun (h : (atP q (t : Int)).1.kind = 7 ∨ (atP q (t : Int)).1.kind = 8 ∨ (atP q (t : Int)).1.kind = 9) (hd : derB q s (t : Int) = true) => show_shows HP3.out.ok HK3.out.ok.reach hin h hd)
          have F0 := Lib.hid (fun (h : (atP q (t : Int)).1.kind ≠ 1 ∧ (atP q (t : Int)).1.kind ≠ 2 ∧ (atP q (t : Int)).1.kind ≠ 3 ∧ (atP q (t : Int)).1.kind ≠ 4 ∧ (atP q (t : Int)).1.kind ≠ 5 ∧ (atP q (t : Int)).1.kind ≠ 7 ∧ (atP q (t : Int)).1.kind ≠ 8 ∧ (atP q (t : Int)).1.kind ≠ 9) => other_eq (s := s) h)
          unfold keyP holdN at F7
          generalize derB q s (t : Int) = dd at *
          generalize (s (t : Int)).isSome = sd at *
          generalize (atP q (t : Int)).1 = n at *
          obtain ⟨kk, ff, tt, uu, ss, xa, xb⟩ := n
          simp only [nodeA] at RN
          simp only at hfi hto F1 F4 S4 F5 F7 S7 F0 DA DB
          generalize derB q s xa = da at *
          generalize derB q s xb = db at *
          clear hno hin hti
          go_wp2_with fail
          refine RN.out.mono ?_
          rintro e w4 ⟨rfl, u4⟩
          have b5 := bA0 w4 (.cells #[.int .i64 kk, .int .i64 ff, .int .i64 tt, .int .u64 uu, .string ss, .int .i64 xa, .int .i64 xb] NodeT)
          have hn5 : (w4.alloc (.cells #[.int .i64 kk, .int .i64 ff, .int .i64 tt, .int .u64 uu, .string ss, .int .i64 xa, .int .i64 xb] NodeT)).heap[w4.heap.size]? = some (Obj.cells #[.int .i64 kk, .int .i64 ff, .int .i64 tt, .int .u64 uu, .string ss, .int .i64 xa, .int .i64 xb] NodeT) := heap_alloc_new _ _
          have H5 := Lib.hid (bmore u4 b5)
          have HN5 := Lib.hid hn5
          clear u4 b5 hn5
          go_wp2_with fail
          generalize (w4.alloc (.cells #[.int .i64 kk, .int .i64 ff, .int .i64 tt, .int .u64 uu, .string ss, .int .i64 xa, .int .i64 xb] NodeT)) = w5 at *
          generalize w4.heap.size = nb at *
          refine (DE.out _ H5.out).mono ?_
          rintro e w6 ⟨rfl, u6⟩
          have H6 := Lib.hid (bmore H5.out u6)
          have HN6 := Lib.hid (Hold.below u6 _ _ HN5.out)
          clear u6
          go_wp2_with fail
          refine (SE.out _ H6.out).mono ?_
          rintro e w7 ⟨rfl, u7⟩
          have H7 := Lib.hid (bmore H6.out u7)
          have HN7 := Lib.hid (Hold.below u7 _ _ HN6.out)
          have hn7 := HN7.out
          have HR7 := Lib.hid ((HR3.out.below HB.out).below (bmore H6.out u7))
          have HK7 := Lib.hid ((HK3.out.below HB.out).below (bmore H6.out u7))
          have y0 := cellB (j := 0) hn7 rfl
          have y1 := cellB (j := 1) hn7 rfl
          have y2 := cellB (j := 2) hn7 rfl
          have y5 := cellB (j := 5) hn7 rfl
          have y6 := cellB (j := 6) hn7 rfl
          clear u7 hn7 DE SE RN
          by_cases h9 : kk = 9
          · subst h9
            rw [if_pos rfl] at F7
            have RH := Lib.hid (rhas HR7.out (nok_key hto))
            have DK := Lib.hid (fun (h : numP q (keyNd tt) ≠ 0) (W : World) (hW : Below wr.heap.size wr W) => derives_any ((HP3.out.below HB.out).below hW) ((HK3.out.below HB.out).below hW) (show i64R (numP q (keyNd tt) : Int) from in_i64 hql (.inr (by obtain ⟨i, hi, h1, _⟩ := numP_some h; rw [h1]; simp [inP]; omega))))
            generalize numP q (keyNd tt) = kn at *
            simp only [nodeA, keyNd, emptyS] at RH
            go_wp2_with fail
            refine RH.out.mono ?_
            rintro e w8 ⟨rfl, u8⟩
            have H8 := Lib.hid (bmore H7.out u8)
            have HN8 := Lib.hid (Hold.below u8 _ _ HN7.out)
            have hn8 := HN8.out
            clear y0 y1 y2 y5 y6
            have y0 := cellB (j := 0) hn8 rfl
            have y1 := cellB (j := 1) hn8 rfl
            have y2 := cellB (j := 2) hn8 rfl
            have y5 := cellB (j := 5) hn8 rfl
            have y6 := cellB (j := 6) hn8 rfl
            clear u8 hn8 RH
            have f7 := F7.out (by simp)
            have s7 := S7.out (by simp)
            clear F1 F4 S4 F5 F7 S7 F0
            by_cases hkn : kn = 0
            · have hkd : decide (kn ≠ 0) = false := decide_eq_false (by simpa using hkn)
              rw [hkd] at f7
              simp only [hkd]
              obtain rfl : dd = sd := by rw [f7]; cases da <;> cases sd <;> rfl
              clear f7
              cases dd with
              | true =>
                obtain rfl := s7 rfl
                clear s7
                go_wp2_with fail
                refine (DA.out _ H8.out).mono ?_
                rintro e w21 ⟨rfl, u21⟩
                have H21 := Lib.hid (bmore H8.out u21)
                have HN21 := Lib.hid (Hold.below u21 _ _ HN8.out)
                have hn21 := HN21.out
                clear y0 y1 y2 y5 y6 u21
                have y0 := cellB (j := 0) hn21 rfl
                have y1 := cellB (j := 1) hn21 rfl
                have y2 := cellB (j := 2) hn21 rfl
                have y5 := cellB (j := 5) hn21 rfl
                have y6 := cellB (j := 6) hn21 rfl
                clear hn21
                go_wp2_with fail
                go_roundw
                case rel => exact ⟨t + 1, by go_num, by omega, by omega, bmore HB.out H21.out⟩
                case measure => simp [intOf]; omega
              | false =>
                clear s7
                go_wp2_with fail
                refine (DA.out _ H8.out).mono ?_
                rintro e w22 ⟨rfl, u22⟩
                have H22 := Lib.hid (bmore H8.out u22)
                have HN22 := Lib.hid (Hold.below u22 _ _ HN8.out)
                have hn22 := HN22.out
                clear y0 y1 y2 y5 y6 u22
                have y0 := cellB (j := 0) hn22 rfl
                have y1 := cellB (j := 1) hn22 rfl
                have y2 := cellB (j := 2) hn22 rfl
                have y5 := cellB (j := 5) hn22 rfl
                have y6 := cellB (j := 6) hn22 rfl
                clear hn22
                cases da
                all_goals
                  go_wp2_with fail
                  go_roundw
                  case rel => exact ⟨t + 1, by go_num, by omega, by omega, bmore HB.out H22.out⟩
                  case measure => simp [intOf]; omega
            · have hkd : decide (kn ≠ 0) = true := decide_eq_true hkn
              have DK2 := Lib.hid (DK.out hkn)
              rw [hkd] at f7
              simp only [hkd]
              generalize derB q s (kn : Int) = dk at *
              clear DK
              cases sd with
              | true =>
                obtain rfl : dd = true := by rw [f7]; rfl
                obtain rfl := s7 rfl
                clear f7 s7
                go_wp2_with fail
                refine (DA.out _ H8.out).mono ?_
                rintro e w23 ⟨rfl, u23⟩
                have H23 := Lib.hid (bmore H8.out u23)
                have HN23 := Lib.hid (Hold.below u23 _ _ HN8.out)
                have hn23 := HN23.out
                clear y0 y1 y2 y5 y6 u23
                have y0 := cellB (j := 0) hn23 rfl
                have y1 := cellB (j := 1) hn23 rfl
                have y2 := cellB (j := 2) hn23 rfl
                have y5 := cellB (j := 5) hn23 rfl
                have y6 := cellB (j := 6) hn23 rfl
                clear hn23
                go_wp2_with fail
                go_roundw
                case rel => exact ⟨t + 1, by go_num, by omega, by omega, bmore HB.out H23.out⟩
                case measure => simp [intOf]; omega
              | false =>
                cases da with
                | false =>
                  obtain rfl : dd = false := by rw [f7]; rfl
                  clear f7 s7
                  go_wp2_with fail
                  refine (DA.out _ H8.out).mono ?_
                  rintro e w24 ⟨rfl, u24⟩
                  have H24 := Lib.hid (bmore H8.out u24)
                  have HN24 := Lib.hid (Hold.below u24 _ _ HN8.out)
                  have hn24 := HN24.out
                  clear y0 y1 y2 y5 y6 u24
                  have y0 := cellB (j := 0) hn24 rfl
                  have y1 := cellB (j := 1) hn24 rfl
                  have y2 := cellB (j := 2) hn24 rfl
                  have y5 := cellB (j := 5) hn24 rfl
                  have y6 := cellB (j := 6) hn24 rfl
                  clear hn24
                  go_wp2_with fail
                  go_roundw
                  case rel => exact ⟨t + 1, by go_num, by omega, by omega, bmore HB.out H24.out⟩
                  case measure => simp [intOf]; omega
                | true =>
                  obtain rfl : dd = dk := by rw [f7]; rfl
                  clear f7 s7
                  go_wp2_with fail
                  refine (DA.out _ H8.out).mono ?_
                  rintro e w25 ⟨rfl, u25⟩
                  have H25 := Lib.hid (bmore H8.out u25)
                  have HN25 := Lib.hid (Hold.below u25 _ _ HN8.out)
                  have hn25 := HN25.out
                  clear y0 y1 y2 y5 y6 u25
                  have y0 := cellB (j := 0) hn25 rfl
                  have y1 := cellB (j := 1) hn25 rfl
                  have y2 := cellB (j := 2) hn25 rfl
                  have y5 := cellB (j := 5) hn25 rfl
                  have y6 := cellB (j := 6) hn25 rfl
                  clear hn25
                  go_wp2_with fail
                  refine (DK2.out _ H25.out).mono ?_
                  rintro e w26 ⟨rfl, u26⟩
                  have H26 := Lib.hid (bmore H25.out u26)
                  have HN26 := Lib.hid (Hold.below u26 _ _ HN25.out)
                  have hn26 := HN26.out
                  clear y0 y1 y2 y5 y6 u26
                  have y0 := cellB (j := 0) hn26 rfl
                  have y1 := cellB (j := 1) hn26 rfl
                  have y2 := cellB (j := 2) hn26 rfl
                  have y5 := cellB (j := 5) hn26 rfl
                  have y6 := cellB (j := 6) hn26 rfl
                  clear hn26
                  cases dd with
                  | false =>
                    go_wp2_with fail
                    go_roundw
                    case rel => exact ⟨t + 1, by go_num, by omega, by omega, bmore HB.out H26.out⟩
                    case measure => simp [intOf]; omega
                  | true =>
                    go_wp2_with fail
                    refine (DA.out _ H26.out).mono ?_
                    rintro e w27 ⟨rfl, u27⟩
                    have H27 := Lib.hid (bmore H26.out u27)
                    have HN27 := Lib.hid (Hold.below u27 _ _ HN26.out)
                    have hn27 := HN27.out
                    clear y0 y1 y2 y5 y6 u27
                    have y0 := cellB (j := 0) hn27 rfl
                    have y1 := cellB (j := 1) hn27 rfl
                    have y2 := cellB (j := 2) hn27 rfl
                    have y5 := cellB (j := 5) hn27 rfl
                    have y6 := cellB (j := 6) hn27 rfl
                    clear hn27
                    go_wp2_with fail
                    go_roundw
                    case rel => exact ⟨t + 1, by go_num, by omega, by omega, bmore HB.out H27.out⟩
                    case measure => simp [intOf]; omega
          · have h9' := ebF h9
            rw [if_neg h9] at F7
            have RH := Lib.hid (rhas HR7.out (nok_key hfi))
            have DK := Lib.hid (fun (h : numP q (keyNd ff) ≠ 0) (W : World) (hW : Below wr.heap.size wr W) => derives_any ((HP3.out.below HB.out).below hW) ((HK3.out.below HB.out).below hW) (show i64R (numP q (keyNd ff) : Int) from in_i64 hql (.inr (by obtain ⟨i, hi, h1, _⟩ := numP_some h; rw [h1]; simp [inP]; omega))))
            generalize numP q (keyNd ff) = kn at *
            simp only [nodeA, keyNd, emptyS] at RH
            go_wp2_with fail
            refine RH.out.mono ?_
            rintro e w8 ⟨rfl, u8⟩
            have H8 := Lib.hid (bmore H7.out u8)
            have HN8 := Lib.hid (Hold.below u8 _ _ HN7.out)
            have hn8 := HN8.out
            clear y0 y1 y2 y5 y6
            have y0 := cellB (j := 0) hn8 rfl
            have y1 := cellB (j := 1) hn8 rfl
            have y2 := cellB (j := 2) hn8 rfl
            have y5 := cellB (j := 5) hn8 rfl
            have y6 := cellB (j := 6) hn8 rfl
            clear u8 hn8 RH
            by_cases h1 : kk = 1
            · subst h1
              obtain rfl : dd = true := F1.out (by rfl)
              clear F1 F4 S4 F5 F7 S7 F0
              generalize decide (kn ≠ 0) = th at *
              go_wp2_with fail
              go_roundw
              case rel => exact ⟨t + 1, by go_num, by omega, by omega, bmore HB.out H8.out⟩
              case measure => simp [intOf]; omega
            have h1' := ebF h1
            by_cases h2 : kk = 2
            · subst h2
              obtain rfl : dd = true := F1.out (by rfl)
              clear F1 F4 S4 F5 F7 S7 F0
              generalize decide (kn ≠ 0) = th at *
              go_wp2_with fail
              go_roundw
              case rel => exact ⟨t + 1, by go_num, by omega, by omega, bmore HB.out H8.out⟩
              case measure => simp [intOf]; omega
            have h2' := ebF h2
            by_cases h3 : kk = 3
            · subst h3
              obtain rfl : dd = true := F1.out (by rfl)
              clear F1 F4 S4 F5 F7 S7 F0
              generalize decide (kn ≠ 0) = th at *
              go_wp2_with fail
              go_roundw
              case rel => exact ⟨t + 1, by go_num, by omega, by omega, bmore HB.out H8.out⟩
              case measure => simp [intOf]; omega
            have h3' := ebF h3
            by_cases h4 : kk = 4
            · subst h4
              generalize decide (kn ≠ 0) = th at *
              have f4 := F4.out (by rfl)
              have s4 := S4.out (by rfl)
              clear F1 F4 S4 F5 F7 S7 F0
              cases sd with
              | true =>
                obtain rfl : dd = true := by rw [f4]; rfl
                obtain ⟨rfl, rfl⟩ := s4 rfl
                clear f4 s4
                go_wp2_with fail
                refine (DA.out _ H8.out).mono ?_
                rintro e w28 ⟨rfl, u28⟩
                have H28 := Lib.hid (bmore H8.out u28)
                have HN28 := Lib.hid (Hold.below u28 _ _ HN8.out)
                have hn28 := HN28.out
                clear y0 y1 y2 y5 y6 u28
                have y0 := cellB (j := 0) hn28 rfl
                have y1 := cellB (j := 1) hn28 rfl
                have y2 := cellB (j := 2) hn28 rfl
                have y5 := cellB (j := 5) hn28 rfl
                have y6 := cellB (j := 6) hn28 rfl
                clear hn28
                go_wp2_with fail
                refine (DB.out _ H28.out).mono ?_
                rintro e w29 ⟨rfl, u29⟩
                have H29 := Lib.hid (bmore H28.out u29)
                have HN29 := Lib.hid (Hold.below u29 _ _ HN28.out)
                have hn29 := HN29.out
                clear y0 y1 y2 y5 y6 u29
                have y0 := cellB (j := 0) hn29 rfl
                have y1 := cellB (j := 1) hn29 rfl
                have y2 := cellB (j := 2) hn29 rfl
                have y5 := cellB (j := 5) hn29 rfl
                have y6 := cellB (j := 6) hn29 rfl
                clear hn29
                go_wp2_with fail
                go_roundw
                case rel => exact ⟨t + 1, by go_num, by omega, by omega, bmore HB.out H29.out⟩
                case measure => simp [intOf]; omega
              | false =>
                cases da with
                | false =>
                  obtain rfl : dd = false := by rw [f4]; rfl
                  clear f4 s4
                  go_wp2_with fail
                  refine (DA.out _ H8.out).mono ?_
                  rintro e w30 ⟨rfl, u30⟩
                  have H30 := Lib.hid (bmore H8.out u30)
                  have HN30 := Lib.hid (Hold.below u30 _ _ HN8.out)
                  have hn30 := HN30.out
                  clear y0 y1 y2 y5 y6 u30
                  have y0 := cellB (j := 0) hn30 rfl
                  have y1 := cellB (j := 1) hn30 rfl
                  have y2 := cellB (j := 2) hn30 rfl
                  have y5 := cellB (j := 5) hn30 rfl
                  have y6 := cellB (j := 6) hn30 rfl
                  clear hn30
                  go_wp2_with fail
                  go_roundw
                  case rel => exact ⟨t + 1, by go_num, by omega, by omega, bmore HB.out H30.out⟩
                  case measure => simp [intOf]; omega
                | true =>
                  cases db with
                  | false =>
                    obtain rfl : dd = false := by rw [f4]; rfl
                    clear f4 s4
                    go_wp2_with fail
                    refine (DA.out _ H8.out).mono ?_
                    rintro e w31 ⟨rfl, u31⟩
                    have H31 := Lib.hid (bmore H8.out u31)
                    have HN31 := Lib.hid (Hold.below u31 _ _ HN8.out)
                    have hn31 := HN31.out
                    clear y0 y1 y2 y5 y6 u31
                    have y0 := cellB (j := 0) hn31 rfl
                    have y1 := cellB (j := 1) hn31 rfl
                    have y2 := cellB (j := 2) hn31 rfl
                    have y5 := cellB (j := 5) hn31 rfl
                    have y6 := cellB (j := 6) hn31 rfl
                    clear hn31
                    go_wp2_with fail
                    refine (DB.out _ H31.out).mono ?_
                    rintro e w32 ⟨rfl, u32⟩
                    have H32 := Lib.hid (bmore H31.out u32)
                    have HN32 := Lib.hid (Hold.below u32 _ _ HN31.out)
                    have hn32 := HN32.out
                    clear y0 y1 y2 y5 y6 u32
                    have y0 := cellB (j := 0) hn32 rfl
                    have y1 := cellB (j := 1) hn32 rfl
                    have y2 := cellB (j := 2) hn32 rfl
                    have y5 := cellB (j := 5) hn32 rfl
                    have y6 := cellB (j := 6) hn32 rfl
                    clear hn32
                    go_wp2_with fail
                    go_roundw
                    case rel => exact ⟨t + 1, by go_num, by omega, by omega, bmore HB.out H32.out⟩
                    case measure => simp [intOf]; omega
                  | true =>
                    obtain rfl : dd = true := by rw [f4]; rfl
                    clear f4 s4
                    go_wp2_with fail
                    refine (DA.out _ H8.out).mono ?_
                    rintro e w33 ⟨rfl, u33⟩
                    have H33 := Lib.hid (bmore H8.out u33)
                    have HN33 := Lib.hid (Hold.below u33 _ _ HN8.out)
                    have hn33 := HN33.out
                    clear y0 y1 y2 y5 y6 u33
                    have y0 := cellB (j := 0) hn33 rfl
                    have y1 := cellB (j := 1) hn33 rfl
                    have y2 := cellB (j := 2) hn33 rfl
                    have y5 := cellB (j := 5) hn33 rfl
                    have y6 := cellB (j := 6) hn33 rfl
                    clear hn33
                    go_wp2_with fail
                    refine (DB.out _ H33.out).mono ?_
                    rintro e w34 ⟨rfl, u34⟩
                    have H34 := Lib.hid (bmore H33.out u34)
                    have HN34 := Lib.hid (Hold.below u34 _ _ HN33.out)
                    have hn34 := HN34.out
                    clear y0 y1 y2 y5 y6 u34
                    have y0 := cellB (j := 0) hn34 rfl
                    have y1 := cellB (j := 1) hn34 rfl
                    have y2 := cellB (j := 2) hn34 rfl
                    have y5 := cellB (j := 5) hn34 rfl
                    have y6 := cellB (j := 6) hn34 rfl
                    clear hn34
                    go_wp2_with fail
                    refine (DA.out _ H34.out).mono ?_
                    rintro e w35 ⟨rfl, u35⟩
                    have H35 := Lib.hid (bmore H34.out u35)
                    have HN35 := Lib.hid (Hold.below u35 _ _ HN34.out)
                    have hn35 := HN35.out
                    clear y0 y1 y2 y5 y6 u35
                    have y0 := cellB (j := 0) hn35 rfl
                    have y1 := cellB (j := 1) hn35 rfl
                    have y2 := cellB (j := 2) hn35 rfl
                    have y5 := cellB (j := 5) hn35 rfl
                    have y6 := cellB (j := 6) hn35 rfl
                    clear hn35
                    go_wp2_with fail
                    refine (DB.out _ H35.out).mono ?_
                    rintro e w36 ⟨rfl, u36⟩
                    have H36 := Lib.hid (bmore H35.out u36)
                    have HN36 := Lib.hid (Hold.below u36 _ _ HN35.out)
                    have hn36 := HN36.out
                    clear y0 y1 y2 y5 y6 u36
                    have y0 := cellB (j := 0) hn36 rfl
                    have y1 := cellB (j := 1) hn36 rfl
                    have y2 := cellB (j := 2) hn36 rfl
                    have y5 := cellB (j := 5) hn36 rfl
                    have y6 := cellB (j := 6) hn36 rfl
                    clear hn36
                    go_wp2_with fail
                    go_roundw
                    case rel => exact ⟨t + 1, by go_num, by omega, by omega, bmore HB.out H36.out⟩
                    case measure => simp [intOf]; omega
            have h4' := ebF h4
            by_cases h5 : kk = 5
            · subst h5
              generalize decide (kn ≠ 0) = th at *
              have f5 := F5.out (by rfl)
              clear F1 F4 S4 F5 F7 S7 F0
              cases sd with
              | true =>
                obtain rfl : dd = true := by rw [f5]; rfl
                clear f5
                go_wp2_with fail
                go_roundw
                case rel => exact ⟨t + 1, by go_num, by omega, by omega, bmore HB.out H8.out⟩
                case measure => simp [intOf]; omega
              | false =>
                obtain rfl : dd = da := by rw [f5]; rfl
                clear f5
                go_wp2_with fail
                refine (DA.out _ H8.out).mono ?_
                rintro e w37 ⟨rfl, u37⟩
                have H37 := Lib.hid (bmore H8.out u37)
                have HN37 := Lib.hid (Hold.below u37 _ _ HN8.out)
                have hn37 := HN37.out
                clear y0 y1 y2 y5 y6 u37
                have y0 := cellB (j := 0) hn37 rfl
                have y1 := cellB (j := 1) hn37 rfl
                have y2 := cellB (j := 2) hn37 rfl
                have y5 := cellB (j := 5) hn37 rfl
                have y6 := cellB (j := 6) hn37 rfl
                clear hn37
                cases dd
                all_goals
                  go_wp2_with fail
                  go_roundw
                  case rel => exact ⟨t + 1, by go_num, by omega, by omega, bmore HB.out H37.out⟩
                  case measure => simp [intOf]; omega
            have h5' := ebF h5
            by_cases h7 : kk = 7
            · subst h7
              have f7 := F7.out (by simp)
              have s7 := S7.out (by simp)
              clear F1 F4 S4 F5 F7 S7 F0
              by_cases hkn : kn = 0
              · have hkd : decide (kn ≠ 0) = false := decide_eq_false (by simpa using hkn)
                rw [hkd] at f7
                simp only [hkd]
                obtain rfl : dd = sd := by rw [f7]; cases da <;> cases sd <;> rfl
                clear f7
                cases dd with
                | true =>
                  obtain rfl := s7 rfl
                  clear s7
                  go_wp2_with fail
                  refine (DA.out _ H8.out).mono ?_
                  rintro e w38 ⟨rfl, u38⟩
                  have H38 := Lib.hid (bmore H8.out u38)
                  have HN38 := Lib.hid (Hold.below u38 _ _ HN8.out)
                  have hn38 := HN38.out
                  clear y0 y1 y2 y5 y6 u38
                  have y0 := cellB (j := 0) hn38 rfl
                  have y1 := cellB (j := 1) hn38 rfl
                  have y2 := cellB (j := 2) hn38 rfl
                  have y5 := cellB (j := 5) hn38 rfl
                  have y6 := cellB (j := 6) hn38 rfl
                  clear hn38
                  go_wp2_with fail
                  go_roundw
                  case rel => exact ⟨t + 1, by go_num, by omega, by omega, bmore HB.out H38.out⟩
                  case measure => simp [intOf]; omega
                | false =>
                  clear s7
                  go_wp2_with fail
                  refine (DA.out _ H8.out).mono ?_
                  rintro e w39 ⟨rfl, u39⟩
                  have H39 := Lib.hid (bmore H8.out u39)
                  have HN39 := Lib.hid (Hold.below u39 _ _ HN8.out)
                  have hn39 := HN39.out
                  clear y0 y1 y2 y5 y6 u39
                  have y0 := cellB (j := 0) hn39 rfl
                  have y1 := cellB (j := 1) hn39 rfl
                  have y2 := cellB (j := 2) hn39 rfl
                  have y5 := cellB (j := 5) hn39 rfl
                  have y6 := cellB (j := 6) hn39 rfl
                  clear hn39
                  cases da
                  all_goals
                    go_wp2_with fail
                    go_roundw
                    case rel => exact ⟨t + 1, by go_num, by omega, by omega, bmore HB.out H39.out⟩
                    case measure => simp [intOf]; omega
              · have hkd : decide (kn ≠ 0) = true := decide_eq_true hkn
                have DK2 := Lib.hid (DK.out hkn)
                rw [hkd] at f7
                simp only [hkd]
                generalize derB q s (kn : Int) = dk at *
                clear DK
                cases sd with
                | true =>
                  obtain rfl : dd = true := by rw [f7]; rfl
                  obtain rfl := s7 rfl
                  clear f7 s7
                  go_wp2_with fail
                  refine (DA.out _ H8.out).mono ?_
                  rintro e w40 ⟨rfl, u40⟩
                  have H40 := Lib.hid (bmore H8.out u40)
                  have HN40 := Lib.hid (Hold.below u40 _ _ HN8.out)
                  have hn40 := HN40.out
                  clear y0 y1 y2 y5 y6 u40
                  have y0 := cellB (j := 0) hn40 rfl
                  have y1 := cellB (j := 1) hn40 rfl
                  have y2 := cellB (j := 2) hn40 rfl
                  have y5 := cellB (j := 5) hn40 rfl
                  have y6 := cellB (j := 6) hn40 rfl
                  clear hn40
                  go_wp2_with fail
                  go_roundw
                  case rel => exact ⟨t + 1, by go_num, by omega, by omega, bmore HB.out H40.out⟩
                  case measure => simp [intOf]; omega
                | false =>
                  cases da with
                  | false =>
                    obtain rfl : dd = false := by rw [f7]; rfl
                    clear f7 s7
                    go_wp2_with fail
                    refine (DA.out _ H8.out).mono ?_
                    rintro e w41 ⟨rfl, u41⟩
                    have H41 := Lib.hid (bmore H8.out u41)
                    have HN41 := Lib.hid (Hold.below u41 _ _ HN8.out)
                    have hn41 := HN41.out
                    clear y0 y1 y2 y5 y6 u41
                    have y0 := cellB (j := 0) hn41 rfl
                    have y1 := cellB (j := 1) hn41 rfl
                    have y2 := cellB (j := 2) hn41 rfl
                    have y5 := cellB (j := 5) hn41 rfl
                    have y6 := cellB (j := 6) hn41 rfl
                    clear hn41
                    go_wp2_with fail
                    go_roundw
                    case rel => exact ⟨t + 1, by go_num, by omega, by omega, bmore HB.out H41.out⟩
                    case measure => simp [intOf]; omega
                  | true =>
                    obtain rfl : dd = dk := by rw [f7]; rfl
                    clear f7 s7
                    go_wp2_with fail
                    refine (DA.out _ H8.out).mono ?_
                    rintro e w42 ⟨rfl, u42⟩
                    have H42 := Lib.hid (bmore H8.out u42)
                    have HN42 := Lib.hid (Hold.below u42 _ _ HN8.out)
                    have hn42 := HN42.out
                    clear y0 y1 y2 y5 y6 u42
                    have y0 := cellB (j := 0) hn42 rfl
                    have y1 := cellB (j := 1) hn42 rfl
                    have y2 := cellB (j := 2) hn42 rfl
                    have y5 := cellB (j := 5) hn42 rfl
                    have y6 := cellB (j := 6) hn42 rfl
                    clear hn42
                    go_wp2_with fail
                    refine (DK2.out _ H42.out).mono ?_
                    rintro e w43 ⟨rfl, u43⟩
                    have H43 := Lib.hid (bmore H42.out u43)
                    have HN43 := Lib.hid (Hold.below u43 _ _ HN42.out)
                    have hn43 := HN43.out
                    clear y0 y1 y2 y5 y6 u43
                    have y0 := cellB (j := 0) hn43 rfl
                    have y1 := cellB (j := 1) hn43 rfl
                    have y2 := cellB (j := 2) hn43 rfl
                    have y5 := cellB (j := 5) hn43 rfl
                    have y6 := cellB (j := 6) hn43 rfl
                    clear hn43
                    cases dd with
                    | false =>
                      go_wp2_with fail
                      go_roundw
                      case rel => exact ⟨t + 1, by go_num, by omega, by omega, bmore HB.out H43.out⟩
                      case measure => simp [intOf]; omega
                    | true =>
                      go_wp2_with fail
                      refine (DA.out _ H43.out).mono ?_
                      rintro e w44 ⟨rfl, u44⟩
                      have H44 := Lib.hid (bmore H43.out u44)
                      have HN44 := Lib.hid (Hold.below u44 _ _ HN43.out)
                      have hn44 := HN44.out
                      clear y0 y1 y2 y5 y6 u44
                      have y0 := cellB (j := 0) hn44 rfl
                      have y1 := cellB (j := 1) hn44 rfl
                      have y2 := cellB (j := 2) hn44 rfl
                      have y5 := cellB (j := 5) hn44 rfl
                      have y6 := cellB (j := 6) hn44 rfl
                      clear hn44
                      go_wp2_with fail
                      go_roundw
                      case rel => exact ⟨t + 1, by go_num, by omega, by omega, bmore HB.out H44.out⟩
                      case measure => simp [intOf]; omega
            have h7' := ebF h7
            by_cases h8 : kk = 8
            · subst h8
              have f7 := F7.out (by simp)
              have s7 := S7.out (by simp)
              clear F1 F4 S4 F5 F7 S7 F0
              by_cases hkn : kn = 0
              · have hkd : decide (kn ≠ 0) = false := decide_eq_false (by simpa using hkn)
                rw [hkd] at f7
                simp only [hkd]
                obtain rfl : dd = sd := by rw [f7]; cases da <;> cases sd <;> rfl
                clear f7
                cases dd with
                | true =>
                  obtain rfl := s7 rfl
                  clear s7
                  go_wp2_with fail
                  refine (DA.out _ H8.out).mono ?_
                  rintro e w45 ⟨rfl, u45⟩
                  have H45 := Lib.hid (bmore H8.out u45)
                  have HN45 := Lib.hid (Hold.below u45 _ _ HN8.out)
                  have hn45 := HN45.out
                  clear y0 y1 y2 y5 y6 u45
                  have y0 := cellB (j := 0) hn45 rfl
                  have y1 := cellB (j := 1) hn45 rfl
                  have y2 := cellB (j := 2) hn45 rfl
                  have y5 := cellB (j := 5) hn45 rfl
                  have y6 := cellB (j := 6) hn45 rfl
                  clear hn45
                  go_wp2_with fail
                  go_roundw
                  case rel => exact ⟨t + 1, by go_num, by omega, by omega, bmore HB.out H45.out⟩
                  case measure => simp [intOf]; omega
                | false =>
                  clear s7
                  go_wp2_with fail
                  refine (DA.out _ H8.out).mono ?_
                  rintro e w46 ⟨rfl, u46⟩
                  have H46 := Lib.hid (bmore H8.out u46)
                  have HN46 := Lib.hid (Hold.below u46 _ _ HN8.out)
                  have hn46 := HN46.out
                  clear y0 y1 y2 y5 y6 u46
                  have y0 := cellB (j := 0) hn46 rfl
                  have y1 := cellB (j := 1) hn46 rfl
                  have y2 := cellB (j := 2) hn46 rfl
                  have y5 := cellB (j := 5) hn46 rfl
                  have y6 := cellB (j := 6) hn46 rfl
                  clear hn46
                  cases da
                  all_goals
                    go_wp2_with fail
                    go_roundw
                    case rel => exact ⟨t + 1, by go_num, by omega, by omega, bmore HB.out H46.out⟩
                    case measure => simp [intOf]; omega
              · have hkd : decide (kn ≠ 0) = true := decide_eq_true hkn
                have DK2 := Lib.hid (DK.out hkn)
                rw [hkd] at f7
                simp only [hkd]
                generalize derB q s (kn : Int) = dk at *
                clear DK
                cases sd with
                | true =>
                  obtain rfl : dd = true := by rw [f7]; rfl
                  obtain rfl := s7 rfl
                  clear f7 s7
                  go_wp2_with fail
                  refine (DA.out _ H8.out).mono ?_
                  rintro e w47 ⟨rfl, u47⟩
                  have H47 := Lib.hid (bmore H8.out u47)
                  have HN47 := Lib.hid (Hold.below u47 _ _ HN8.out)
                  have hn47 := HN47.out
                  clear y0 y1 y2 y5 y6 u47
                  have y0 := cellB (j := 0) hn47 rfl
                  have y1 := cellB (j := 1) hn47 rfl
                  have y2 := cellB (j := 2) hn47 rfl
                  have y5 := cellB (j := 5) hn47 rfl
                  have y6 := cellB (j := 6) hn47 rfl
                  clear hn47
                  go_wp2_with fail
                  go_roundw
                  case rel => exact ⟨t + 1, by go_num, by omega, by omega, bmore HB.out H47.out⟩
                  case measure => simp [intOf]; omega
                | false =>
                  cases da with
                  | false =>
                    obtain rfl : dd = false := by rw [f7]; rfl
                    clear f7 s7
                    go_wp2_with fail
                    refine (DA.out _ H8.out).mono ?_
                    rintro e w48 ⟨rfl, u48⟩
                    have H48 := Lib.hid (bmore H8.out u48)
                    have HN48 := Lib.hid (Hold.below u48 _ _ HN8.out)
                    have hn48 := HN48.out
                    clear y0 y1 y2 y5 y6 u48
                    have y0 := cellB (j := 0) hn48 rfl
                    have y1 := cellB (j := 1) hn48 rfl
                    have y2 := cellB (j := 2) hn48 rfl
                    have y5 := cellB (j := 5) hn48 rfl
                    have y6 := cellB (j := 6) hn48 rfl
                    clear hn48
                    go_wp2_with fail
                    go_roundw
                    case rel => exact ⟨t + 1, by go_num, by omega, by omega, bmore HB.out H48.out⟩
                    case measure => simp [intOf]; omega
                  | true =>
                    obtain rfl : dd = dk := by rw [f7]; rfl
                    clear f7 s7
                    go_wp2_with fail
                    refine (DA.out _ H8.out).mono ?_
                    rintro e w49 ⟨rfl, u49⟩
                    have H49 := Lib.hid (bmore H8.out u49)
                    have HN49 := Lib.hid (Hold.below u49 _ _ HN8.out)
                    have hn49 := HN49.out
                    clear y0 y1 y2 y5 y6 u49
                    have y0 := cellB (j := 0) hn49 rfl
                    have y1 := cellB (j := 1) hn49 rfl
                    have y2 := cellB (j := 2) hn49 rfl
                    have y5 := cellB (j := 5) hn49 rfl
                    have y6 := cellB (j := 6) hn49 rfl
                    clear hn49
                    go_wp2_with fail
                    refine (DK2.out _ H49.out).mono ?_
                    rintro e w50 ⟨rfl, u50⟩
                    have H50 := Lib.hid (bmore H49.out u50)
                    have HN50 := Lib.hid (Hold.below u50 _ _ HN49.out)
                    have hn50 := HN50.out
                    clear y0 y1 y2 y5 y6 u50
                    have y0 := cellB (j := 0) hn50 rfl
                    have y1 := cellB (j := 1) hn50 rfl
                    have y2 := cellB (j := 2) hn50 rfl
                    have y5 := cellB (j := 5) hn50 rfl
                    have y6 := cellB (j := 6) hn50 rfl
                    clear hn50
                    cases dd with
                    | false =>
                      go_wp2_with fail
                      go_roundw
                      case rel => exact ⟨t + 1, by go_num, by omega, by omega, bmore HB.out H50.out⟩
                      case measure => simp [intOf]; omega
                    | true =>
                      go_wp2_with fail
                      refine (DA.out _ H50.out).mono ?_
                      rintro e w51 ⟨rfl, u51⟩
                      have H51 := Lib.hid (bmore H50.out u51)
                      have HN51 := Lib.hid (Hold.below u51 _ _ HN50.out)
                      have hn51 := HN51.out
                      clear y0 y1 y2 y5 y6 u51
                      have y0 := cellB (j := 0) hn51 rfl
                      have y1 := cellB (j := 1) hn51 rfl
                      have y2 := cellB (j := 2) hn51 rfl
                      have y5 := cellB (j := 5) hn51 rfl
                      have y6 := cellB (j := 6) hn51 rfl
                      clear hn51
                      go_wp2_with fail
                      go_roundw
                      case rel => exact ⟨t + 1, by go_num, by omega, by omega, bmore HB.out H51.out⟩
                      case measure => simp [intOf]; omega
            have h8' := ebF h8
            obtain rfl : dd = sd := F0.out ⟨h1, h2, h3, h4, h5, h7, h8, h9⟩
            generalize decide (kn ≠ 0) = th at *
            clear F1 F4 S4 F5 F7 S7 F0
            cases dd
            all_goals
              go_wp2_with fail
              go_roundw
              case rel => exact ⟨t + 1, by go_num, by omega, by omega, bmore HB.out H8.out⟩
              case measure => simp [intOf]; omega
        · have hge : decide ((t : Int) ≤ (q.length : Int)) = false := decide_eq_false (by omega)
          have LV := Lib.hid (live_any (HL.out.below (bmore HU3.out HB.out)))
          go_wp2_with fail
          refine LV.out.mono ?_
          rintro e w4 ⟨rfl, u4⟩
          have HU4 := Lib.hid (bmore (bmore HU3.out HB.out) u4)
          clear u4
          go_wp2_with fail
          go_returns
          exact ⟨rfl, HU4.out⟩
end Go.Proofs.YtljbmgehgbcdfaaDoor
