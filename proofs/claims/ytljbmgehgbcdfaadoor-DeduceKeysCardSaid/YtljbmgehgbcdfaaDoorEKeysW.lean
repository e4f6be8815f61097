/-
  The law's own walk: DeduceKeys.
-/
import Derived.Test.YtljbmgehgbcdfaaDoorEPools
import Derived.Test.YtljbmgehgbcdfaaDoorEDer
namespace Go.Proofs.YtljbmgehgbcdfaaDoor
open Go.RowKit Go.Maps
set_option linter.unusedVariables false

set_option maxRecDepth 100000 in
set_option maxHeartbeats 25600000 in
theorem keys_walk {w : World} (hl : Laid w) {fo : Fo} {vn : Value} (hk : IsK w (fun b => b < w.heap.size) vn fo) (hok : OkF fo) {vg : Value} {g : List Int} (hg : Row w 1 vg g.length (ints g)) (hgi : ∀ x ∈ g, i64R x) : Calls Tryd.prog 6 #[vn, vg] w fun e w' => e = .returned (.bool true) ∧ Below w.heap.size w w' := by
  have hlen := hk.small
  unfold maxLen at hlen
  obtain ⟨av, cv, rfl, _⟩ := hk.shape
  obtain ⟨ga, gc, rfl⟩ := hg.shape
  have HL := Lib.hid hl
  have HK := Lib.hid hk
  have HOK := Lib.hid hok
  have HG := Lib.hid hg
  have HGI := Lib.hid hgi
  have WD := Lib.hid (wide_any hk)
  have hgl : g.length ≤ 9223372036854775807 := by
    rcases hg.2 with ⟨_, h0⟩ | ⟨b, off, cap, _, _, h4, h5, _⟩
    · omega
    · unfold maxLen at h5; omega
  clear hl hk hok hg hgi
  go_enter Tryd.func6, Tryd.ntmps6
  go_wp2_with fail
  refine WD.out.mono ?_
  rintro e w1 ⟨⟨q1, rfl, hq1⟩, u1⟩
  have HU1 := Lib.hid u1
  clear u1 WD
  cases q1 with
  | true =>
    go_wp2_with fail
    refine (live_any (HL.out.below HU1.out)).mono ?_
    rintro e w2 ⟨rfl, u2⟩
    have HU2 := Lib.hid (bmore HU1.out u2)
    clear u2
    go_wp2_with fail
    go_returns
    exact ⟨rfl, HU2.out⟩
  | false =>
    obtain ⟨h12, h400⟩ := hq1 rfl
    by_cases h20 : 20 < g.length
    · have h20' : (20 : Int) < (g.length : Int) := by omega
      go_wp2_with fail
      refine (live_any (HL.out.below HU1.out)).mono ?_
      rintro e w2 ⟨rfl, u2⟩
      have HU2 := Lib.hid (bmore HU1.out u2)
      clear u2
      go_wp2_with fail
      go_returns
      exact ⟨rfl, HU2.out⟩
    · have h20' : decide ((20 : Int) < (g.length : Int)) = false := decide_eq_false (by omega)
      have hkl := (HK.out.below HU1.out).keep (G' := fun b => b < w1.heap.size) (fun b hb _ => ⟨Nat.lt_of_lt_of_le hb HU1.out.size, rfl⟩)
      have PO := Lib.hid (pools_any (HL.out.below HU1.out) hkl HOK.out (by omega) (by omega))
      have hg20 : g.length ≤ 20 := by omega
      clear hkl h20
      go_wp2_with fail
      refine PO.out.mono ?_
      rintro e w2 ⟨pa, b, ra, vv, vo, rl, rs, rd, q, rfl, p2, r2, u2⟩
      have HP2 := Lib.hid p2
      have HR2 := Lib.hid r2
      have HU2 := Lib.hid (bmore HU1.out u2)
      have HG2 := Lib.hid (HG.out.below (bmore HU1.out u2))
      clear p2 r2 u2 PO
      have KN := Lib.hid (know_any HP2.out HG2.out HGI.out (by omega))
      go_wp2_with fail
      refine KN.out.mono ?_
      rintro e w3 ⟨k, mb, gv, s, rfl, k3, u3⟩
      have HP3 := Lib.hid (HP2.out.below u3)
      have HR3 := Lib.hid (HR2.out.below u3)
      have HU3 := Lib.hid (bmore HU2.out u3)
      have HK3 := Lib.hid k3
      clear k3 u3 KN HP2 HR2
      obtain ⟨ala, alc, rfl⟩ := (row_of_own HR3.out.rl).shape
      have hql : q.length ≤ 65536 := HP3.out.ok.len
      go_wp2_with fail
      go_loopw [10] (fun v10 wr => ∃ t : Nat, v10 = .int .i64 (t : Int) ∧ 1 ≤ t ∧ t ≤ q.length + 1 ∧ Below w3.heap.size w3 wr) (fun v _ => q.length + 2 - (intOf v).toNat)
      case atStart => exact ⟨1, rfl, by omega, by omega, Below.refl _ _⟩
      case round =>
        obtain ⟨t, rfl, ht1, ht2, hb⟩ := hrel
        have HB := Lib.hid hb
        have cR : wr.cell? ⟨ra, 0, none⟩ = some (.slice ala q.length alc) := cellB (HR3.out.below hb).lay rfl
        clear hb
        by_cases hlt : t ≤ q.length
        · have ht0 : (t : Int) ≤ (q.length : Int) := by omega
          have hin : inP q (t : Int) = true := by simp [inP]; omega
          have hti : i64R (t : Int) := in_i64 hql (.inr hin)
          have RN := Lib.hid (rnode (HR3.out.below HB.out) (t : Int))
          rw [hin] at RN
          have DE := Lib.hid (fun (W : World) (h : Below wr.heap.size wr W) => derives_any ((HP3.out.below HB.out).below h) ((HK3.out.below HB.out).below h) hti)
          have SE := Lib.hid (fun (W : World) (h : Below wr.heap.size wr W) => sees_any ((HK3.out.below HB.out).below h) hti)
          have hno := atP_nok HP3.out.nok (t : Int)
          have hfi := hno.frm
          have hto := hno.to
          have HSD := Lib.hid (fun (h : (s (t : Int)).isSome = true) => seen_der (p := q) h)
          have HKD := Lib.hid (fun (h : (atP q (t : Int)).1.kind = 6) => key_der (s := s) h)
          have HHD := Lib.hid (fun (h : (atP q (t : Int)).1.kind = 7 ∨ (atP q (t : Int)).1.kind = 8 ∨ (atP q (t : Int)).1.kind = 9) => show_der (s := s) h)
          unfold keyP holdN at HHD
          generalize derB q s (t : Int) = dd at *
          generalize (s (t : Int)).isSome = sd at *
          generalize (atP q (t : Int)).1 = n at *
          obtain ⟨kk, ff, tt, uu, ss, xa, xb⟩ := n
          simp only [nodeA] at RN
          simp only at hfi hto HKD HHD
          clear hno hin hti
          go_wp2_with fail
          refine RN.out.mono ?_
          rintro e w4 ⟨rfl, u4⟩
          have b5 := bA0 w4 (.cells #[.int .i64 kk, .int .i64 ff, .int .i64 tt, .int .u64 uu, .string ss, .int .i64 xa, .int .i64 xb] NodeT)
          have hn5 : (w4.alloc (.cells #[.int .i64 kk, .int .i64 ff, .int .i64 tt, .int .u64 uu, .string ss, .int .i64 xa, .int .i64 xb] NodeT)).heap[w4.heap.size]? = some (Obj.cells #[.int .i64 kk, .int .i64 ff, .int .i64 tt, .int .u64 uu, .string ss, .int .i64 xa, .int .i64 xb] NodeT) := heap_alloc_new _ _
          have H5 := Lib.hid (bmore u4 b5)
          have HN5 := Lib.hid hn5
          clear u4 b5 hn5
          go_wp2_with fail
          generalize (w4.alloc (.cells #[.int .i64 kk, .int .i64 ff, .int .i64 tt, .int .u64 uu, .string ss, .int .i64 xa, .int .i64 xb] NodeT)) = w5 at *
          generalize w4.heap.size = nb at *
          refine (DE.out _ H5.out).mono ?_
          rintro e w6 ⟨rfl, u6⟩
          have H6 := Lib.hid (bmore H5.out u6)
          have HN6 := Lib.hid (Hold.below u6 _ _ HN5.out)
          clear u6
          go_wp2_with fail
          refine (SE.out _ H6.out).mono ?_
          rintro e w7 ⟨rfl, u7⟩
          have H7 := Lib.hid (bmore H6.out u7)
          have HN7 := Lib.hid (Hold.below u7 _ _ HN6.out)
          have hn7 := HN7.out
          have HR7 := Lib.hid ((HR3.out.below HB.out).below (bmore H6.out u7))
          have HK7 := Lib.hid ((HK3.out.below HB.out).below (bmore H6.out u7))
          have y0 := cellB (j := 0) hn7 rfl
          have y1 := cellB (j := 1) hn7 rfl
          have y2 := cellB (j := 2) hn7 rfl
          clear u7 hn7 DE SE RN
          by_cases h9 : kk = 9
          · subst h9
            rw [if_pos rfl] at HHD
            have RH := Lib.hid (rhas HR7.out (nok_key hto))
            have KI : Hid (numP q (keyNd tt) ≠ 0 → i64R (numP q (keyNd tt) : Int)) := Lib.hid (fun h => in_i64 hql (.inr (by obtain ⟨i, hi, h1, _⟩ := numP_some h; rw [h1]; simp [inP]; omega)))
            generalize numP q (keyNd tt) = kn at *
            simp only [nodeA, keyNd, emptyS] at RH
            go_wp2_with fail
            refine RH.out.mono ?_
            rintro e w8 ⟨rfl, u8⟩
            have H8 := Lib.hid (bmore H7.out u8)
            have HN8 := Lib.hid (Hold.below u8 _ _ HN7.out)
            have hn8 := HN8.out
            clear y0 y1 y2
            have y0 := cellB (j := 0) hn8 rfl
            have HK8 := Lib.hid (HK7.out.below u8)
            clear u8 hn8 RH
            by_cases hkn : kn = 0
            · have hkd : decide (kn ≠ 0) = false := decide_eq_false (by simpa using hkn)
              rw [hkd] at HHD
              simp only [hkd]
              obtain rfl : dd = sd := HHD.out (by simp) rfl
              cases dd
              all_goals
                go_wp2_with fail
                go_roundw
                case rel => exact ⟨t + 1, by go_num, by omega, by omega, bmore HB.out H8.out⟩
                case measure => simp [intOf]; omega
            · have hkd : decide (kn ≠ 0) = true := decide_eq_true hkn
              have SK := Lib.hid (sees_any HK8.out (KI.out hkn))
              rw [hkd] at HHD
              simp only [hkd]
              generalize (s (kn : Int)).isSome = sk at *
              go_wp2_with fail
              refine SK.out.mono ?_
              rintro e w9 ⟨rfl, u9⟩
              have H9 := Lib.hid (bmore H8.out u9)
              have hn9 := Hold.below u9 _ _ HN8.out
              clear y0
              have y0 := cellB (j := 0) hn9 rfl
              clear u9 hn9 SK
              cases sk with
              | false =>
                obtain rfl : dd = sd := HHD.out (by simp) rfl
                cases dd
                all_goals
                  go_wp2_with fail
                  go_roundw
                  case rel => exact ⟨t + 1, by go_num, by omega, by omega, bmore HB.out H9.out⟩
                  case measure => simp [intOf]; omega
              | true =>
                have hsd := HSD.out
                clear HHD HKD HSD
                cases sd with
                | true =>
                  obtain rfl := hsd rfl
                  go_wp2_with fail
                  go_roundw
                  case rel => exact ⟨t + 1, by go_num, by omega, by omega, bmore HB.out H9.out⟩
                  case measure => simp [intOf]; omega
                | false =>
                  clear hsd
                  cases dd
                  all_goals
                    go_wp2_with fail
                    go_roundw
                    case rel => exact ⟨t + 1, by go_num, by omega, by omega, bmore HB.out H9.out⟩
                    case measure => simp [intOf]; omega
          · have h9' := ebF h9
            rw [if_neg h9] at HHD
            have RH := Lib.hid (rhas HR7.out (nok_key hfi))
            have KI : Hid (numP q (keyNd ff) ≠ 0 → i64R (numP q (keyNd ff) : Int)) := Lib.hid (fun h => in_i64 hql (.inr (by obtain ⟨i, hi, h1, _⟩ := numP_some h; rw [h1]; simp [inP]; omega)))
            generalize numP q (keyNd ff) = kn at *
            simp only [nodeA, keyNd, emptyS] at RH
            go_wp2_with fail
            refine RH.out.mono ?_
            rintro e w8 ⟨rfl, u8⟩
            have H8 := Lib.hid (bmore H7.out u8)
            have HN8 := Lib.hid (Hold.below u8 _ _ HN7.out)
            have hn8 := HN8.out
            clear y0 y1 y2
            have y0 := cellB (j := 0) hn8 rfl
            have HK8 := Lib.hid (HK7.out.below u8)
            clear u8 hn8 RH
            by_cases hkn : kn = 0
            · have hkd : decide (kn ≠ 0) = false := decide_eq_false (by simpa using hkn)
              rw [hkd] at HHD
              simp only [hkd]
              by_cases h7 : kk = 7
              · subst h7
                obtain rfl : dd = sd := HHD.out (by simp) rfl
                clear HHD HKD HSD
                cases dd
                all_goals
                  go_wp2_with fail
                  go_roundw
                  case rel => exact ⟨t + 1, by go_num, by omega, by omega, bmore HB.out H8.out⟩
                  case measure => simp [intOf]; omega
              have h7' := ebF h7
              by_cases h8 : kk = 8
              · subst h8
                obtain rfl : dd = sd := HHD.out (by simp) rfl
                clear HHD HKD HSD
                cases dd
                all_goals
                  go_wp2_with fail
                  go_roundw
                  case rel => exact ⟨t + 1, by go_num, by omega, by omega, bmore HB.out H8.out⟩
                  case measure => simp [intOf]; omega
              have h8' := ebF h8
              by_cases h6 : kk = 6
              · subst h6
                obtain rfl : dd = sd := HKD.out rfl
                clear HHD HKD HSD
                cases dd
                all_goals
                  go_wp2_with fail
                  go_roundw
                  case rel => exact ⟨t + 1, by go_num, by omega, by omega, bmore HB.out H8.out⟩
                  case measure => simp [intOf]; omega
              have h6' := ebF h6
              have hsd := HSD.out
              clear HHD HKD HSD
              cases sd with
              | true =>
                obtain rfl := hsd rfl
                go_wp2_with fail
                go_roundw
                case rel => exact ⟨t + 1, by go_num, by omega, by omega, bmore HB.out H8.out⟩
                case measure => simp [intOf]; omega
              | false =>
                clear hsd
                cases dd
                all_goals
                  go_wp2_with fail
                  go_roundw
                  case rel => exact ⟨t + 1, by go_num, by omega, by omega, bmore HB.out H8.out⟩
                  case measure => simp [intOf]; omega
            · have hkd : decide (kn ≠ 0) = true := decide_eq_true hkn
              have SK := Lib.hid (sees_any HK8.out (KI.out hkn))
              rw [hkd] at HHD
              simp only [hkd]
              generalize (s (kn : Int)).isSome = sk at *
              go_wp2_with fail
              refine SK.out.mono ?_
              rintro e w9 ⟨rfl, u9⟩
              have H9 := Lib.hid (bmore H8.out u9)
              have hn9 := Hold.below u9 _ _ HN8.out
              clear y0
              have y0 := cellB (j := 0) hn9 rfl
              clear u9 hn9 SK
              cases sk with
              | false =>
                by_cases h7 : kk = 7
                · subst h7
                  obtain rfl : dd = sd := HHD.out (by simp) rfl
                  clear HHD HKD HSD
                  cases dd
                  all_goals
                    go_wp2_with fail
                    go_roundw
                    case rel => exact ⟨t + 1, by go_num, by omega, by omega, bmore HB.out H9.out⟩
                    case measure => simp [intOf]; omega
                have h7' := ebF h7
                by_cases h8 : kk = 8
                · subst h8
                  obtain rfl : dd = sd := HHD.out (by simp) rfl
                  clear HHD HKD HSD
                  cases dd
                  all_goals
                    go_wp2_with fail
                    go_roundw
                    case rel => exact ⟨t + 1, by go_num, by omega, by omega, bmore HB.out H9.out⟩
                    case measure => simp [intOf]; omega
                have h8' := ebF h8
                by_cases h6 : kk = 6
                · subst h6
                  obtain rfl : dd = sd := HKD.out rfl
                  clear HHD HKD HSD
                  cases dd
                  all_goals
                    go_wp2_with fail
                    go_roundw
                    case rel => exact ⟨t + 1, by go_num, by omega, by omega, bmore HB.out H9.out⟩
                    case measure => simp [intOf]; omega
                have h6' := ebF h6
                have hsd := HSD.out
                clear HHD HKD HSD
                cases sd with
                | true =>
                  obtain rfl := hsd rfl
                  go_wp2_with fail
                  go_roundw
                  case rel => exact ⟨t + 1, by go_num, by omega, by omega, bmore HB.out H9.out⟩
                  case measure => simp [intOf]; omega
                | false =>
                  clear hsd
                  cases dd
                  all_goals
                    go_wp2_with fail
                    go_roundw
                    case rel => exact ⟨t + 1, by go_num, by omega, by omega, bmore HB.out H9.out⟩
                    case measure => simp [intOf]; omega
              | true =>
                by_cases h7 : kk = 7
                · subst h7
                  have hsd := HSD.out
                  clear HHD HKD HSD
                  cases sd with
                  | true =>
                    obtain rfl := hsd rfl
                    go_wp2_with fail
                    go_roundw
                    case rel => exact ⟨t + 1, by go_num, by omega, by omega, bmore HB.out H9.out⟩
                    case measure => simp [intOf]; omega
                  | false =>
                    clear hsd
                    cases dd
                    all_goals
                      go_wp2_with fail
                      go_roundw
                      case rel => exact ⟨t + 1, by go_num, by omega, by omega, bmore HB.out H9.out⟩
                      case measure => simp [intOf]; omega
                have h7' := ebF h7
                by_cases h8 : kk = 8
                · subst h8
                  have hsd := HSD.out
                  clear HHD HKD HSD
                  cases sd with
                  | true =>
                    obtain rfl := hsd rfl
                    go_wp2_with fail
                    go_roundw
                    case rel => exact ⟨t + 1, by go_num, by omega, by omega, bmore HB.out H9.out⟩
                    case measure => simp [intOf]; omega
                  | false =>
                    clear hsd
                    cases dd
                    all_goals
                      go_wp2_with fail
                      go_roundw
                      case rel => exact ⟨t + 1, by go_num, by omega, by omega, bmore HB.out H9.out⟩
                      case measure => simp [intOf]; omega
                have h8' := ebF h8
                by_cases h6 : kk = 6
                · subst h6
                  obtain rfl : dd = sd := HKD.out rfl
                  clear HHD HKD HSD
                  cases dd
                  all_goals
                    go_wp2_with fail
                    go_roundw
                    case rel => exact ⟨t + 1, by go_num, by omega, by omega, bmore HB.out H9.out⟩
                    case measure => simp [intOf]; omega
                have h6' := ebF h6
                have hsd := HSD.out
                clear HHD HKD HSD
                cases sd with
                | true =>
                  obtain rfl := hsd rfl
                  go_wp2_with fail
                  go_roundw
                  case rel => exact ⟨t + 1, by go_num, by omega, by omega, bmore HB.out H9.out⟩
                  case measure => simp [intOf]; omega
                | false =>
                  clear hsd
                  cases dd
                  all_goals
                    go_wp2_with fail
                    go_roundw
                    case rel => exact ⟨t + 1, by go_num, by omega, by omega, bmore HB.out H9.out⟩
                    case measure => simp [intOf]; omega
        · have hge : decide ((t : Int) ≤ (q.length : Int)) = false := decide_eq_false (by omega)
          have LV := Lib.hid (live_any (HL.out.below (bmore HU3.out HB.out)))
          go_wp2_with fail
          refine LV.out.mono ?_
          rintro e w4 ⟨rfl, u4⟩
          have HU4 := Lib.hid (bmore (bmore HU3.out HB.out) u4)
          clear u4
          go_wp2_with fail
          go_returns
          exact ⟨rfl, HU4.out⟩
end Go.Proofs.YtljbmgehgbcdfaaDoor
