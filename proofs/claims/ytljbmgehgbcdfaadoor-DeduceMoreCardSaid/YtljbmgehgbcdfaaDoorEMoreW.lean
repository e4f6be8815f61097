/-
  The law's own walk: DeduceMore.
-/
import Derived.Test.YtljbmgehgbcdfaaDoorEPools
import Derived.Test.YtljbmgehgbcdfaaDoorEDer
namespace Go.Proofs.YtljbmgehgbcdfaaDoor
open Go.RowKit Go.Maps
set_option linter.unusedVariables false

theorem der_reach {p : Pl} {g : List Int} {s : Int → Option Way} (hs : ∀ t, (s t).isSome = true ↔ Reach p g t) {t : Int} : derB p s t = true ↔ Der p (Reach p g) t := by
  rw [derB_iff]
  exact ⟨fun h => h.mono fun x hx => (hs x).1 hx, fun h => h.mono fun x hx => (hs x).2 hx⟩
theorem der_up {p : Pl} {g : List Int} {x : Int} {s1 s2 : Int → Option Way} (h1 : ∀ t, (s1 t).isSome = true ↔ Reach p (addsG p [] g) t) (h2 : ∀ t, (s2 t).isSome = true ↔ Reach p (addsG p [] (g ++ [x])) t) {t : Int} (h : derB p s1 t = true) : derB p s2 t = true := by
  rw [der_reach h1] at h
  rw [der_reach h2]
  refine der_more (fun y hy => ?_) h
  rw [mem_addsG] at hy ⊢
  rcases hy with hy | hy
  · simp at hy
  · exact .inr ⟨List.mem_append_left _ hy.1, hy.2⟩
theorem der_down {p : Pl} {g : List Int} {x : Int} {s1 s2 : Int → Option Way} (h1 : ∀ t, (s1 t).isSome = true ↔ Reach p (addsG p [] g) t) (h2 : ∀ t, (s2 t).isSome = true ↔ Reach p (addsG p [] (g ++ [x])) t) (hx : derB p s1 x = true) {t : Int} (h : derB p s2 t = true) : derB p s1 t = true := by
  rw [der_reach h1] at hx ⊢
  rw [der_reach h2] at h
  refine der_cut (fun y hy => ?_) h
  rw [mem_addsG] at hy
  rcases hy with hy | ⟨hy, hin⟩
  · simp at hy
  · rcases List.mem_append.1 hy with hy | hy
    · exact .seen (.given (by rw [mem_addsG]; exact .inr ⟨hy, hin⟩))
    · rw [List.mem_singleton.1 hy]; exact hx
set_option maxRecDepth 100000 in
set_option maxHeartbeats 25600000 in
theorem more_walk {w : World} (hl : Laid w) {fo : Fo} {vn : Value} (hk : IsK w (fun b => b < w.heap.size) vn fo) (hok : OkF fo) {vg : Value} {g : List Int} (hg : Row w 1 vg g.length (ints g)) (hgi : ∀ x ∈ g, i64R x) {more : Int} (hmore : i64R more) : Calls Tryd.prog 5 #[vn, vg, .int .i64 more] w fun e w' => e = .returned (.bool true) ∧ Below w.heap.size w w' := by
  have hlen := hk.small
  unfold maxLen at hlen
  obtain ⟨av, cv, rfl, _⟩ := hk.shape
  obtain ⟨ga, gc, rfl⟩ := hg.shape
  have HL := Lib.hid hl
  have HK := Lib.hid hk
  have HOK := Lib.hid hok
  have HG := Lib.hid hg
  have HGI := Lib.hid hgi
  have WD := Lib.hid (wide_any hk)
  have hgl : g.length ≤ 9223372036854775807 := by
    rcases hg.2 with ⟨_, h0⟩ | ⟨b, off, cap, _, _, h4, h5, _⟩
    · omega
    · unfold maxLen at h5; omega
  clear hl hk hok hg hgi
  go_enter Tryd.func5, Tryd.ntmps5
  go_wp2_with fail
  refine WD.out.mono ?_
  rintro e w1 ⟨⟨q1, rfl, hq1⟩, u1⟩
  have HU1 := Lib.hid u1
  clear u1 WD
  cases q1 with
  | true =>
    go_wp2_with fail
    refine (live_any (HL.out.below HU1.out)).mono ?_
    rintro e w2 ⟨rfl, u2⟩
    have HU2 := Lib.hid (bmore HU1.out u2)
    clear u2
    go_wp2_with fail
    go_returns
    exact ⟨rfl, HU2.out⟩
  | false =>
    obtain ⟨h12, h400⟩ := hq1 rfl
    by_cases h20 : 20 < g.length
    · have h20' : (20 : Int) < (g.length : Int) := by omega
      go_wp2_with fail
      refine (live_any (HL.out.below HU1.out)).mono ?_
      rintro e w2 ⟨rfl, u2⟩
      have HU2 := Lib.hid (bmore HU1.out u2)
      clear u2
      go_wp2_with fail
      go_returns
      exact ⟨rfl, HU2.out⟩
    · have h20' : decide ((20 : Int) < (g.length : Int)) = false := decide_eq_false (by omega)
      have hkl := (HK.out.below HU1.out).keep (G' := fun b => b < w1.heap.size) (fun b hb _ => ⟨Nat.lt_of_lt_of_le hb HU1.out.size, rfl⟩)
      have PO := Lib.hid (pools_any (HL.out.below HU1.out) hkl HOK.out (by omega) (by omega))
      have hg20 : g.length ≤ 20 := by omega
      clear hkl h20
      go_wp2_with fail
      refine PO.out.mono ?_
      rintro e w2 ⟨pa, b, ra, vv, vo, rl, rs, rd, q, rfl, p2, r2, u2⟩
      have HP2 := Lib.hid p2
      have HR2 := Lib.hid r2
      have HU2 := Lib.hid (bmore HU1.out u2)
      have HG2 := Lib.hid (HG.out.below (bmore HU1.out u2))
      clear p2 r2 u2 PO
      have KN := Lib.hid (know_any HP2.out HG2.out HGI.out (by omega))
      have HMO := Lib.hid hmore
      clear hmore
      go_wp2_with fail
      refine KN.out.mono ?_
      rintro e w3 ⟨k, mb, gv, s, rfl, k3, u3⟩
      have HP3 := Lib.hid (HP2.out.below u3)
      have HR3 := Lib.hid (HR2.out.below u3)
      have HU3 := Lib.hid (bmore HU2.out u3)
      have HG3 := Lib.hid ((HG2.out.below u3).below (bA0 w3 (.cells #[] TermT)))
      have HK3 := Lib.hid k3
      clear k3 u3 KN HP2 HR2 HG2
      have hown0 : (w3.alloc (.cells #[] TermT)).ownsRow w3.heap.size TermT 1 (.slice (some ⟨w3.heap.size, 0, none⟩) 0 0) ([] : List Int).length (ints []) := World.ownsRow_made w3 #[] 0 (Nat.le_refl _) (by unfold maxLen; omega) rfl
      have HO0 := Lib.hid hown0
      clear hown0
      go_wp2_with (first
        | (at_builtin; refine wpList_append_tl rfl _ _ rfl w3.heap.size (.slice (some ⟨w3.heap.size, 0, none⟩) 0 0) [] rfl HO0.out (.slice ga g.length gc) g rfl HG3.out (by simp; omega) (bA0 _ _).size ?_; intro v4 w4 hrow4 hg4; obtain ⟨sa, sc, rfl⟩ := (row_of_own hrow4).shape)
        | (at_builtin; refine wpList_append_tw rfl _ _ rfl w3.heap.size _ g rfl (own_hold (by have h9 := hrow4; simp only [List.nil_append] at h9; exact h9) (Hold.below (bA0 _ _))) w4.heap.size more rfl (cellB (j := 0) (heap_alloc_new _ _) rfl) (by omega) (Nat.le_trans (Nat.le_trans (bA0 _ _).size hg4.size) (bA0 _ _).size) ?_; intro v5 w5 hrow5 hg5 _; obtain ⟨sa5, sc5, rfl⟩ := (row_of_own hrow5).shape))
      have hrow4' : w4.ownsRow w3.heap.size TermT 1 (.slice sa g.length sc) g.length (ints g) := by have h9 := hrow4; simp only [List.nil_append] at h9; exact h9
      have hA4 := bA0 w4 (.cells #[.int .i64 more] TermT)
      have hb5 : Below w3.heap.size w3 w5 := (((bA0 w3 (.cells #[] TermT)).trans (grown_below hg4 (bA0 _ _).size (fun x e => (own_type HO0.out e).1))).trans (hA4.mono (Nat.le_trans (bA0 _ _).size hg4.size))).trans (grown_below hg5 (Nat.le_trans (Nat.le_trans (bA0 _ _).size hg4.size) hA4.size) (fun x e => (own_type (own_hold hrow4' (Hold.below hA4)) e).1))
      have HP5 := Lib.hid (HP3.out.below hb5)
      have HR5 := Lib.hid (HR3.out.below hb5)
      have HK5 := Lib.hid (HK3.out.below hb5)
      have HU5 := Lib.hid (bmore HU3.out hb5)
      have hl5 : (g ++ [more]).length = g.length + 1 := by simp
      have hrw5 : Row w5 1 (.slice sa5 (g.length + 1) sc5) (g ++ [more]).length (ints (g ++ [more])) := by have h9 := row_of_own hrow5; rw [hl5] at h9 ⊢; exact h9
      have KN2 := Lib.hid (know_any HP5.out hrw5 (fun x hx => by
        rcases List.mem_append.1 hx with hx | hx
        · exact HGI.out x hx
        · rw [List.mem_singleton.1 hx]; exact HMO.out) (by simp; omega))
      clear hrow4 hrow4' hA4 hb5 hrow5 hrw5 hg4 hg5 HP3 HR3 HK3 hl5
      go_wp2_with fail
      refine KN2.out.mono ?_
      rintro e w6 ⟨k2, mb2, gv2, s2, rfl, k6, u6⟩
      have HP6 := Lib.hid (HP5.out.below u6)
      have HR6 := Lib.hid (HR5.out.below u6)
      have HK6 := Lib.hid (HK5.out.below u6)
      have HU6 := Lib.hid (bmore HU5.out u6)
      have HJ6 := Lib.hid k6
      clear k6 u6 KN2 HP5 HR5 HK5
      obtain ⟨ala, alc, rfl⟩ := (row_of_own HR6.out.rl).shape
      have hql : q.length ≤ 65536 := HP6.out.ok.len
      have HUP := Lib.hid (fun (t : Int) => der_up (t := t) HK6.out.ok.reach HJ6.out.ok.reach)
      have HDN := Lib.hid (fun (t : Int) (h : derB q s more = true) => der_down (t := t) HK6.out.ok.reach HJ6.out.ok.reach h)
      have DM := Lib.hid (derives_any HP6.out HK6.out HMO.out)
      generalize derB q s more = km at *
      go_wp2_with fail
      refine DM.out.mono ?_
      rintro e w7 ⟨rfl, u7⟩
      have HP7 := Lib.hid (HP6.out.below u7)
      have HR7 := Lib.hid (HR6.out.below u7)
      have HK7 := Lib.hid (HK6.out.below u7)
      have HJ7 := Lib.hid (HJ6.out.below u7)
      have HU7 := Lib.hid (bmore HU6.out u7)
      clear u7 DM HP6 HR6 HK6 HJ6
      go_wp2_with fail
      go_loopw [14] (fun v14 wr => ∃ t : Nat, v14 = .int .i64 (t : Int) ∧ 1 ≤ t ∧ t ≤ q.length + 1 ∧ Below w7.heap.size w7 wr) (fun v _ => q.length + 2 - (intOf v).toNat)
      case atStart => exact ⟨1, rfl, by omega, by omega, Below.refl _ _⟩
      case round =>
        obtain ⟨t, rfl, ht1, ht2, hb⟩ := hrel
        have HB := Lib.hid hb
        have cR : wr.cell? ⟨ra, 0, none⟩ = some (.slice ala q.length alc) := cellB (HR7.out.below hb).lay rfl
        clear hb
        by_cases hlt : t ≤ q.length
        · have ht0 : (t : Int) ≤ (q.length : Int) := by omega
          have hin : inP q (t : Int) = true := by simp [inP]; omega
          have hti : i64R (t : Int) := in_i64 hql (.inr hin)
          have DE := Lib.hid (derives_any (HP7.out.below HB.out) (HK7.out.below HB.out) hti)
          have DJ := Lib.hid (fun (W : World) (h : Below wr.heap.size wr W) => derives_any ((HP7.out.below HB.out).below h) ((HJ7.out.below HB.out).below h) hti)
          have hup := HUP.out (t : Int)
          have hdn := HDN.out (t : Int)
          have HU := Lib.hid hup
          have HD := Lib.hid hdn
          clear hup hdn hin hti
          generalize derB q s (t : Int) = dx at *
          generalize derB q s2 (t : Int) = dy at *
          go_wp2_with fail
          refine DE.out.mono ?_
          rintro e w8 ⟨rfl, u8⟩
          have H8 := Lib.hid u8
          clear u8 DE
          go_wp2_with fail
          refine (DJ.out _ H8.out).mono ?_
          rintro e w9 ⟨rfl, u9⟩
          have H9 := Lib.hid (bmore H8.out u9)
          clear u9 DJ
          cases dx with
          | true =>
            obtain rfl : dy = true := HU.out rfl
            clear HU HD
            cases km
            all_goals
              go_wp2_with fail
              go_roundw
              case rel => exact ⟨t + 1, by go_num, by omega, by omega, bmore HB.out H9.out⟩
              case measure => simp [intOf]; omega
          | false =>
            cases dy with
            | false =>
              clear HU HD
              cases km
              all_goals
                go_wp2_with fail
                go_roundw
                case rel => exact ⟨t + 1, by go_num, by omega, by omega, bmore HB.out H9.out⟩
                case measure => simp [intOf]; omega
            | true =>
              cases km with
              | true => exact absurd (HD.out rfl rfl) (by decide)
              | false =>
                clear HU HD
                go_wp2_with fail
                go_roundw
                case rel => exact ⟨t + 1, by go_num, by omega, by omega, bmore HB.out H9.out⟩
                case measure => simp [intOf]; omega
        · have hge : decide ((t : Int) ≤ (q.length : Int)) = false := decide_eq_false (by omega)
          have LV := Lib.hid (live_any (HL.out.below (bmore HU7.out HB.out)))
          go_wp2_with fail
          refine LV.out.mono ?_
          rintro e w4 ⟨rfl, u4⟩
          have HU4 := Lib.hid (bmore (bmore HU7.out HB.out) u4)
          clear u4
          go_wp2_with fail
          go_returns
          exact ⟨rfl, HU4.out⟩
end Go.Proofs.YtljbmgehgbcdfaaDoor
