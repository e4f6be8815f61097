/-
  The law's own walk: TermCompares.
-/
import Derived.Test.YtjpembnnelhfkaaDoorTTreesW
import Derived.Test.YtjpembnnelhfkaaDoorTPCmp
import Derived.Test.YtjpembnnelhfkaaDoorTRCmp
namespace Go.Proofs.YtjpembnnelhfkaaDoor
open Go.RowKit Go.Maps
set_option linter.unusedVariables false

def Arith (x y z : Int) : Prop :=
  (decide (x ≤ 0) = false ∧ decide (x < 0) = false) ∨ (x ≤ 0 ∧ decide (y ≤ 0) = false ∧ x < 0 ∧ decide (y < 0) = false) ∨ (x ≤ 0 ∧ decide (y ≤ 0) = false ∧ decide (x < 0) = false) ∨
  (x ≤ 0 ∧ y ≤ 0 ∧ decide (0 < z) = false ∧ x < 0 ∧ y < 0 ∧ decide (0 ≤ z) = false) ∨ (x ≤ 0 ∧ y ≤ 0 ∧ decide (0 < z) = false ∧ x < 0 ∧ decide (y < 0) = false) ∨ (x ≤ 0 ∧ y ≤ 0 ∧ decide (0 < z) = false ∧ decide (x < 0) = false)
theorem arith_of {f g h : Fo} (b1 : Bare f) (b2 : Bare g) (b3 : Bare h) : Arith (cF f g) (cF g h) (cF f h) := by
  have t1 := cF_tr f g h b1 b2 b3
  have t2 : cF f g < 0 → cF g h < 0 → cF f h < 0 := cF_lt b1 b2 b3
  unfold Arith
  generalize cF f g = x at *
  generalize cF g h = y at *
  generalize cF f h = z at *
  simp only [decide_eq_false_iff_not]
  by_cases h1 : x ≤ 0
  · by_cases h2 : y ≤ 0
    · have := t1 h1 h2
      by_cases h3 : x < 0
      · by_cases h4 : y < 0
        · have := t2 h3 h4
          exact .inr (.inr (.inr (.inl ⟨h1, h2, by omega, h3, h4, by omega⟩)))
        · exact .inr (.inr (.inr (.inr (.inl ⟨h1, h2, by omega, h3, h4⟩))))
      · exact .inr (.inr (.inr (.inr (.inr ⟨h1, h2, by omega, h3⟩))))
    · by_cases h3 : x < 0
      · exact .inr (.inl ⟨h1, h2, h3, by omega⟩)
      · exact .inr (.inr (.inl ⟨h1, h2, h3⟩))
  · exact .inl ⟨h1, by omega⟩
/-- In, decided: neither, or one, or both, and then whether they are one. -/
def Ins (ia ib : Bool) (x a b : Int) : Prop := ia = false ∨ (ia = true ∧ ib = false) ∨ (ia = true ∧ ib = true ∧ ((x == 0) = true ∧ (a == b) = true ∨ (x == 0) = false ∧ (a == b) = false))

set_option maxRecDepth 100000 in
set_option maxHeartbeats 51200000 in
theorem compares_walk {w : World} (hl : Laid w) {fo : Fo} {vn : Value} (hk : IsK w (fun b => b < w.heap.size) vn fo) (hok : OkF fo) (ta tb tc : Int) : Calls Tryd.prog 8 #[vn, .int .i64 ta, .int .i64 tb, .int .i64 tc] w fun e w' => e = .returned (.bool true) ∧ Below w.heap.size w w' := by
  have hlen := hk.small
  unfold maxLen at hlen
  obtain ⟨av, cv, rfl, hx⟩ := hk.shape
  have HX := Lib.hid hx
  have HL := Lib.hid hl
  have HOK := Lib.hid hok
  have LV := Lib.hid (fun (W : World) (h : Laid W) => live_any h)
  have LG := Lib.hid (show Calls Tryd.prog 23 #[.agg #[.int .i64 0, .int .i64 0, .int .i64 0, .int .u64 0, .string ⟨#[]⟩, .slice av fo.len cv]] w (fun e w' => e = .returned (.bool (largeB fo)) ∧ Below w.heap.size w w') from large_any (⟨0, 0, 0, 0, ⟨#[]⟩, 0, 0⟩ : Nd) fo w _ hk)
  have HLG : Hid (largeB fo = false → 1 + fo.size ≤ 6000) := Lib.hid large_size
  clear hk hl hok hx
  generalize largeB fo = lf at *
  by_cases h100 : 100 < fo.len
  · have h100' : (100 : Int) < (fo.len : Int) := by omega
    go_enter Tryd.func8, Tryd.ntmps8
    go_wp2_with fail
    refine (LV.out _ HL.out).mono ?_
    rintro e w1 ⟨rfl, u1⟩
    have HU := Lib.hid u1
    clear u1
    go_wp2_with fail
    go_returns
    exact ⟨rfl, HU.out⟩
  · have h100' : decide ((100 : Int) < (fo.len : Int)) = false := decide_eq_false (by omega)
    have hln : fo.len ≤ 100 := by omega
    clear h100
    cases lf with
    | true =>
      go_enter Tryd.func8, Tryd.ntmps8
      go_wp2_with fail
      refine LG.out.mono ?_
      rintro e w1 ⟨rfl, u1⟩
      have HU := Lib.hid u1
      clear u1
      go_wp2_with fail
      refine (LV.out _ (HL.out.below HU.out)).mono ?_
      rintro e w2 ⟨rfl, u2⟩
      have HU2 := Lib.hid (bmore HU.out u2)
      clear u2
      go_wp2_with fail
      go_returns
      exact ⟨rfl, HU2.out⟩
    | false =>
      have hsz := HLG.out rfl
      go_enter Tryd.func8, Tryd.ntmps8
      go_wp2_with fail
      refine LG.out.mono ?_
      rintro e w1 ⟨rfl, u1⟩
      have HA1 := Lib.hid u1
      clear u1 LG HLG
      go_wp2_with fail
      refine (pnew w1).mono ?_
      rintro e w2 ⟨rfl, p2, u2⟩
      have HA2 := Lib.hid (bmore HA1.out u2)
      have HP2 := Lib.hid p2
      have HBG := Lib.hid (HL.out.below HA1.out).lt
      have HWB := Lib.hid (show w.heap.size ≤ w1.heap.size from HA1.out.size)
      have HB2 := Lib.hid (show w1.heap.size ≤ w2.heap.size from u2.size)
      clear u2 p2
      generalize w1.heap.size + 1 = pa at *
      generalize w1.heap.size = B at *
      go_wp2_with fail
      refine (rnew w2 B HB2.out).mono ?_
      rintro e w3 ⟨rfl, r3, u3⟩
      have HP3 := Lib.hid (HP2.out.below u3)
      have HA3 := Lib.hid (bmore HA2.out u3)
      have HR3 := Lib.hid r3
      clear u3 r3 HP2 HA2 HA1
      generalize w2.heap.size = ra at *
      go_wp2_with fail
      go_loopw [11] (fun vi wr => ∃ (i : Nat) (r : Fo) (vv rl rs rd : Value) (q : Pl), vi = .int .i64 (i : Int) ∧ i + r.len = fo.len ∧ q.length + r.size ≤ 6000 ∧ OkF r ∧ (0 < r.len → ∃ b o, av = some ⟨b, o, none⟩ ∧ b < w.heap.size ∧ AtF w (fun b => b < w.heap.size) r b (o + i * 6)) ∧ Below w.heap.size w wr ∧ IsPool wr B pa B vv q ∧ IsRef wr B ra rl rs rd q) (fun v _ => fo.len - (intOf v).toNat)
      case atStart => exact ⟨0, fo, _, _, _, _, [], rfl, by omega, by simp; omega, HOK.out, fun hp => by obtain ⟨b, o, q1, q2, q3⟩ := HX.out hp; exact ⟨b, o, q1, q2, by simpa using q3⟩, HA3.out, HP3.out, HR3.out⟩
      case round =>
        clear HP3 HA3 HR3 HX
        obtain ⟨i, r, vv, rl, rs, rd, q, rfl, hi, hqs, hokr, hat, hbr, hp, hq⟩ := hrel
        have HP := Lib.hid hp
        have HQ := Lib.hid hq
        have HBR := Lib.hid hbr
        clear hp hq hbr
        by_cases hlt : 0 < r.len
        · obtain ⟨n', kd, rr, rfl⟩ := fo_pos hlt
          simp only [Fo.len] at hi
          simp only [Fo.size] at hqs
          obtain ⟨b, o, rfl, hbw, hat'⟩ := hat hlt
          obtain ⟨c0, c1, c2, c3, c4, v', c5, hk', hat2⟩ := hat'.cons
          obtain ⟨av2, cv2, rfl, _⟩ := hk'.shape
          obtain ⟨ok1, ok2, ok3, ok4, ok5⟩ := hokr
          have LE := Lib.hid (lent_any n' kd (hk'.below HBR.out) (by omega))
          have hgood := ofP_ok n' kd q HP.out.ok ⟨ok2, ok3, ok4.bare, trivial⟩ (by simp only [Fo.size]; omega)
          have hroom : (lkT n' kd 0 0).2 = 0 → (grT n' kd q).2.1 = 0 := fun h => (grT_good n' kd q HP.out.ok (lkT_good h).1 ⟨ok2, ok3, ok4.bare, trivial⟩ (lkT_good h).2.1 (lkT_good h).2.2 (by simp only [Fo.size]; omega)).1
          have HOF := Lib.hid (fun (W : World) (v : Value) (h1 : Laid W) (h2 : IsPool W B pa B vv q) (h3 : IsK W (Safe W B) v kd) => pof HBG.out h1 h2 h3 ok1 ok2 ok3 ok4 hroom)
          have HRO := Lib.hid (fun (W : World) (v : Value) (h2 : IsRef W B ra rl rs rd q) (h3 : IsK W (Safe W B) v kd) => rof h2 h3 ok1 ok2 ok3 ok4 hroom)
          have HSZ : Hid ((ofP n' kd q).2.2.length + rr.size ≤ 6000) := Lib.hid (by
            rcases hgood with ⟨_, h⟩ | ⟨_, _, h3, _, _, e, h6, h7⟩
            · rw [h]; simp only; omega
            · rw [h3, h6]
              simp only [Fo.size] at h7
              simp; omega)
          have HAT := Lib.hid hat2
          have HKW := Lib.hid hk'
          have HOKR := Lib.hid ok5
          clear hgood hroom hat hat' hat2 hk' ok1 ok2 ok3 ok4 ok5
          generalize ofP n' kd q = oq at *
          obtain ⟨o1, o2, q2⟩ := oq
          obtain ⟨k1, f1, t1, n1, s1, y1, z1⟩ := n'
          simp only [treeA] at *
          have e0 := bcellAt HBR.out c0
          have e1 := bcellAt HBR.out c1
          have e2 := bcellAt HBR.out c2
          have e3 := bcellAt HBR.out c3
          have e4 := bcellAt HBR.out c4
          have e5 := bcellAt HBR.out c5
          have hi0 : (0 : Int) ≤ (i : Int) := by omega
          have hi1 : (i : Int) < (fo.len : Int) := by omega
          go_wp2_with fail
          refine LE.out.mono ?_
          rintro e w5 ⟨v4, rfl, k4, u4⟩
          have HA4 := Lib.hid (bmore HBR.out u4)
          have HP4 := Lib.hid (HP.out.below u4)
          have HQ4 := Lib.hid (HQ.out.below u4)
          have HK4 := Lib.hid (k4.newT (B := B))
          clear u4 k4 e0 e1 e2 e3 e4 e5
          simp only [treeA]
          go_wp2_with fail
          refine (HOF.out w5 _ (HL.out.below HA4.out) HP4.out HK4.out).mono ?_
          rintro e w6 ⟨rfl, g6⟩
          have HQ6 := Lib.hid (IsRef.grew HP4.out HQ4.out g6)
          obtain ⟨u6, _, v6, p6, _⟩ := g6
          have HA6 := Lib.hid (HA4.out.trans (u6.mono HWB.out))
          have HP6 := Lib.hid p6
          have e0 := bcellAt HA6.out c0
          have e1 := bcellAt HA6.out c1
          have e2 := bcellAt HA6.out c2
          have e3 := bcellAt HA6.out c3
          have e4 := bcellAt HA6.out c4
          have e5 := bcellAt HA6.out c5
          have hkl := (HKW.out.below HA6.out).keep (G' := Safe w6 B) (fun b hb _ => ⟨.inl (Nat.lt_of_lt_of_le hb HWB.out), rfl⟩)
          have HKL := Lib.hid hkl
          clear u6 p6 hkl
          go_wp2_with fail
          refine (HRO.out w6 _ HQ6.out HKL.out).mono ?_
          rintro e w7 ⟨rfl, x1, x2, x3, r7, m7⟩
          have HP7 := Lib.hid (IsPool.rmost HP6.out m7)
          have HA7 := Lib.hid (HA6.out.trans (m7.1.mono HWB.out))
          have HQ7 := Lib.hid r7
          clear m7 r7 e0 e1 e2 e3 e4 e5 c0 c1 c2 c3 c4 c5
          go_wp2_with fail
          go_roundw
          case rel => exact ⟨i + 1, rr, _, _, _, _, q2, by go_num, by omega, HSZ.out, HOKR.out, fun _ => ⟨b, o, rfl, hbw, by rw [show o + (i + 1) * 6 = o + i * 6 + 6 by omega]; exact HAT.out⟩, HA7.out, HP7.out, HQ7.out⟩
          case measure => simp [intOf]; omega
        · obtain rfl := fo_nil (show r.len = 0 by omega)
          simp only [Fo.len, Nat.add_zero] at hi
          subst hi
          clear hat hlt
          obtain ⟨fa, hfa⟩ := tree_ex HP.out.ok ta.toNat ta (Nat.le_refl _)
          obtain ⟨fb, hfb⟩ := tree_ex HP.out.ok tb.toNat tb (Nat.le_refl _)
          obtain ⟨fc, hfc⟩ := tree_ex HP.out.ok tc.toNat tc (Nat.le_refl _)
          have HAR := Lib.hid (arith_of hfa.bare hfb.bare hfc.bare)
          have HIS : Hid (Ins (inP q ta) (inP q tb) (cF fa fb) ta tb) := Lib.hid (by
            unfold Ins
            cases h1 : inP q ta with
            | false => exact .inl rfl
            | true =>
              cases h2 : inP q tb with
              | false => exact .inr (.inl ⟨rfl, rfl⟩)
              | true =>
                refine .inr (.inr ⟨rfl, rfl, ?_⟩)
                by_cases h3 : ta = tb
                · left
                  rw [(hfa.same HP.out.ok hfb).2 h3, cF_refl]
                  exact ⟨rfl, by rw [beq_iff_eq]; exact h3⟩
                · right
                  refine ⟨?_, by rw [beq_eq_false_iff_ne]; exact h3⟩
                  rw [beq_eq_false_iff_ne]
                  intro h4
                  exact h3 ((hfa.same HP.out.ok hfb).1 h1 h2 (cF_eq _ _ hfa.bare hfb.bare h4)))
          have C1 := Lib.hid (fun (W : World) (h : IsPool W B pa B vv q) => pcmp h hfa hfb)
          have C2 := Lib.hid (fun (W : World) (h : IsPool W B pa B vv q) => pcmp h hfb hfc)
          have C3 := Lib.hid (fun (W : World) (h : IsPool W B pa B vv q) => pcmp h hfa hfc)
          have C4 := Lib.hid (fun (W : World) (h : IsRef W B ra rl rs rd q) => rcmp h hfa hfb)
          have C5 := Lib.hid (show ∀ (W : World), IsPool W B pa B vv q → Calls Tryd.prog 36 #[.pointer (some ⟨pa, 0, none⟩), .int .i64 tb, .int .i64 ta] W (fun e w' => e = .returned (.int .i64 (- cF fa fb)) ∧ Below W.heap.size W w') from fun W h => by
            have := pcmp h hfb hfa
            rwa [cF_anti fa fb] at this)
          have C6 := Lib.hid (show ∀ (W : World), IsPool W B pa B vv q → Calls Tryd.prog 36 #[.pointer (some ⟨pa, 0, none⟩), .int .i64 ta, .int .i64 ta] W (fun e w' => e = .returned (.int .i64 0) ∧ Below W.heap.size W w') from fun W h => by
            have := pcmp h hfa hfa
            rwa [cF_refl fa] at this)
          have I1 := Lib.hid (fun (W : World) (h : IsRef W B ra rl rs rd q) => rin h ta)
          have I2 := Lib.hid (fun (W : World) (h : IsRef W B ra rl rs rd q) => rin h tb)
          have hxr := cF_rng fa fb
          have hyr := cF_rng fb fc
          have hzr := cF_rng fa fc
          clear hfa hfb hfc
          generalize inP q ta = ia at *
          generalize inP q tb = ib at *
          generalize cF fa fb = x at *
          generalize cF fb fc = y at *
          generalize cF fa fc = z at *
          have hxx : (x != x) = false := by simp
          have hnn : (-x != -x) = false := by simp
          obtain ⟨xr1, xr2⟩ := hxr
          clear hyr hzr
          go_wp2_with fail
          refine (C1.out _ HP.out).mono ?_
          rintro e w4 ⟨rfl, u4⟩
          have HU4 := Lib.hid u4
          clear u4
          go_wp2_with fail
          refine (C2.out _ (HP.out.below HU4.out)).mono ?_
          rintro e w5 ⟨rfl, u5⟩
          have HU5 := Lib.hid (bmore HU4.out u5)
          clear u5
          go_wp2_with fail
          refine (C3.out _ (HP.out.below HU5.out)).mono ?_
          rintro e w6 ⟨rfl, u6⟩
          have HU6 := Lib.hid (bmore HU5.out u6)
          clear u6
          go_wp2_with fail
          refine (C4.out _ (HQ.out.below HU6.out)).mono ?_
          rintro e w7 ⟨rfl, u7⟩
          have HU7 := Lib.hid (bmore HU6.out u7)
          clear u7
          go_wp2_with fail
          refine (C5.out _ (HP.out.below HU7.out)).mono ?_
          rintro e w8 ⟨rfl, u8⟩
          have HU8 := Lib.hid (bmore HU7.out u8)
          clear u8
          go_wp2_with fail
          refine (C6.out _ (HP.out.below HU8.out)).mono ?_
          rintro e w9 ⟨rfl, u9⟩
          have HU9 := Lib.hid (bmore HU8.out u9)
          have HR9 := Lib.hid (HQ.out.below HU9.out)
          have HL9 := Lib.hid (HL.out.below (bmore HBR.out HU9.out))
          have HA9 := Lib.hid (bmore HBR.out HU9.out)
          clear u9 C1 C2 C3 C4 C5 C6 HU4 HU5 HU6 HU7 HU8 xr1 xr2 hnn hxx
          have har := HAR.out
          unfold Arith at har
          have his := HIS.out
          unfold Ins at his
          clear HAR HIS
          rcases his with hia | ⟨hia, hib⟩ | ⟨hia, hib, ⟨hq1, hq2⟩ | ⟨hq1, hq2⟩⟩
          · subst hia
            rcases har with ⟨q1, q2⟩ | ⟨q1, q2, q3, q4⟩ | ⟨q1, q2, q3⟩ | ⟨q1, q2, q3, q4, q5, q6⟩ | ⟨q1, q2, q3, q4, q5⟩ | ⟨q1, q2, q3, q4⟩
            all_goals
              go_wp2_with fail
              refine (I1.out _ HR9.out).mono ?_
              rintro e w10 ⟨rfl, rfl⟩
              go_wp2_with fail
              refine (LV.out _ HL9.out).mono ?_
              rintro e w11 ⟨rfl, u11⟩
              have HA11 := Lib.hid (bmore HA9.out u11)
              clear u11
              go_wp2_with fail
              go_returns
              exact ⟨rfl, HA11.out⟩
          all_goals
            subst hia hib
            rcases har with ⟨q1, q2⟩ | ⟨q1, q2, q3, q4⟩ | ⟨q1, q2, q3⟩ | ⟨q1, q2, q3, q4, q5, q6⟩ | ⟨q1, q2, q3, q4, q5⟩ | ⟨q1, q2, q3, q4⟩
            all_goals
              go_wp2_with fail
              refine (I1.out _ HR9.out).mono ?_
              rintro e w10 ⟨rfl, rfl⟩
              go_wp2_with fail
              refine (I2.out _ HR9.out).mono ?_
              rintro e w10 ⟨rfl, rfl⟩
              go_wp2_with fail
              refine (LV.out _ HL9.out).mono ?_
              rintro e w11 ⟨rfl, u11⟩
              have HA11 := Lib.hid (bmore HA9.out u11)
              clear u11
              go_wp2_with fail
              go_returns
              exact ⟨rfl, HA11.out⟩
end Go.Proofs.YtjpembnnelhfkaaDoor
