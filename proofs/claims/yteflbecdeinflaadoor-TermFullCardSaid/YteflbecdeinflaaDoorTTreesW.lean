/-
  The law's own walk: TermTrees.
-/
import Derived.Test.YteflbecdeinflaaDoorTRTree
import Derived.Test.YteflbecdeinflaaDoorTSame
namespace Go.Proofs.YteflbecdeinflaaDoor
open Go.RowKit Go.Maps
set_option linter.unusedVariables false

section
variable {w : World} {B a b : Nat} {v : Value} {p : Pl} {a2 : Nat} {vl vs vd : Value} {q : Pl}
theorem IsPool.rmost (h : IsPool w B a b v p) {w' : World} {vl' : Value} (hg : RMostV w B vl w' vl') : IsPool w' B a b v p := by
  obtain ⟨D, ⟨es, clock, hb, h4⟩, h3⟩ := h.dict
  exact ⟨hg.2.1 _ _ h.lay (other_of (by decide) (by decide) (by decide)), h.ga, h.gb, own_hold h.row (hg.hold (by decide) (by decide) (by decide)), ⟨D, ⟨es, clock, hg.2.1 _ _ hb (fun _ _ _ e => by cases e), h4⟩, h3⟩, h.ok, h.nok⟩
/-- The trees of one term in the two pools are one tree. -/
theorem trees_same {t : Int} {n1 n2 : Nd} {k1 k2 : Fo} (h1 : inP p t = true → RepF p [t] (.cons n1 k1 .nil)) (h2 : inP p t = false → n1 = zeroN ∧ k1 = .nil) (g1 : inP p t = true → RepF p [t] (.cons n2 k2 .nil)) (g2 : inP p t = false → n2 = zeroN ∧ k2 = .nil) (o1 : OkF (.cons n1 k1 .nil)) (o2 : OkF (.cons n2 k2 .nil)) : n1 = n2 ∧ k1 = k2 := by
  cases hin : inP p t with
  | true =>
    have := RepF.tree (h1 hin) (g1 hin) o1.bare o2.bare
    simp only [Fo.cons.injEq, and_true] at this
    exact this
  | false =>
    obtain ⟨rfl, rfl⟩ := h2 hin
    obtain ⟨rfl, rfl⟩ := g2 hin
    exact ⟨rfl, rfl⟩
end
theorem same_yes {G G' : Nat → Prop} {n n2 : Nd} {k k2 : Fo} {W : World} {v v2 : Value} (e : n = n2 ∧ k = k2) (h1 : IsK W G v k) (h2 : IsK W G' v2 k2) (o1 : OkF (.cons n k .nil)) (o2 : OkF (.cons n2 k2 .nil)) : Calls Tryd.prog 27 #[.agg (treeA n v), .agg (treeA n2 v2)] W fun e w' => e = .returned (.bool true) ∧ Below W.heap.size W w' := by
  have := same_any n k n2 k2 W v v2 h1 h2 ⟨o1.2.1, o1.2.2.1⟩ ⟨o2.2.1, o2.2.2.1⟩ o1.2.2.2.1.bare o2.2.2.2.1.bare
  rwa [decide_eq_true e] at this

set_option maxRecDepth 100000 in
set_option maxHeartbeats 25600000 in
theorem trees_walk {w : World} (hl : Laid w) {fo : Fo} {vn : Value} (hk : IsK w (fun b => b < w.heap.size) vn fo) (hok : OkF fo) : Calls Tryd.prog 4 #[vn] w fun e w' => e = .returned (.bool true) ∧ Below w.heap.size w w' := by
  have hlen := hk.small
  unfold maxLen at hlen
  obtain ⟨av, cv, rfl, hx⟩ := hk.shape
  have HX := Lib.hid hx
  have HK := Lib.hid hk
  have HL := Lib.hid hl
  have HOK := Lib.hid hok
  have LV := Lib.hid (fun (W : World) (h : Laid W) => live_any h)
  have LG := Lib.hid (show Calls Tryd.prog 23 #[.agg #[.int .i64 0, .int .i64 0, .int .i64 0, .int .u64 0, .string ⟨#[]⟩, .slice av fo.len cv]] w (fun e w' => e = .returned (.bool (largeB fo)) ∧ Below w.heap.size w w') from large_any (⟨0, 0, 0, 0, ⟨#[]⟩, 0, 0⟩ : Nd) fo w _ hk)
  have HLG : Hid (largeB fo = false → 1 + fo.size ≤ 6000) := Lib.hid large_size
  clear hk hl hok hx
  generalize largeB fo = lf at *
  by_cases h100 : 100 < fo.len
  · have h100' : (100 : Int) < (fo.len : Int) := by omega
    go_enter Tryd.func4, Tryd.ntmps4
    go_wp2_with fail
    refine (LV.out _ HL.out).mono ?_
    rintro e w1 ⟨rfl, u1⟩
    have HU := Lib.hid u1
    clear u1
    go_wp2_with fail
    go_returns
    exact ⟨rfl, HU.out⟩
  · have h100' : decide ((100 : Int) < (fo.len : Int)) = false := decide_eq_false (by omega)
    have hln : fo.len ≤ 100 := by omega
    clear h100
    cases lf with
    | true =>
      go_enter Tryd.func4, Tryd.ntmps4
      go_wp2_with fail
      refine LG.out.mono ?_
      rintro e w1 ⟨rfl, u1⟩
      have HU := Lib.hid u1
      clear u1
      go_wp2_with fail
      refine (LV.out _ (HL.out.below HU.out)).mono ?_
      rintro e w2 ⟨rfl, u2⟩
      have HU2 := Lib.hid (bmore HU.out u2)
      clear u2
      go_wp2_with fail
      go_returns
      exact ⟨rfl, HU2.out⟩
    | false =>
      have hsz := HLG.out rfl
      go_enter Tryd.func4, Tryd.ntmps4
      go_wp2_with fail
      refine LG.out.mono ?_
      rintro e w1 ⟨rfl, u1⟩
      have HA1 := Lib.hid u1
      clear u1 LG HLG
      go_wp2_with fail
      refine (pnew w1).mono ?_
      rintro e w2 ⟨rfl, p2, u2⟩
      have HA2 := Lib.hid (bmore HA1.out u2)
      have HP2 := Lib.hid p2
      have HBG := Lib.hid (HL.out.below HA1.out).lt
      have HWB := Lib.hid (show w.heap.size ≤ w1.heap.size from HA1.out.size)
      have HB2 := Lib.hid (show w1.heap.size ≤ w2.heap.size from u2.size)
      clear u2 p2
      generalize w1.heap.size + 1 = pa at *
      generalize w1.heap.size = B at *
      go_wp2_with fail
      refine (rnew w2 B HB2.out).mono ?_
      rintro e w3 ⟨rfl, r3, u3⟩
      have HP3 := Lib.hid (HP2.out.below u3)
      have HA3 := Lib.hid (bmore HA2.out u3)
      have HR3 := Lib.hid r3
      clear u3 r3 HP2 HA2 HA1
      generalize w2.heap.size = ra at *
      go_wp2_with fail
      go_loopw [5] (fun vi wr => ∃ (i : Nat) (r : Fo) (vv rl rs rd : Value) (q : Pl), vi = .int .i64 (i : Int) ∧ i + r.len = fo.len ∧ q.length + r.size ≤ 6000 ∧ OkF r ∧ (0 < r.len → ∃ b o, av = some ⟨b, o, none⟩ ∧ b < w.heap.size ∧ AtF w (fun b => b < w.heap.size) r b (o + i * 6)) ∧ Below w.heap.size w wr ∧ IsPool wr B pa B vv q ∧ IsRef wr B ra rl rs rd q) (fun v _ => fo.len - (intOf v).toNat)
      case atStart => exact ⟨0, fo, _, _, _, _, [], rfl, by omega, by simp; omega, HOK.out, fun hp => by obtain ⟨b, o, q1, q2, q3⟩ := HX.out hp; exact ⟨b, o, q1, q2, by simpa using q3⟩, HA3.out, HP3.out, HR3.out⟩
      case round =>
        clear HP3 HA3 HR3 HX HK
        obtain ⟨i, r, vv, rl, rs, rd, q, rfl, hi, hqs, hokr, hat, hbr, hp, hq⟩ := hrel
        have HP := Lib.hid hp
        have HQ := Lib.hid hq
        have HBR := Lib.hid hbr
        clear hp hq hbr
        by_cases hlt : 0 < r.len
        · obtain ⟨n', kd, rr, rfl⟩ := fo_pos hlt
          simp only [Fo.len] at hi
          simp only [Fo.size] at hqs
          obtain ⟨b, o, rfl, hbw, hat'⟩ := hat hlt
          obtain ⟨c0, c1, c2, c3, c4, v', c5, hk', hat2⟩ := hat'.cons
          obtain ⟨av2, cv2, rfl, _⟩ := hk'.shape
          obtain ⟨ok1, ok2, ok3, ok4, ok5⟩ := hokr
          have LE := Lib.hid (lent_any n' kd (hk'.below HBR.out) (by omega))
          have hgood := ofP_ok n' kd q HP.out.ok ⟨ok2, ok3, ok4.bare, trivial⟩ (by simp only [Fo.size]; omega)
          have hroom : (lkT n' kd 0 0).2 = 0 → (grT n' kd q).2.1 = 0 := fun h => (grT_good n' kd q HP.out.ok (lkT_good h).1 ⟨ok2, ok3, ok4.bare, trivial⟩ (lkT_good h).2.1 (lkT_good h).2.2 (by simp only [Fo.size]; omega)).1
          have HOF := Lib.hid (fun (W : World) (v : Value) (h1 : Laid W) (h2 : IsPool W B pa B vv q) (h3 : IsK W (Safe W B) v kd) => pof HBG.out h1 h2 h3 ok1 ok2 ok3 ok4 hroom)
          have HRO := Lib.hid (fun (W : World) (v : Value) (h2 : IsRef W B ra rl rs rd q) (h3 : IsK W (Safe W B) v kd) => rof h2 h3 ok1 ok2 ok3 ok4 hroom)
          have HSZ : Hid ((ofP n' kd q).2.2.length + rr.size ≤ 6000) := Lib.hid (by
            rcases hgood with ⟨_, h⟩ | ⟨_, _, h3, _, _, e, h6, h7⟩
            · rw [h]; simp only; omega
            · rw [h3, h6]
              simp only [Fo.size] at h7
              simp; omega)
          have HOKK := Lib.hid (show OkF (.cons n' kd .nil) from ⟨ok1, ok2, ok3, ok4, trivial⟩)
          have HSM := Lib.hid (fun (W : World) (v v2 : Value) (G G' : Nat → Prop) (h1 : IsK W G v kd) (h2 : IsK W G' v2 kd) => same_yes (n := n') (n2 := n') ⟨rfl, rfl⟩ h1 h2 HOKK.out HOKK.out)
          have HAT := Lib.hid hat2
          have HKW := Lib.hid hk'
          have HOKR := Lib.hid ok5
          clear hgood hroom hat hat' hat2 hk' ok1 ok2 ok3 ok4 ok5
          generalize ofP n' kd q = oq at *
          obtain ⟨o1, o2, q2⟩ := oq
          have PT := Lib.hid (fun (W : World) (vx : Value) (h1 : Laid W) (h2 : IsPool W B pa B vx q2) => ptree h1 h2 o1)
          have RT := Lib.hid (fun (W : World) (x1 x2 x3 : Value) (h2 : IsRef W B ra x1 x2 x3 q2) => rtree h2 o1)
          have hoo : (o1 != o1) = false := by simp
          have hee : (o2 != o2) = false := by simp
          obtain ⟨k1, f1, t1, n1, s1, y1, z1⟩ := n'
          simp only [treeA] at *
          have e0 := bcellAt HBR.out c0
          have e1 := bcellAt HBR.out c1
          have e2 := bcellAt HBR.out c2
          have e3 := bcellAt HBR.out c3
          have e4 := bcellAt HBR.out c4
          have e5 := bcellAt HBR.out c5
          have hi0 : (0 : Int) ≤ (i : Int) := by omega
          have hi1 : (i : Int) < (fo.len : Int) := by omega
          go_wp2_with fail
          refine LE.out.mono ?_
          rintro e w4 ⟨v4, rfl, k4, u4⟩
          obtain ⟨xv, xc, rfl, _⟩ := k4.shape
          have bN := bZ w4 (.cells #[.int .i64 k1, .int .i64 f1, .int .i64 t1, .int .u64 n1, .string s1, .slice xv kd.len xc] TrT)
          have hN : (w4.alloc (.cells #[.int .i64 k1, .int .i64 f1, .int .i64 t1, .int .u64 n1, .string s1, .slice xv kd.len xc] TrT)).heap[w4.heap.size]? = some (Obj.cells #[.int .i64 k1, .int .i64 f1, .int .i64 t1, .int .u64 n1, .string s1, .slice xv kd.len xc] TrT) := heap_alloc_new _ _
          have hu := bmore u4 bN
          have HN := Lib.hid hN
          have HA4 := Lib.hid (bmore HBR.out hu)
          have HP4 := Lib.hid (HP.out.below hu)
          have HQ4 := Lib.hid (HQ.out.below hu)
          have HK4 := Lib.hid ((k4.newT (B := B)).safe bN)
          clear u4 k4 bN hu e0 e1 e2 e3 e4 e5
          have g0 := cellB (j := 0) hN rfl
          have g1 := cellB (j := 1) hN rfl
          have g2 := cellB (j := 2) hN rfl
          have g3 := cellB (j := 3) hN rfl
          have g4 := cellB (j := 4) hN rfl
          have g5 := cellB (j := 5) hN rfl
          clear hN
          simp only [treeA]
          go_wp2_with fail
          generalize (w4.alloc (.cells #[.int .i64 k1, .int .i64 f1, .int .i64 t1, .int .u64 n1, .string s1, .slice xv kd.len xc] TrT)) = w5 at *
          generalize w4.heap.size = xb at *
          refine (HOF.out w5 _ (HL.out.below HA4.out) HP4.out HK4.out).mono ?_
          rintro e w6 ⟨rfl, g6⟩
          have hT6 := g6.hold HP4.out (T := TrT) (by decide) (by decide)
          have HQ6 := Lib.hid (IsRef.grew HP4.out HQ4.out g6)
          obtain ⟨u6, _, v6, p6, _⟩ := g6
          have HA6 := Lib.hid (HA4.out.trans (u6.mono HWB.out))
          have HP6 := Lib.hid p6
          have HX6 := Lib.hid (hT6 _ _ HN.out)
          have HK6 := Lib.hid (HK4.out.hold u6 hT6)
          have e0 := bcellAt HA6.out c0
          have e1 := bcellAt HA6.out c1
          have e2 := bcellAt HA6.out c2
          have e3 := bcellAt HA6.out c3
          have e4 := bcellAt HA6.out c4
          have e5 := bcellAt HA6.out c5
          have hkl := (HKW.out.below HA6.out).keep (G' := Safe w6 B) (fun b hb _ => ⟨.inl (Nat.lt_of_lt_of_le hb HWB.out), rfl⟩)
          have HKL := Lib.hid hkl
          clear hT6 u6 p6 g0 g1 g2 g3 g4 g5 hkl
          go_wp2_with fail
          refine (HRO.out w6 _ HQ6.out HKL.out).mono ?_
          rintro e w7 ⟨rfl, x1, x2, x3, r7, m7⟩
          have hT7 := m7.hold (T := TrT) (by decide) (by decide) (by decide)
          have HP7 := Lib.hid (IsPool.rmost HP6.out m7)
          have HA7 := Lib.hid (HA6.out.trans (m7.1.mono HWB.out))
          have HQ7 := Lib.hid r7
          have HX7 := Lib.hid (hT7 _ _ HX6.out)
          have HK7 := Lib.hid (HK6.out.hold m7.1 hT7)
          have HKL7 := Lib.hid (HKW.out.below HA7.out)
          have HL7 := Lib.hid (HL.out.below HA7.out)
          clear hT7 m7 r7 e0 e1 e2 e3 e4 e5
          have hx7 := HX7.out
          have g0 := cellB (j := 0) hx7 rfl
          have g1 := cellB (j := 1) hx7 rfl
          have g2 := cellB (j := 2) hx7 rfl
          have g3 := cellB (j := 3) hx7 rfl
          have g4 := cellB (j := 4) hx7 rfl
          have g5 := cellB (j := 5) hx7 rfl
          have hkp : ∀ V : World, Below w7.heap.size w7 V → V.cell? ⟨xb, 0, none⟩ = some (.int .i64 k1) ∧ V.cell? ⟨xb, 1, none⟩ = some (.int .i64 f1) ∧ V.cell? ⟨xb, 2, none⟩ = some (.int .i64 t1) ∧ V.cell? ⟨xb, 3, none⟩ = some (.int .u64 n1) ∧ V.cell? ⟨xb, 4, none⟩ = some (.string s1) ∧ V.cell? ⟨xb, 5, none⟩ = some (.slice xv kd.len xc) ∧ V.cell? ⟨b, o + i * 6, none⟩ = some (.int .i64 k1) ∧ V.cell? ⟨b, o + i * 6 + 1, none⟩ = some (.int .i64 f1) ∧ V.cell? ⟨b, o + i * 6 + 2, none⟩ = some (.int .i64 t1) ∧ V.cell? ⟨b, o + i * 6 + 3, none⟩ = some (.int .u64 n1) ∧ V.cell? ⟨b, o + i * 6 + 4, none⟩ = some (.string s1) ∧ V.cell? ⟨b, o + i * 6 + 5, none⟩ = some (.slice av2 kd.len cv2) ∧ Below w7.heap.size w7 V := fun V hV => ⟨bcellAt hV g0, bcellAt hV g1, bcellAt hV g2, bcellAt hV g3, bcellAt hV g4, bcellAt hV g5, bcellAt hV (bcellAt HA7.out c0), bcellAt hV (bcellAt HA7.out c1), bcellAt hV (bcellAt HA7.out c2), bcellAt hV (bcellAt HA7.out c3), bcellAt hV (bcellAt HA7.out c4), bcellAt hV (bcellAt HA7.out c5), hV⟩
          have HKP := Lib.hid hkp
          clear hkp hx7 g0 g1 g2 g3 g4 g5 c0 c1 c2 c3 c4 c5
          have NU := Lib.hid (fun (W : World) => num_any o2 W)
          go_wp2_with fail
          go_region_held3 (fun w' => w'.cell? ⟨xb, 0, none⟩ = some (.int .i64 k1) ∧ w'.cell? ⟨xb, 1, none⟩ = some (.int .i64 f1) ∧ w'.cell? ⟨xb, 2, none⟩ = some (.int .i64 t1) ∧ w'.cell? ⟨xb, 3, none⟩ = some (.int .u64 n1) ∧ w'.cell? ⟨xb, 4, none⟩ = some (.string s1) ∧ w'.cell? ⟨xb, 5, none⟩ = some (.slice xv kd.len xc) ∧ w'.cell? ⟨b, o + i * 6, none⟩ = some (.int .i64 k1) ∧ w'.cell? ⟨b, o + i * 6 + 1, none⟩ = some (.int .i64 f1) ∧ w'.cell? ⟨b, o + i * 6 + 2, none⟩ = some (.int .i64 t1) ∧ w'.cell? ⟨b, o + i * 6 + 3, none⟩ = some (.int .u64 n1) ∧ w'.cell? ⟨b, o + i * 6 + 4, none⟩ = some (.string s1) ∧ w'.cell? ⟨b, o + i * 6 + 5, none⟩ = some (.slice av2 kd.len cv2) ∧ Below w7.heap.size w7 w') ((refine HKP.out _ ?_; first | exact bd _ | exact bmore (bd _) u1 | exact bmore (bmore (bd _) u1) u2 | exact bmore (bmore (bmore (bd _) u1) u2) u3 | exact bmore (bmore (bmore (bmore (bd _) u1) u2) u3) u4))
            ((first
              | ((with_reducible refine (NU.out _).mono ?_); rintro e w8 ⟨rfl, rfl⟩)
              | ((with_reducible refine (HSM.out _ _ _ _ _ (HK7.out.below (bd _)) (HKL7.out.below (bd _))).mono ?_); rintro e w8 ⟨rfl, u1⟩)
              | ((with_reducible refine (PT.out _ _ (HL7.out.below (bmore (bd _) u1)) (HP7.out.below (bmore (bd _) u1))).mono ?_); rintro e w9 ⟨m1, j1, a1, rfl, hm1, ho1, u2, hr1, hz1⟩)
              | ((with_reducible refine (RT.out _ _ _ _ (HQ7.out.below (bmore (bmore (bd _) u1) u2))).mono ?_); rintro e w10 ⟨m2, j2, a2, rfl, hm2, ho2, u3, hr2, hz2⟩)
              | ((with_reducible refine (same_yes (trees_same hr1 hz1 hr2 hz2 ho1 ho2) (hm1.below u3) hm2 ho1 ho2).mono ?_); rintro e w11 ⟨rfl, u4⟩)))
          have hx := bmore (bmore (bmore (bmore (bd w7) u1) u2) u3) u4
          clear u1 u2 u3 u4
          go_wp2_with fail
          go_roundw
          case rel => exact ⟨i + 1, rr, _, _, _, _, q2, by go_num, by omega, HSZ.out, HOKR.out, fun _ => ⟨b, o, rfl, hbw, by rw [show o + (i + 1) * 6 = o + i * 6 + 6 by omega]; exact HAT.out⟩, bmore HA7.out hx, HP7.out.below hx, HQ7.out.below hx⟩
          case measure => simp [intOf]; omega
        · obtain rfl := fo_nil (show r.len = 0 by omega)
          simp only [Fo.len, Nat.add_zero] at hi
          subst hi
          clear hat hlt
          have PT := Lib.hid (fun (W : World) (h1 : Laid W) (h2 : IsPool W B pa B vv q) => ptree h1 h2 0)
          go_wp2_with fail
          refine (alike_any HP.out HQ.out).mono ?_
          rintro e w4 ⟨rfl, u4⟩
          have HP4 := Lib.hid (HP.out.below u4)
          have HA4 := Lib.hid (bmore HBR.out u4)
          clear u4
          go_wp2_with fail
          refine (PT.out _ (HL.out.below HA4.out) HP4.out).mono ?_
          rintro e w5 ⟨m1, j1, a1, rfl, hm1, ho1, u5, hr1, hz1⟩
          obtain ⟨rfl, rfl⟩ := hz1 (inP_zero q)
          have HA5 := Lib.hid (bmore HA4.out u5)
          have SZ := Lib.hid (same_yes (n := zeroN) (n2 := zeroN) (k2 := .nil) ⟨rfl, rfl⟩ hm1 (IsK.nils w5 (fun _ => True) none 0 (Nat.zero_le _)) ho1 ho1)
          clear u5 hr1 hz1 hm1 ho1
          go_wp2_with fail
          refine SZ.out.mono ?_
          rintro e w6 ⟨rfl, u6⟩
          have HA6 := Lib.hid (bmore HA5.out u6)
          clear u6
          go_wp2_with fail
          refine (LV.out _ (HL.out.below HA6.out)).mono ?_
          rintro e w7 ⟨rfl, u7⟩
          have HA7 := Lib.hid (bmore HA6.out u7)
          clear u7
          go_wp2_with fail
          go_returns
          exact ⟨rfl, HA7.out⟩
end Go.Proofs.YteflbecdeinflaaDoor
