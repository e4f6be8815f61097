/-
  The law's own walk: TermFull.
-/
import Derived.Test.YteflbecdeinflaaDoorTOfE
import Derived.Test.YteflbecdeinflaaDoorTFulF
import Derived.Test.YteflbecdeinflaaDoorTTreesW
namespace Go.Proofs.YteflbecdeinflaaDoor
open Go.RowKit Go.Maps
set_option linter.unusedVariables false

theorem OkF.nn : ∀ {f : Fo}, OkF f → NN f
  | .nil, _ => trivial
  | .cons n k r, ⟨h1, _, _, h2, h3⟩ => ⟨h1.num.1, OkF.nn h2, OkF.nn h3⟩
theorem fresh_take {base : Nat} {q : Pl} {j : Nat} (h : j < q.length) : fresh base (q.take (j + 1)) = fresh base (q.take j) + if isB base (q[j]).1 = true then 0 else 1 := by
  rw [List.take_add_one, List.getElem?_eq_getElem h, fresh_append]
  simp only [Option.toList_some]
  rw [fresh_one]
theorem fresh_len (base : Nat) (q : Pl) : fresh base q ≤ q.length := by
  unfold fresh; exact List.length_filter_le _ _

set_option maxRecDepth 100000 in
set_option maxHeartbeats 25600000 in
theorem full_walk {w : World} (hl : Laid w) {left : Int} {n : Nd} {k : Fo} {v : Value} (hk : IsK w (fun b => b < w.heap.size) v k) (hn : NdOk n ∧ n.a = 0 ∧ n.b = 0 ∧ OkF k) :
    Calls Tryd.prog 9 #[.int .i64 left, .agg (treeA n v)] w fun e w' => e = .returned (.bool true) ∧ Below w.heap.size w w' := by
  have b1 : Below w.heap.size w (w.alloc (.cells (treeA n v) TrT)) := bZ _ _
  have h1 : (w.alloc (.cells (treeA n v) TrT)).heap[w.heap.size]? = some (Obj.cells (treeA n v) TrT) := heap_alloc_new _ _
  obtain ⟨av, cv, rfl, _⟩ := hk.shape
  have HL := Lib.hid (hl.below b1)
  have HA := Lib.hid b1
  have HX := Lib.hid h1
  have HK := Lib.hid (hk.below b1)
  have HKW := Lib.hid hk
  have LV := Lib.hid (fun (W : World) (h : Laid W) => live_any h)
  have LG := Lib.hid (large_any n k (w.alloc (.cells (treeA n (.slice av k.len cv)) TrT)) _ (hk.below b1))
  have HLG : Hid (largeB k = false → 1 + k.size ≤ 6000) := Lib.hid large_size
  have HN := Lib.hid hn
  clear hk hl hn b1
  generalize largeB k = lf at *
  have hbox : ∀ W : World, W.heap[w.heap.size]? = some (Obj.cells (treeA n (.slice av k.len cv)) TrT) → W.cell? ⟨w.heap.size, 0, none⟩ = some (.int .i64 n.kind) ∧ W.cell? ⟨w.heap.size, 1, none⟩ = some (.int .i64 n.frm) ∧ W.cell? ⟨w.heap.size, 2, none⟩ = some (.int .i64 n.to) ∧ W.cell? ⟨w.heap.size, 3, none⟩ = some (.int .u64 n.num) ∧ W.cell? ⟨w.heap.size, 4, none⟩ = some (.string n.text) ∧ W.cell? ⟨w.heap.size, 5, none⟩ = some (.slice av k.len cv) := fun W h => ⟨cellB h rfl, cellB h rfl, cellB h rfl, cellB h rfl, cellB h rfl, cellB h rfl⟩
  obtain ⟨y0, y1, y2, y3, y4, y5⟩ := hbox _ h1
  have HBOX := Lib.hid hbox
  clear h1 hbox
  by_cases hl0 : left < 0
  · simp only [treeA] at *
    go_enter Tryd.func9, Tryd.ntmps9
    go_wp2_with fail
    refine (LV.out _ HL.out).mono ?_
    rintro e w1 ⟨rfl, u1⟩
    have HU := Lib.hid (bmore HA.out u1)
    clear u1
    go_wp2_with fail
    go_returns
    exact ⟨rfl, HU.out⟩
  have hl0' : decide (left < 0) = false := decide_eq_false hl0
  by_cases hl8 : 8 < left
  · simp only [treeA] at *
    go_enter Tryd.func9, Tryd.ntmps9
    go_wp2_with fail
    refine (LV.out _ HL.out).mono ?_
    rintro e w1 ⟨rfl, u1⟩
    have HU := Lib.hid (bmore HA.out u1)
    clear u1
    go_wp2_with fail
    go_returns
    exact ⟨rfl, HU.out⟩
  have hl8' : decide (8 < left) = false := decide_eq_false hl8
  cases lf with
  | true =>
    simp only [treeA] at *
    go_enter Tryd.func9, Tryd.ntmps9
    go_wp2_with fail
    refine LG.out.mono ?_
    rintro e w1 ⟨rfl, u1⟩
    have HU := Lib.hid (bmore HA.out u1)
    have HL1 := Lib.hid (HL.out.below u1)
    clear u1
    go_wp2_with fail
    refine (LV.out _ HL1.out).mono ?_
    rintro e w2 ⟨rfl, u2⟩
    have HU2 := Lib.hid (bmore HU.out u2)
    clear u2
    go_wp2_with fail
    go_returns
    exact ⟨rfl, HU2.out⟩
  | false =>
    obtain ⟨l, rfl⟩ := Int.eq_ofNat_of_zero_le (show 0 ≤ left by omega)
    have hsz := HLG.out rfl
    have hll : l ≤ 8 := by omega
    obtain ⟨N, hN⟩ : ∃ N : Nat, N = 65536 - l := ⟨_, rfl⟩
    have HNN := Lib.hid (show N + l = 65536 by omega)
    have hsub : 65536 - (l : Int) = (N : Int) := by omega
    clear hN hl0 hl8
    simp only [treeA] at *
    go_enter Tryd.func9, Tryd.ntmps9
    go_wp2_with fail
    generalize (w.alloc (.cells #[.int .i64 n.kind, .int .i64 n.frm, .int .i64 n.to, .int .u64 n.num, .string n.text, .slice av k.len cv] TrT)) = W at *
    refine LG.out.mono ?_
    rintro e w1 ⟨rfl, u1⟩
    have HA1 := Lib.hid (bmore HA.out u1)
    have HX1 := Lib.hid (Hold.below u1 _ _ HX.out)
    have HL1 := Lib.hid (HL.out.below u1)
    have HK1 := Lib.hid (HK.out.below u1)
    clear u1 LG HLG
    go_wp2_with fail
    refine (pnew w1).mono ?_
    rintro e w2 ⟨rfl, p2, u2⟩
    have HP2 := Lib.hid p2
    have HBG := Lib.hid HL1.out.lt
    have HA2 := Lib.hid (bmore HA1.out u2)
    have HX2 := Lib.hid (Hold.below u2 _ _ HX1.out)
    have HL2 := Lib.hid (HL1.out.below u2)
    have HK2 := Lib.hid (HK1.out.below u2)
    have HWB := Lib.hid (show w.heap.size < w1.heap.size from (Array.getElem?_eq_some_iff.1 HX1.out).1)
    have HB2 := Lib.hid (show w1.heap.size ≤ w2.heap.size from u2.size)
    clear u2 p2 HA1 HX1 HL1 HK1 y0 y1 y2 y3 y4 y5
    generalize w1.heap.size + 1 = pa at *
    generalize w1.heap.size = B at *
    go_wp2_with fail
    go_loopw [6] (fun vi wr => ∃ (i : Nat) (vp : Value), vi = .int .i64 (i : Int) ∧ i ≤ N ∧ Below B w2 wr ∧ IsPool wr B pa B vp (numsP i)) (fun v _ => N - (intOf v).toNat)
    case atStart => exact ⟨0, _, rfl, Nat.zero_le _, Below.refl _ _, HP2.out⟩
    case round =>
      obtain ⟨i, vp, rfl, hi, hb, hp⟩ := hrel
      have HP := Lib.hid hp
      have HB := Lib.hid hb
      clear hp hb HP2
      by_cases hlt : i < N
      · have hNUM := pNum HP.out (HL2.out.base HBG.out HB.out) (i : Int) (by have := HNN.out; omega)
        have HNUM := Lib.hid hNUM
        have HMK := Lib.hid (numsP_mk (k := i) (by have := HNN.out; omega))
        have hw1 : wrap64 ((i : Int) + 1) = (i : Int) + 1 := by have := HNN.out; unfold wrap64; omega
        have NU := Lib.hid (fun (W : World) => num_any 0 W)
        clear hNUM
        have hi1 : (i : Int) < (N : Int) := by omega
        go_wp2_with fail
        refine HNUM.out.mono ?_
        intro e w3 hm
        obtain ⟨rfl, u3, _, v3, p3, _⟩ := make_at HMK.out hm
        have HB3 := Lib.hid (HB.out.trans u3)
        have HP3 := Lib.hid p3
        clear hm u3 p3
        go_wp2_with fail
        refine (NU.out _).mono ?_
        rintro e w4 ⟨rfl, rfl⟩
        go_wp2_with fail
        go_roundw
        case rel => exact ⟨i + 1, v3, by go_num, by omega, HB3.out, HP3.out⟩
        case measure => simp [intOf]; omega
      · obtain rfl : i = N := by omega
        have hlt' : decide (i < i) = false := decide_eq_false (by omega)
        have HXr := Lib.hid (show wr.heap[w.heap.size]? = some _ from (HB.out.block _ HWB.out).trans HX2.out)
        have HAr := Lib.hid (HA2.out.trans (HB.out.mono (Nat.le_of_lt HWB.out)))
        have HLr := Lib.hid (HL2.out.base HBG.out HB.out)
        have hroom : (lkT n k 0 0).2 = 0 → (grT n k []).2.1 = 0 := fun h => (grT_good n k [] Ok.nil (lkT_good h).1 ⟨HN.out.2.1, HN.out.2.2.1, HN.out.2.2.2.bare, trivial⟩ (lkT_good h).2.1 (lkT_good h).2.2 (by simp only [Fo.size, List.length_nil]; omega)).1
        have HRO := Lib.hid (fun (R : Nat) (W : World) (v : Value) (h2 : IsRef W R R (.slice none 0 0) (.slice none 0 0) (.slice none 0 0) []) (h3 : IsK W (Safe W R) v k) => rof h2 h3 HN.out.1 HN.out.2.1 HN.out.2.2.1 HN.out.2.2.2 hroom)
        have HSZ := Lib.hid hsz
        clear HX2 HB HA2 HL2 hroom hsz HK2 HB2 hi HK
        obtain ⟨oq, hoq⟩ : ∃ o, ofP n k [] = o := ⟨_, rfl⟩
        have HOQ := Lib.hid hoq
        rw [hoq] at HRO
        obtain ⟨t0, f, qq⟩ := oq
        clear hoq
        go_wp2_with fail
        refine (rnew wr _ (Nat.le_refl _)).mono ?_
        rintro e w3 ⟨rfl, r3, u3⟩
        have hx3 := Hold.below u3 _ _ HXr.out
        obtain ⟨y0, y1, y2, y3, y4, y5⟩ := HBOX.out _ hx3
        have HR3 := Lib.hid r3
        have HU3 := Lib.hid u3
        have hk3 : IsK w3 (Safe w3 wr.heap.size) (.slice av k.len cv) k := (HKW.out.below (bmore HAr.out u3)).keep fun b hb _ => ⟨.inl (Nat.lt_of_lt_of_le hb HAr.out.size), rfl⟩
        have HK3 := Lib.hid hk3
        clear u3 r3 hx3 hk3
        go_wp2_with fail
        refine (HRO.out _ w3 _ HR3.out HK3.out).mono ?_
        rintro e w4 ⟨rfl, x1, x2, x3, r4, m4⟩
        replace r4 : IsRef w4 wr.heap.size wr.heap.size x1 x2 x3 qq := r4
        have HU4 := Lib.hid (show Below wr.heap.size wr w4 from HU3.out.trans m4.1)
        have hrow := r4.rl
        have hlq : qq.length ≤ 65536 := r4.ok.len
        obtain ⟨lv, lc, hlv, hxx⟩ := (row_of_own hrow).at2
        have c0 : w4.cell? ⟨wr.heap.size, 0, none⟩ = some x1 := cellB r4.lay rfl
        have HXX : Hid (∀ j (hj : j < qq.length), ∃ gb go, lv = some ⟨gb, go, none⟩ ∧ w4.cell? ⟨gb, go + j * 7, none⟩ = some (.int .i64 (qq[j]).1.kind) ∧ w4.cell? ⟨gb, go + j * 7 + 3, none⟩ = some (.int .u64 (qq[j]).1.num)) := Lib.hid (fun j hj => by
          obtain ⟨gb, go, e, q⟩ := hxx (by omega)
          obtain ⟨n0, _, _, n3, _⟩ := nodes_at (nds qq) j (by simpa [nds] using hj)
          refine ⟨gb, go, e, ?_, ?_⟩
          · rw [q _ _ n0]; simp [nds]
          · rw [Nat.add_assoc, q _ _ n3]; simp [nds])
        subst hlv
        have HNK := Lib.hid r4.nok
        clear hrow hxx r4 m4 HR3 HU3 HK3 HRO y0 y1 y2 y3 y4 y5
        go_wp2_with fail
        go_loopw [12, 13] (fun vf vj wj => ∃ (j : Nat), vf = .int .i64 (fresh i (qq.take j) : Int) ∧ vj = .int .i64 (j : Int) ∧ j ≤ qq.length ∧ w4 = wj) (fun _ v _ => qq.length - (intOf v).toNat)
        case atStart => exact ⟨0, by simp [fresh], rfl, Nat.zero_le _, rfl⟩
        case round =>
          obtain ⟨j, rfl, rfl, hj, rfl⟩ := hrel
          by_cases hjl : j < qq.length
          · obtain ⟨gb, go, rfl, k0, k3⟩ := HXX.out j hjl
            have HFT := Lib.hid (fresh_take (base := i) hjl)
            have hfl : fresh i (qq.take j) ≤ 65536 := Nat.le_trans (fresh_len _ _) (by simp; omega)
            have hjl1 : (j : Int) < (qq.length : Int) := by omega
            generalize fresh i (qq.take j) = fj at *
            by_cases hk2 : (qq[j]).1.kind = 2
            · have hnum := (HNK.out _ (List.getElem_mem hjl)).num
              by_cases hnb : (qq[j]).1.num < (i : Int)
              · have HF2 : Hid (fresh i (qq.take (j + 1)) = fj) := Lib.hid (by rw [HFT.out, if_pos (by unfold isB; simp [hk2, hnb])]; rfl)
                rw [hk2] at k0
                generalize (qq[j]).1.num = nj at *
                have hge : decide ((i : Int) ≤ nj) = false := decide_eq_false (by omega)
                go_wp2_with fail
                go_roundw
                case rel => exact ⟨j + 1, by rw [HF2.out], by go_num, by omega, by first | rfl | trivial⟩
                case measure => simp [intOf]; omega
              · have HF2 : Hid (fresh i (qq.take (j + 1)) = fj + 1) := Lib.hid (by rw [HFT.out, if_neg]; unfold isB; simp [hnb])
                rw [hk2] at k0
                generalize (qq[j]).1.num = nj at *
                have hge : (i : Int) ≤ nj := by omega
                go_wp2_with fail
                go_roundw
                case rel => exact ⟨j + 1, by rw [HF2.out]; go_num, by go_num, by omega, by first | rfl | trivial⟩
                case measure => simp [intOf]; omega
            · have HF2 : Hid (fresh i (qq.take (j + 1)) = fj + 1) := Lib.hid (by rw [HFT.out, if_neg]; unfold isB; simp [hk2])
              generalize (qq[j]).1.kind = kj at *
              generalize (qq[j]).1.num = nj at *
              have hk2' : (kj != 2) = true := by rw [bne_iff_ne]; exact hk2
              go_wp2_with fail
              go_roundw
              case rel => exact ⟨j + 1, by rw [HF2.out]; go_num, by go_num, by omega, by first | rfl | trivial⟩
              case measure => simp [intOf]; omega
          · obtain rfl : j = qq.length := by omega
            rw [List.take_length]
            have LE := Lib.hid (lent_any n k (HKW.out.below (bmore HAr.out HU4.out)) (by have := HSZ.out; omega))
            have HXw4 := Lib.hid (Hold.below HU4.out _ _ HXr.out)
            obtain ⟨y0, y1, y2, y3, y4, y5⟩ := HBOX.out _ HXw4.out
            have HP4 := Lib.hid (HP.out.below HU4.out)
            have HL4 := Lib.hid (HLr.out.below HU4.out)
            have HA4 := Lib.hid (bmore HAr.out HU4.out)
            clear HXX HNK HP HLr HXr
            simp only [treeA] at LE
            by_cases hlk : (lkT n k 0 0).2 = 0
            · have hg := lkT_good hlk
              have hbare : Bare (.cons n k .nil) := ⟨HN.out.2.1, HN.out.2.2.1, HN.out.2.2.2.bare, trivial⟩
              have hg0 := grT_good n k [] Ok.nil hg.1 hbare hg.2.1 hg.2.2 (by have := HSZ.out; simp only [Fo.size, List.length_nil]; omega)
              have hog : grT n k [] = (t0, f, qq) := by
                have e1 := HOQ.out
                unfold ofP at e1
                rwa [if_neg (by rw [hlk]; simp), if_neg (by rw [hg0.1]; simp)] at e1
              rw [hog] at hg0
              obtain ⟨hf0, _⟩ := hg0
              simp only at hf0
              subst hf0
              have hfull := full_tree (left := l) (by omega) hg.1 hbare (show NN (.cons n k .nil) from ⟨HN.out.1.num.1, HN.out.2.2.2.nn, trivial⟩) hg.2.1 hg.2.2
              rw [show 65536 - l = i by have := HNN.out; omega, hog] at hfull
              simp only at hfull
              have HOKX := Lib.hid (show OkF (.cons n k .nil) from ⟨HN.out.1, HN.out.2.1, HN.out.2.2.1, HN.out.2.2.2, trivial⟩)
              clear hg hbare hog HOQ
              generalize fresh i qq = fq at *
              rcases hfull with ⟨hfq, tt, p', hgr, hpl, hok', hrep⟩ | ⟨hfq, hgr⟩
              · have HOF := Lib.hid (fun (W : World) (v : Value) (h1 : Laid W) (h2 : IsPool W B pa B vp (numsP i)) (h3 : IsK W (Safe W B) v k) => pof HBG.out h1 h2 h3 HN.out.1 HN.out.2.1 HN.out.2.2.1 HN.out.2.2.2 (fun _ => by rw [hgr]))
                have hofp : ofP n k (numsP i) = (tt, 0, p') := by
                  unfold ofP
                  rw [if_neg (by rw [hlk]; simp), hgr]; rfl
                rw [hofp] at HOF
                have hfq' : decide (l < fq) = false := decide_eq_false (by omega)
                have PL := Lib.hid (fun (W : World) (x : Value) (h2 : IsPool W B pa B x p') => plen h2)
                rw [hpl, Int.natCast_add] at PL
                have hi3 : i ≤ 65536 := by have := HNN.out; omega
                have NU := Lib.hid (fun (W : World) => num_any 0 W)
                have HREP := Lib.hid hrep
                have HIN := Lib.hid (show inP p' tt = true from hrep.1)
                have PT := Lib.hid (fun (W : World) (vx : Value) (h1 : Laid W) (h2 : IsPool W B pa B vx p') => ptree h1 h2 tt)
                have SM : Hid (∀ (W : World) (m1 : Nd) (j1 : Fo) (a1 : Value) (G G' : Nat → Prop) (hr1 : inP p' tt = true → RepF p' [tt] (.cons m1 j1 .nil)) (hz1 : inP p' tt = false → m1 = zeroN ∧ j1 = .nil) (ho1 : OkF (.cons m1 j1 .nil)) (h1 : IsK W G a1 j1) (h2 : IsK W G' (.slice av k.len cv) k),
                    Calls Tryd.prog 27 #[.agg (treeA m1 a1), .agg #[.int .i64 n.kind, .int .i64 n.frm, .int .i64 n.to, .int .u64 n.num, .string n.text, .slice av k.len cv]] W fun e w' => e = .returned (.bool true) ∧ Below W.heap.size W w') := Lib.hid (fun W m1 j1 a1 G G' hr1 hz1 ho1 h1 h2 =>
                  same_yes (n2 := n) (trees_same hr1 hz1 (fun _ => HREP.out) (fun h => by rw [HIN.out] at h; cases h) ho1 HOKX.out) h1 h2 ho1 HOKX.out)
                clear hgr hofp hpl hok' hrep HN
                go_wp2_with fail
                refine LE.out.mono ?_
                rintro e w5 ⟨v5, rfl, k5, u5⟩
                have HP5 := Lib.hid (HP4.out.below u5)
                have HL5 := Lib.hid (HL4.out.below u5)
                have HA5 := Lib.hid (bmore HA4.out u5)
                have HX5 := Lib.hid (Hold.below u5 _ _ HXw4.out)
                have HK5 := Lib.hid (k5.newT (B := B))
                clear k5 u5 y0 y1 y2 y3 y4 y5
                simp only [treeA]
                go_wp2_with fail
                refine (HOF.out w5 _ HL5.out HP5.out HK5.out).mono ?_
                rintro e w6 ⟨rfl, u6, _, v6, p6, _⟩
                have HP6 := Lib.hid p6
                have HL6 := Lib.hid (HL5.out.base HBG.out u6)
                have HA6 := Lib.hid (HA5.out.trans (u6.mono (Nat.le_of_lt HWB.out)))
                have HX6 := Lib.hid (show w6.heap[w.heap.size]? = some _ from (u6.block _ HWB.out).trans HX5.out)
                have HK6 := Lib.hid (HKW.out.below HA6.out)
                have HKP := Lib.hid (fun (V : World) (h : Below w6.heap.size w6 V) => (⟨cellB (Hold.below h _ _ HX6.out) rfl, cellB (Hold.below h _ _ HX6.out) rfl, cellB (Hold.below h _ _ HX6.out) rfl, cellB (Hold.below h _ _ HX6.out) rfl, cellB (Hold.below h _ _ HX6.out) rfl, cellB (Hold.below h _ _ HX6.out) rfl⟩ : V.cell? ⟨w.heap.size, 0, none⟩ = some (.int .i64 n.kind) ∧ V.cell? ⟨w.heap.size, 1, none⟩ = some (.int .i64 n.frm) ∧ V.cell? ⟨w.heap.size, 2, none⟩ = some (.int .i64 n.to) ∧ V.cell? ⟨w.heap.size, 3, none⟩ = some (.int .u64 n.num) ∧ V.cell? ⟨w.heap.size, 4, none⟩ = some (.string n.text) ∧ V.cell? ⟨w.heap.size, 5, none⟩ = some (.slice av k.len cv)))
                clear u6 p6 LE HOF HP4 HL4 HA4 HXw4 HP5 HL5 HA5 HX5 HK5
                have hsum : ((i : Int) + (fq : Int) == (i : Int) + (fq : Int)) = true := by simp
                have hwA : IntKind.i64.wrap (i : Int) = (i : Int) := IntWalk.i64_in _ (by omega)
                have hwC : IntKind.i64.wrap (65536 - (l : Int)) = (i : Int) := by rw [hsub]; exact hwA
                have hwB : IntKind.i64.wrap ((i : Int) + (fq : Int)) = (i : Int) + (fq : Int) := IntWalk.i64_in _ (by omega)
                go_wp2_with fail
                go_region_held3 (fun w' => w'.cell? ⟨w.heap.size, 0, none⟩ = some (.int .i64 n.kind) ∧ w'.cell? ⟨w.heap.size, 1, none⟩ = some (.int .i64 n.frm) ∧ w'.cell? ⟨w.heap.size, 2, none⟩ = some (.int .i64 n.to) ∧ w'.cell? ⟨w.heap.size, 3, none⟩ = some (.int .u64 n.num) ∧ w'.cell? ⟨w.heap.size, 4, none⟩ = some (.string n.text) ∧ w'.cell? ⟨w.heap.size, 5, none⟩ = some (.slice av k.len cv)) ((refine HKP.out _ ?_; first | exact bd _ | exact bmore (bd _) u1 | exact bmore (bmore (bd _) u1) u2 | exact bmore (bmore (bmore (bd _) u1) u2) u3))
                  ((first
                    | ((with_reducible refine (NU.out _).mono ?_); rintro e w7 ⟨rfl, rfl⟩)
                    | ((with_reducible refine (PL.out _ _ (HP6.out.below (bd _))).mono ?_); rintro e w8 ⟨rfl, rfl⟩)
                    | ((with_reducible refine (PT.out _ _ (HL6.out.below (bd _)) (HP6.out.below (bd _))).mono ?_); rintro e w9 ⟨m1, j1, a1, rfl, hm1, ho1, u1, hr1, hz1⟩)
                    | ((with_reducible refine (SM.out _ m1 j1 a1 _ _ hr1 hz1 ho1 hm1 (HK6.out.below (bmore (bd _) u1))).mono ?_); rintro e w10 ⟨rfl, u2⟩)
                    | ((with_reducible refine (LV.out _ (HL6.out.below (bmore (bmore (bd _) u1) u2))).mono ?_); rintro e w11 ⟨rfl, u3⟩)))
                have HF := Lib.hid (bmore HA6.out (bmore (bmore (bmore (bd w6) u1) u2) u3))
                clear u1 u2 u3
                go_wp2_with fail
                go_returns
                exact ⟨rfl, HF.out⟩
              · have HOF := Lib.hid (fun (W : World) (v : Value) (h1 : Laid W) (h2 : IsPool W B pa B vp (numsP i)) (h3 : IsK W (Safe W B) v k) => pof_no HBG.out h1 h2 h3 HN.out.1 HN.out.2.1 HN.out.2.2.1 HN.out.2.2.2 (by rw [numsP_len]; have := HNN.out; omega) hlk (by rw [hgr]; simp))
                rw [hgr, numsP_len] at HOF
                have NU := Lib.hid (fun (W : World) => num_any 6 W)
                have hii : ((i : Int) == (i : Int)) = true := by simp
                clear hgr
                go_wp2_with fail
                refine LE.out.mono ?_
                rintro e w5 ⟨v5, rfl, k5, u5⟩
                have HP5 := Lib.hid (HP4.out.below u5)
                have HL5 := Lib.hid (HL4.out.below u5)
                have HA5 := Lib.hid (bmore HA4.out u5)
                have HK5 := Lib.hid (k5.newT (B := B))
                clear k5 u5 y0 y1 y2 y3 y4 y5
                simp only [treeA]
                go_wp2_with fail
                refine (HOF.out w5 _ HL5.out HP5.out HK5.out).mono ?_
                rintro e w6 ⟨rfl, u6, gg, cc, hc⟩
                have PL := Lib.hid (plen_of hc)
                have HL6 := Lib.hid (HL5.out.base HBG.out u6)
                have HA6 := Lib.hid (HA5.out.trans (u6.mono (Nat.le_of_lt HWB.out)))
                clear u6 hc
                go_wp2_with fail
                refine (NU.out _).mono ?_
                rintro e w7 ⟨rfl, rfl⟩
                go_wp2_with fail
                refine PL.out.mono ?_
                rintro e w8 ⟨rfl, rfl⟩
                go_wp2_with fail
                refine (LV.out _ HL6.out).mono ?_
                rintro e w9 ⟨rfl, u9⟩
                have HA9 := Lib.hid (bmore HA6.out u9)
                clear u9
                go_wp2_with fail
                go_returns
                exact ⟨rfl, HA9.out⟩
            · have hf : (lkT n k 0 0).2 = f ∧ ofP n k (numsP i) = (0, f, numsP i) := by
                have e1 := HOQ.out
                unfold ofP at e1 ⊢
                rw [if_pos hlk] at e1 ⊢
                injection e1 with e2 e3
                injection e3 with e4 e5
                exact ⟨e4, by rw [e4]⟩
              have hf0 : (f != 0) = true := by rw [bne_iff_ne, ← hf.1]; exact hlk
              have hff : (f == f) = true := by simp
              have HOF := Lib.hid (fun (W : World) (v : Value) (h1 : Laid W) (h2 : IsPool W B pa B vp (numsP i)) (h3 : IsK W (Safe W B) v k) => pof HBG.out h1 h2 h3 HN.out.1 HN.out.2.1 HN.out.2.2.1 HN.out.2.2.2 (fun h => absurd h hlk))
              rw [hf.2] at HOF
              have PL := Lib.hid (fun (W : World) (x : Value) (h2 : IsPool W B pa B x (numsP i)) => plen h2)
              rw [numsP_len] at PL
              have NU := Lib.hid (fun (W : World) => num_any f W)
              have hii : ((i : Int) == (i : Int)) = true := by simp
              clear hf HOQ
              go_wp2_with fail
              refine LE.out.mono ?_
              rintro e w5 ⟨v5, rfl, k5, u5⟩
              have HP5 := Lib.hid (HP4.out.below u5)
              have HL5 := Lib.hid (HL4.out.below u5)
              have HA5 := Lib.hid (bmore HA4.out u5)
              have HK5 := Lib.hid (k5.newT (B := B))
              clear k5 u5 y0 y1 y2 y3 y4 y5
              simp only [treeA]
              go_wp2_with fail
              refine (HOF.out w5 _ HL5.out HP5.out HK5.out).mono ?_
              rintro e w6 ⟨rfl, u6, _, v6, p6, _⟩
              have HP6 := Lib.hid p6
              have HL6 := Lib.hid (HL5.out.base HBG.out u6)
              have HA6 := Lib.hid (HA5.out.trans (u6.mono (Nat.le_of_lt HWB.out)))
              clear u6 p6
              go_wp2_with fail
              refine (NU.out _).mono ?_
              rintro e w7 ⟨rfl, rfl⟩
              go_wp2_with fail
              refine (PL.out _ _ HP6.out).mono ?_
              rintro e w8 ⟨rfl, rfl⟩
              go_wp2_with fail
              refine (LV.out _ HL6.out).mono ?_
              rintro e w9 ⟨rfl, u9⟩
              have HA9 := Lib.hid (bmore HA6.out u9)
              clear u9
              go_wp2_with fail
              go_returns
              exact ⟨rfl, HA9.out⟩
end Go.Proofs.YteflbecdeinflaaDoor
