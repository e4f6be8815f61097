/-
  Check: the program's own.
-/
import Derived.Test.YtgaklaajbepfaaaGreatDoorEChk
namespace Go.Proofs.YtgaklaajbepfaaaGreatDoor
open Go.RowKit Go.Maps
set_option linter.unusedVariables false

section
variable {w : World} {B a b : Nat} {v : Value} {p : Pl}
set_option maxRecDepth 100000 in
set_option maxHeartbeats 25600000 in
theorem check_any (hp : IsPool w B a b v p) {vg vl : Value} {g : List Int} {l : List St} (hg : Row w 1 vg g.length (ints g)) (hgi : ∀ x ∈ g, i64R x) (hgl : g.length ≤ 1000000) (hl : Row w 4 vl l.length (sts l)) (hli : ∀ s ∈ l, i64R s.t) (hll : l.length ≤ 1000000) {goal : Int} :
    Calls Tryz.prog 47 #[.pointer (some ⟨a, 0, none⟩), vg, vl, .int .i64 goal] w fun e w' => e = .returned (.tuple #[.int .i64 (checkP p g l goal).1, .int .i64 (checkP p g l goal).2]) ∧ Below w.heap.size w w' := by
  obtain ⟨ga, gc, rfl, hgx⟩ := hg.at
  obtain ⟨la, lc, rfl, hlx⟩ := hl.at2
  have HP := Lib.hid hp
  have HGX := Lib.hid hgx
  have HLX := Lib.hid hlx
  have HL := Lib.hid hl
  have HGI := Lib.hid hgi
  have HLI := Lib.hid hli
  have hmm := @run_makeMap Tryz.prog
  clear hp hg hgx hl hlx hgi hli
  have HM0 := Lib.hid (Met.new w)
  have HA0 := Lib.hid (bA0 w (.map #[] 0))
  go_enter Tryz.func47, Tryz.ntmps47
  go_wp2_with fail
  generalize (w.alloc (.map #[] 0)) = V at *
  go_loopw [20] (fun v20 wr => ∃ i : Nat, v20 = .int .i64 (i : Int) ∧ i ≤ g.length ∧ Below w.heap.size w wr ∧ Met wr w.heap.size (g.take i) []) (fun v _ => g.length - (intOf v).toNat)
  case atStart => exact ⟨0, rfl, Nat.zero_le _, HA0.out, HM0.out⟩
  case round =>
    obtain ⟨i, rfl, hi, hb, hmt⟩ := hrel
    have HB := Lib.hid hb
    by_cases hlt : i < g.length
    · obtain ⟨gb, go, rfl, q⟩ := HGX.out (by omega)
      have c0 := bcellAt hb (q i _ (ints_at g i hlt))
      have hx := HGI.out _ (List.getElem_mem hlt)
      have htk : g.take (i + 1) = g.take i ++ [g[i]] := by simp
      have HTK := Lib.hid htk
      generalize g[i] = x at *
      have HX := Lib.hid hx
      obtain ⟨D0, hown0, hD0⟩ := hmt
      have hm0 := hown0.isMap
      have HM := Lib.hid hm0
      have HOW := Lib.hid hown0
      have HD := Lib.hid hD0
      have hlen0 : (g.take i).length + ([] : List Int).length < maxLen := by simp; unfold maxLen; omega
      have HLEN := Lib.hid hlen0
      have hi0 : (0 : Int) ≤ (i : Int) := by omega
      have hi1 : (i : Int) < (g.length : Int) := by omega
      clear q hb hx htk hown0 hD0 hm0 hlen0
      go_wp2_with (at_mapUpdate; refine wpList_mapUpdate_own _ rfl _ _ _ MetT rfl TermT UnT lawT Tryz.underlying137 unitElem w.heap.size _ D0 rfl HOW.out HLEN.out _ _ (.int .i64 x) rfl rfl (keyT HX.out) (.agg []) [] unitElem_mk ?_; intro w4 hown4 hg4)
      have HM4 : Hid (Met w4 w.heap.size (g.take (i + 1)) []) := Lib.hid (by rw [HTK.out]; exact (Met.enter hown4 HM.out HX.out HD.out).leave)
      have HB4 : Hid (Below w.heap.size w w4) := Lib.hid (HB.out.trans (grown_below hg4 HB.out.size (fun q e => by cases e; exact Nat.le_refl _)))
      clear hown4 hg4
      go_wp2_with fail
      go_roundw
      case rel => exact ⟨i + 1, by go_num, by omega, HB4.out, HM4.out⟩
      case measure => simp [intOf]; omega
    · obtain rfl : i = g.length := by omega
      have hmt' : Met wr w.heap.size g [] := by have h9 := hmt; rw [List.take_of_length_le (Nat.le_refl _)] at h9; exact h9
      have HMT := Lib.hid hmt'
      clear hmt hmt' hb hlt HGX HM0 HA0
      obtain ⟨wo, rfl⟩ : ∃ wo, wo = wr := ⟨wr, rfl⟩
      go_wp2_with fail
      go_loopw [30] (fun v30 wj => ∃ i : Nat, v30 = .int .i64 (i : Int) ∧ i ≤ l.length ∧ Below wo.heap.size wo wj ∧ badP p g l l.length 0 = badP p g l (l.length - i) i) (fun v _ => l.length - (intOf v).toNat)
      case atStart => exact ⟨0, rfl, Nat.zero_le _, Below.refl _ _, rfl⟩
      case round =>
        obtain ⟨j, rfl, hj, hbj, hbad⟩ := hrel
        have HBJ := Lib.hid hbj
        have HBAD := Lib.hid hbad
        clear hbj hbad
        by_cases hlt : j < l.length
        · obtain ⟨lb, lo, rfl, q⟩ := HLX.out (by omega)
          have hb9 := bmore HB.out HBJ.out
          have c0 := bcellAt hb9 (q _ _ (sts_at l j hlt).1)
          have c1 := bcellAt hb9 (q _ _ (sts_at l j hlt).2.1)
          have c2 := bcellAt hb9 (q _ _ (sts_at l j hlt).2.2.1)
          have c3 := bcellAt hb9 (q _ _ (sts_at l j hlt).2.2.2)
          have hsi := HLI.out _ (List.getElem_mem hlt)
          obtain ⟨ta, tc, e1, htc, hrow⟩ := HL.out.take4 (i := j) (by omega)
          simp only [Value.slice.injEq, true_and] at e1
          obtain ⟨rfl, rfl⟩ := e1
          have HST := Lib.hid (badP_step (p := p) (given := g) hlt)
          have HSP := Lib.hid (badP_stop (p := p) (given := g) hlt)
          generalize l[j] = sj at *
          simp only [← Nat.add_assoc] at c1 c2 c3
          obtain ⟨sr, sa, sb, st⟩ := sj
          simp only at c0 c1 c2 c3
          have hbx := bA0 wr (.cells #[.int .i64 sr, .int .i64 sa, .int .i64 sb, .int .i64 st] StT)
          have hx0 : (wr.alloc (.cells #[.int .i64 sr, .int .i64 sa, .int .i64 sb, .int .i64 st] StT)).heap[wr.heap.size]? = some (Obj.cells #[.int .i64 sr, .int .i64 sa, .int .i64 sb, .int .i64 st] StT) := heap_alloc_new _ _
          have HB9 := Lib.hid (bmore hb9 hbx)
          have FO := Lib.hid (fun (W : World) (h : Below (wr.alloc (.cells #[.int .i64 sr, .int .i64 sa, .int .i64 sb, .int .i64 st] StT)).heap.size (wr.alloc (.cells #[.int .i64 sr, .int .i64 sa, .int .i64 sb, .int .i64 st] StT)) W) => follows_any ((HP.out.below (bmore hb9 hbx)).below h) ((HMT.out.belowK (bmore HBJ.out hbx)).belowK h) ((hrow.below (bmore hb9 hbx)).below h) (s := ⟨sr, sa, sb, st⟩) hsi)
          have hkp : ∀ V : World, Below (wr.alloc (.cells #[.int .i64 sr, .int .i64 sa, .int .i64 sb, .int .i64 st] StT)).heap.size (wr.alloc (.cells #[.int .i64 sr, .int .i64 sa, .int .i64 sb, .int .i64 st] StT)) V → V.cell? ⟨wr.heap.size, 0, none⟩ = some (.int .i64 sr) ∧ V.cell? ⟨wr.heap.size, 1, none⟩ = some (.int .i64 sa) ∧ V.cell? ⟨wr.heap.size, 2, none⟩ = some (.int .i64 sb) ∧ V.cell? ⟨wr.heap.size, 3, none⟩ = some (.int .i64 st) ∧ Below (wr.alloc (.cells #[.int .i64 sr, .int .i64 sa, .int .i64 sb, .int .i64 st] StT)).heap.size (wr.alloc (.cells #[.int .i64 sr, .int .i64 sa, .int .i64 sb, .int .i64 st] StT)) V := fun V hV => ⟨bcellAt hV (cellB (j := 0) hx0 rfl), bcellAt hV (cellB (j := 1) hx0 rfl), bcellAt hV (cellB (j := 2) hx0 rfl), bcellAt hV (cellB (j := 3) hx0 rfl), hV⟩
          have HKP := Lib.hid hkp
          generalize hfb : followsP p g (l.take j) ⟨sr, sa, sb, st⟩ = fb at *
          have HFB := Lib.hid hfb
          simp only [stA] at FO
          have HBX := Lib.hid (bmore HBJ.out hbx)
          have hj0 : (0 : Int) ≤ (j : Int) := by omega
          have hj1 : (j : Int) < (l.length : Int) := by omega
          have hjc : j ≤ lc := by omega
          clear q hb9 hkp hbx hx0 hrow hsi hfb
          go_upto_region 12 with fail
          generalize (wr.alloc (.cells #[.int .i64 sr, .int .i64 sa, .int .i64 sb, .int .i64 st] StT)) = V9 at *
          go_region_held3 (fun w' => w'.cell? ⟨wr.heap.size, 0, none⟩ = some (.int .i64 sr) ∧ w'.cell? ⟨wr.heap.size, 1, none⟩ = some (.int .i64 sa) ∧ w'.cell? ⟨wr.heap.size, 2, none⟩ = some (.int .i64 sb) ∧ w'.cell? ⟨wr.heap.size, 3, none⟩ = some (.int .i64 st) ∧ Below V9.heap.size V9 w') ((refine HKP.out _ ?_; first | exact bdd _ _ | exact bd _ | exact bmore (by first | assumption | exact bdn _ _ | exact bd _ | exact Below.refl _ _) u1))
            (((with_reducible refine (FO.out _ (by first | assumption | exact bdn _ _ | exact bd _ | exact Below.refl _ _)).mono ?_); rintro e w5 ⟨rfl, u1⟩))
          have hz := bmore (bd V9) u1
          have HZ := Lib.hid (bmore HB9.out hz)
          have HZ2 := Lib.hid (bmore HBX.out hz)
          clear hz u1
          cases fb with
          | true =>
            go_wp2_with fail
            go_roundw
            case rel => exact ⟨j + 1, by go_num, by omega, HZ2.out, HBAD.out.trans (HST.out (by first | rfl | exact HFB.out))⟩
            case measure => simp [intOf]; omega
          | false =>
            have HCK : Hid (checkP p g l goal = (80, (j : Int))) := Lib.hid (by unfold checkP; rw [HBAD.out, HSP.out (by first | rfl | exact HFB.out)])
            go_wp2_with fail
            go_returns
            exact ⟨by rw [HCK.out]; rfl, HZ.out⟩
        · obtain rfl : j = l.length := by omega
          have HBB := Lib.hid (bmore HB.out HBJ.out)
          have HBN : Hid (badP p g l l.length 0 = none) := Lib.hid (by rw [HBAD.out, Nat.sub_self]; rfl)
          clear hlt
          by_cases h0 : l.length = 0
          · have HCK : Hid (checkP p g l goal = (81, (l.length : Int))) := Lib.hid (by unfold checkP; rw [HBN.out]; simp only; rw [if_pos (.inl h0)])
            have h0' : (((l.length : Nat) : Int) == 0) = true := by rw [h0]; rfl
            go_wp2_with fail
            go_returns
            exact ⟨by rw [HCK.out, h0]; rfl, HBB.out⟩
          · have h0' := ebF (show ¬ ((l.length : Nat) : Int) = 0 by omega)
            obtain ⟨m, hm⟩ : ∃ m, l.length = m + 1 := ⟨l.length - 1, by omega⟩
            have hml : m < l.length := by omega
            obtain ⟨lb, lo, rfl, q⟩ := HLX.out (by omega)
            have c3 := bcellAt HBB.out (q _ _ (sts_at l m hml).2.2.2)
            have hgd : (l.getD (l.length - 1) zeroSt).t = (l[m]).t := by rw [hm, Nat.add_sub_cancel, List.getD_eq_getElem?_getD, List.getElem?_eq_getElem hml, Option.getD_some]
            have HGD := Lib.hid hgd
            generalize (l[m]).t = y at *
            simp only [← Nat.add_assoc] at c3
            have hw1 : wrap64 ((l.length : Int) - 1) = (m : Int) := by unfold wrap64; omega
            have hm0 : (0 : Int) ≤ (m : Int) := by omega
            have hm1 : (m : Int) < (l.length : Int) := by omega
            have hln : ((l.length : Nat) : Int) = (m : Int) + 1 := by omega
            clear q hgd
            cases hq : y != goal with
            | true =>
              have HCK : Hid (checkP p g l goal = (81, (l.length : Int))) := Lib.hid (by unfold checkP; rw [HBN.out]; simp only; rw [if_pos (.inr (by rw [HGD.out]; exact bne_iff_ne.1 hq))])
              go_wp2_with fail
              go_returns
              exact ⟨by rw [HCK.out, hm]; rfl, HBB.out⟩
            | false =>
              have HCK : Hid (checkP p g l goal = (0, 0)) := Lib.hid (by unfold checkP; rw [HBN.out]; simp only; rw [if_neg (by rintro (h | h); exact h0 h; rw [HGD.out] at h; exact absurd h (by simpa using hq))])
              go_wp2_with fail
              go_returns
              exact ⟨by rw [HCK.out]; rfl, HBB.out⟩
end
end Go.Proofs.YtgaklaajbepfaaaGreatDoor
