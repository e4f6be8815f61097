/-
  A list of terms as an argument.
  The law's tells: what somebody knows is what the document's does. (For DeducePlays' seat.)
  The law's own walk: DeducePlays.
  The statement DeducePlays, as a tied card. No condition.
-/
import Derived.Test.YtgaklaajbepfaaaGreatDoorTMet
import Derived.Test.YtgaklaajbepfaaaGreatDoorTRefP
import Derived.ChangeSlices
import Derived.Test.YtgaklaajbepfaaaGreatDoorZSeen
import Derived.Test.YtgaklaajbepfaaaGreatDoorZCopy
import Derived.Test.YtgaklaajbepfaaaGreatDoorZSame
import Derived.Test.YtgaklaajbepfaaaGreatDoorEDocP
import Derived.Test.YtgaklaajbepfaaaGreatDoorZPools
import Derived.Test.YtgaklaajbepfaaaGreatDoorTChain
import Derived.Test.YtgaklaajbepfaaaGreatDoorTLaidL
import Derived.Test.YtgaklaajbepfaaaGreatDoorCards
import Derived.Test.YtgaklaajbepfaaaGreatDoorTie
import Derived.JoinedOf
import Derived.ChangeMaps5
import Derived.SevenTiedAt
namespace Go.Proofs.YtgaklaajbepfaaaGreatDoor
open Go.ChangeShapes Go.WideShapes Go.ChangeAt Go.RowKit
set_option linter.unusedVariables false

theorem cellsTm : Tryz.prog.cellsOf TermT = 1 := by kernel_rfl
theorem ints_len (l : List Int) : (ints l).length = l.length := by simp [ints]
theorem addr_addT (b o n : Nat) : (⟨b, o, none⟩ : Addr).add n = ⟨b, o + n, none⟩ := by unfold Addr.add; split <;> simp_all
section
variable {H : Type} {enc : TypeId × Value → H} {W : World} {base : Nat}
set_option maxRecDepth 100000 in
theorem open_terms {v : Value} {fuel : Nat} {x : DataW H × List MemPlace} (hval : Cell.okWide Tryz.prog W .any base 23 v) (hf : DataW.trod enc Tryz.prog W 0 (fun _ => true) true fuel 23 [v] = some x) :
    ∃ l : List Int, Row W 1 v l.length (ints l) ∧ ∀ n ∈ l, i64R n := by
  rcases Go.ChangeShapes.open_ints Tryz.underlying23 Tryz.underlying39 cellsTm hf with ⟨hcs, _⟩ | ⟨y, len, cap, ss, hcs, _, hl, hm, hz, hx, hcell, hsz⟩
  · simp at hcs
    subst hcs
    exact ⟨[], ⟨rfl, .inl ⟨rfl, rfl⟩⟩, fun s hs => by cases hs⟩
  · simp at hcs
    subst hcs
    simp only [if_true] at hz
    have hh : W.has Tryz.prog .any base y TermT cap := by
      simp only [Tryz.underlying23, Cell.okWide, Cell.ok] at hval
      exact hval.2.2
    obtain ⟨hspot, hblk⟩ := place_of hh
    obtain ⟨b, off, spot⟩ := y
    simp only at hspot hblk
    subst hspot
    have hlen : (ss.take len).length = len := by simp; omega
    refine ⟨ss.take len, ⟨by rw [ints_len]; omega, .inr ⟨b, off, cap, by rw [hlen], hblk, by omega, hm, fun j u hj => ?_⟩⟩, fun s hs => ?_⟩
    · have hj' : j < len := by
        have := (List.getElem?_eq_some_iff.1 hj).1
        rw [ints_len] at this; omega
      have hc := hcell j (by omega)
      rw [addr_addT] at hc
      rw [hc]
      rw [ints_at _ j (by omega)] at hj
      rw [← hj]
      simp [List.getD_eq_getElem?_getD, show j < ss.length by omega]
    · have := bounds_i64 (hsz s (List.mem_of_mem_take hs)); unfold i64R; omega
end
end Go.Proofs.YtgaklaajbepfaaaGreatDoor
namespace Go.Proofs.YtgaklaajbepfaaaGreatDoor
open Go.RowKit Go.Maps
set_option linter.unusedVariables false

/-- A row of terms whose things may have turned. -/
def FillT (w : World) (B : Nat) (v : Value) (n : Nat) : Prop :=
  (∃ a c, v = .slice a n c) ∧ (0 < n → ∃ b c C, v = .slice (some ⟨b, 0, none⟩) n c ∧ B ≤ b ∧ w.heap[b]? = some (.cells C TermT) ∧ n ≤ C.size)
theorem FillT.of {w : World} {B n : Nat} {v : Value} {xs : List Value} (h : w.ownsRow B TermT 1 v n xs) : FillT w B v n := by
  obtain ⟨_, ⟨rfl, rfl⟩ | ⟨b, c, C, rfl, hb, hc, h1, _, h2, _⟩⟩ := h
  · exact ⟨⟨none, 0, rfl⟩, fun h => absurd h (by decide)⟩
  · exact ⟨⟨_, _, rfl⟩, fun _ => ⟨b, c, C, rfl, hb, hc, by omega⟩⟩
theorem FillT.put {w : World} {B n : Nat} {v : Value} (h : FillT w B v n) (b x : Nat) (u : Value) : FillT (w.setCell ⟨b, x, none⟩ u) B v n := by
  refine ⟨h.1, fun hn => ?_⟩
  obtain ⟨b', c, C, e, hb, hc, hs⟩ := h.2 hn
  by_cases eb : b' = b
  · subst eb
    exact ⟨b', c, _, e, hb, setCellB hc, by simpa using hs⟩
  · exact ⟨b', c, C, e, hb, by rw [Below.heap_setCell _ _ _ _ (by exact eb)]; exact hc, hs⟩
/-- What is no term of the pool is neither seen nor derived. -/
theorem seen_out {p : Pl} {g : List Int} (hp : Ok p) (hg : ∀ x ∈ g, inP p x = true) {s : Int → Option Way} (hs : ∀ x, (s x).isSome = true ↔ Reach p g x) {t : Int} (h : inP p t = false) : (s t).isSome = false := by
  cases e : (s t).isSome with
  | false => rfl
  | true =>
    have := Reach.inp hp hg ((hs t).1 e)
    rw [h] at this; cases this
theorem der_outs {p : Pl} {g : List Int} (hp : Ok p) (hg : ∀ x ∈ g, inP p x = true) {s : Int → Option Way} (hs : ∀ x, (s x).isSome = true ↔ Reach p g x) {t : Int} (h : inP p t = false) : derB p s t = false := by
  have hz : (atP p t).1.kind = 0 := by rw [atP_out h]; rfl
  rw [der_other (by rw [hz]; decide)]
  exact seen_out hp hg hs h
set_option maxRecDepth 100000 in
set_option maxHeartbeats 51200000 in
theorem tells_any {w : World} {B a b : Nat} {v : Value} {p : Pl} {B0 ra : Nat} {rl rs rd : Value} {B2 k : Nat} {kv : Value} {mb : Nat} {B3 xb : Nat} {xv : Value} {g : List Int} {s : Int → Option Way} (hp : IsPool w B a b v p) (hr : IsRef w B0 ra rl rs rd p) (hk : IsKnow w B2 k kv mb a p g s) (hx : IsRK w B3 xb ra xv g) : Calls Tryz.prog 14 #[.pointer (some ⟨k, 0, none⟩), .pointer (some ⟨xb, 0, none⟩)] w fun e w' => e = .returned (.bool true) ∧ Below w.heap.size w w' := by
  have hlen : p.length ≤ 65536 := hp.ok.len
  have hgl : g.length ≤ 65536 := Nat.le_trans hk.glen hlen
  have hsl : (seenL p s).length ≤ p.length := by
    unfold seenL
    exact Nat.le_trans (List.length_filter_le _ _) (by simp)
  have HP := Lib.hid hp
  have HR := Lib.hid hr
  have HK := Lib.hid hk
  have HX := Lib.hid hx
  have HIN : Hid (∀ x ∈ g, inP p x = true) := Lib.hid hk.ok.ing
  have HRE : Hid (∀ x, (s x).isSome = true ↔ Reach p g x) := Lib.hid hk.ok.reach
  have HSO : Hid (∀ t, inP p t = false → (s t).isSome = false) := Lib.hid fun t h => seen_out hp.ok hk.ok.ing hk.ok.reach h
  have HDO : Hid (∀ t, inP p t = false → derB p s t = false) := Lib.hid fun t h => der_outs hp.ok hk.ok.ing hk.ok.reach h
  have HSL : Hid (∀ t, decide (t ∈ seenL p s) = (s t).isSome) := Lib.hid fun t => by
    have hm := mem_seenL (p := p) (s := s) (t := t) (fun t h => Reach.inp hp.ok hk.ok.ing ((hk.ok.reach t).1 h))
    cases e : (s t).isSome with
    | true => exact decide_eq_true (hm.2 e)
    | false => exact decide_eq_false (fun h => by rw [hm.1 h] at e; cases e)
  obtain ⟨xa, xc, rfl⟩ := (row_of_own hx.row).shape
  have c1 : w.cell? ⟨xb, 1, none⟩ = some (.slice xa g.length xc) := cellB hx.lay rfl
  have GV := Lib.hid (kgiven_any hk hgl)
  clear hp hr hk hx
  go_enter Tryz.func14, Tryz.ntmps14
  go_wp2_with fail
  refine GV.out.mono ?_
  rintro e w1 ⟨v1, rfl, hrow1, u1⟩
  obtain ⟨a1, k1, rfl⟩ := (row_of_own hrow1).shape
  have HG1 := Lib.hid hrow1
  have HU1 := Lib.hid u1
  have SE := Lib.hid (kseen_any (HK.out.below u1) hlen)
  have C1 := Lib.hid c1
  clear hrow1 u1 GV c1
  go_wp2_with fail
  refine SE.out.mono ?_
  rintro e w2 ⟨v2, rfl, hrow2, u2⟩
  obtain ⟨a2, k2, rfl⟩ := (row_of_own hrow2).shape
  have HS2 := Lib.hid (own_baseS hrow2 HU1.out.size)
  have HG2 := Lib.hid (own_hold HG1.out (Hold.below u2))
  have HU2 := Lib.hid (bmore HU1.out u2)
  have c1 : w2.cell? ⟨xb, 1, none⟩ = some (.slice xa g.length xc) := bcellAt HU2.out C1.out
  have SA := Lib.hid (rsame_any (row_of_own HG2.out) (row_of_own (HX.out.below HU2.out).row) (by omega))
  clear hrow2 u2 SE HU1 HG1
  go_wp2_with fail
  refine SA.out.mono ?_
  rintro e w3 ⟨rfl, u3⟩
  have HU3 := Lib.hid (bmore HU2.out u3)
  have HS3 := Lib.hid (own_hold HS2.out (Hold.below u3))
  have HG3 := Lib.hid (own_hold HG2.out (Hold.below u3))
  have RS := Lib.hid (rkseen_any (HR.out.below HU3.out) (HX.out.below HU3.out) HIN.out hgl HRE.out)
  clear u3 SA HU2 HS2 HG2 c1
  go_wp2_with fail
  refine RS.out.mono ?_
  rintro e w4 ⟨v4, rfl, hrow4, u4⟩
  obtain ⟨a4, k4, rfl⟩ := (row_of_own hrow4).shape
  have HU4 := Lib.hid (bmore HU3.out u4)
  have HS4 := Lib.hid (own_hold HS3.out (Hold.below u4))
  have HG4 := Lib.hid (own_hold HG3.out (Hold.below u4))
  have SB := Lib.hid (rsame_any (row_of_own HS4.out) (row_of_own hrow4) (by omega))
  clear hrow4 u4 RS HU3 HS3 HG3
  go_wp2_with fail
  refine SB.out.mono ?_
  rintro e w5 ⟨rfl, u5⟩
  have HU5 := Lib.hid (bmore HU4.out u5)
  have HS5 := Lib.hid (FillT.of (own_hold HS4.out (Hold.below u5)))
  have HG5 := Lib.hid (FillT.of (own_hold HG4.out (Hold.below u5)))
  clear u5 SB HU4 HS4 HG4
  go_wp2_with fail
  go_loopw [7] (fun v7 wr => ∃ i : Nat, v7 = .int .i64 (i : Int) ∧ i ≤ g.length ∧ FillT wr w.heap.size (.slice a1 g.length k1) g.length ∧ FillT wr w.heap.size (.slice a2 (seenL p s).length k2) (seenL p s).length ∧ Below w.heap.size w wr) (fun v _ => g.length - (intOf v).toNat)
  case atStart => exact ⟨0, rfl, Nat.zero_le _, HG5.out, HS5.out, HU5.out⟩
  case round =>
    clear HG5 HS5 HU5
    obtain ⟨i, rfl, hi, hfg, hfs, hb⟩ := hrel
    have HFG := Lib.hid hfg
    have HFS := Lib.hid hfs
    have HB := Lib.hid hb
    clear hfs hb
    by_cases hlt : i < g.length
    · obtain ⟨gb, gc, C, e, hgb, hC, hCs⟩ := hfg.2 (by omega)
      simp only [Value.slice.injEq, true_and] at e
      obtain ⟨rfl, rfl⟩ := e
      have c0 : wr.cell? ⟨gb, i, none⟩ = some (C[i]'(by omega)) := cellB hC (Array.getElem?_eq_getElem _)
      have f0 : wr.frozen? ⟨gb, i, none⟩ = false := frozenB (j := i) hC
      have hi0 : (0 : Int) ≤ (i : Int) := by omega
      have hi1 : (i : Int) < (g.length : Int) := by omega
      have HF1 := Lib.hid (HFG.out.put gb i (.int .i64 (-9)))
      have HF2 := Lib.hid (HFS.out.put gb i (.int .i64 (-9)))
      have HB1 := Lib.hid (HB.out.setCell (p := ⟨gb, i, none⟩) hgb (.int .i64 (-9)))
      generalize C[i]'(by omega) = y at *
      clear hfg hC HFG HFS HB
      go_wp2_with fail
      go_roundw
      case rel => exact ⟨i + 1, by go_num, by omega, HF1.out, HF2.out, HB1.out⟩
      case measure => simp [intOf] <;> omega
    · obtain rfl : i = g.length := by omega
      clear hlt hfg HFG
      obtain ⟨wo, hwo⟩ : ∃ wo, wo = wr := ⟨_, rfl⟩
      go_wp2_with fail
      go_loopw [8] (fun v8 wr => ∃ i : Nat, v8 = .int .i64 (i : Int) ∧ i ≤ (seenL p s).length ∧ FillT wr w.heap.size (.slice a2 (seenL p s).length k2) (seenL p s).length ∧ Below w.heap.size w wr) (fun v _ => (seenL p s).length - (intOf v).toNat)
      case atStart => exact ⟨0, rfl, Nat.zero_le _, HFS.out, HB.out⟩
      case round =>
        clear HFS HB
        obtain ⟨i, rfl, hi, hfs, hb⟩ := hrel
        have HFS := Lib.hid hfs
        have HB := Lib.hid hb
        clear hb
        by_cases hlt : i < (seenL p s).length
        · obtain ⟨gb, gc, C, e, hgb, hC, hCs⟩ := hfs.2 (by omega)
          simp only [Value.slice.injEq, true_and] at e
          obtain ⟨rfl, rfl⟩ := e
          have c0 : wr.cell? ⟨gb, i, none⟩ = some (C[i]'(by omega)) := cellB hC (Array.getElem?_eq_getElem _)
          have f0 : wr.frozen? ⟨gb, i, none⟩ = false := frozenB (j := i) hC
          have hi0 : (0 : Int) ≤ (i : Int) := by omega
          have hi1 : (i : Int) < ((seenL p s).length : Int) := by omega
          have HF2 := Lib.hid (HFS.out.put gb i (.int .i64 (-9)))
          have HB1 := Lib.hid (HB.out.setCell (p := ⟨gb, i, none⟩) hgb (.int .i64 (-9)))
          generalize C[i]'(by omega) = y at *
          clear hfs hC HFS HB
          go_wp2_with fail
          go_roundw
          case rel => exact ⟨i + 1, by go_num, by omega, HF2.out, HB1.out⟩
          case measure => simp [intOf] <;> omega
        · obtain rfl : i = (seenL p s).length := by omega
          have RD := Lib.hid (rderived_any (HR.out.below HB.out) (HX.out.below HB.out) HIN.out hgl HRE.out)
          clear hlt hfs HFS
          go_wp2_with fail
          refine RD.out.mono ?_
          rintro e w6 ⟨ob, cap, d, rfl, hbo, hd, u6⟩
          have HBO := Lib.hid hbo
          have HD := Lib.hid hd
          have HB6 := Lib.hid (bmore HB.out u6)
          clear hbo hd u6 RD HB
          obtain ⟨ala, alc, e9⟩ := (row_of_own HR.out.rl).shape
          have HRL : Hid (w.cell? ⟨ra, 0, none⟩ = some (.slice ala p.length alc)) := Lib.hid (by have h9 := HR.out.lay; rw [e9] at h9; exact cellB h9 rfl)
          have HXP : Hid (w.cell? ⟨xb, 0, none⟩ = some (.pointer (some ⟨ra, 0, none⟩))) := Lib.hid (cellB HX.out.lay rfl)
          clear e9
          obtain ⟨wp, hwp⟩ : ∃ wp, wp = w6 := ⟨_, rfl⟩
          go_wp2_with fail
          go_loopw [10] (fun v10 wr => ∃ t : Int, v10 = .int .i64 t ∧ -1 ≤ t ∧ t ≤ (p.length : Int) + 2 ∧ Below w6.heap.size w6 wr) (fun v _ => ((p.length : Int) + 3 - intOf v).toNat)
          case atStart => exact ⟨-1, rfl, by omega, by omega, Below.refl _ _⟩
          case round =>
            obtain ⟨t, rfl, ht1, ht2, hb⟩ := hrel
            have HBT := Lib.hid hb
            have HB7 := Lib.hid (bmore HB6.out hb)
            have c0 := bcellAt HB7.out HRL.out
            have c1 := bcellAt HB7.out HXP.out
            have hn1 : (p.length : Int) ≤ 65536 := by omega
            clear hb
            by_cases hle : t ≤ (p.length : Int) + 1
            · have hti : i64R t := by unfold i64R; omega
              have DE := Lib.hid (derives_any (HP.out.below HB7.out) (HK.out.below HB7.out) hti)
              cases hin : inP p t with
              | true =>
                obtain ⟨z, rfl, z1, z2⟩ := in_nat hin
                have e0 := (HBO.out.below HBT.out).cell (x := z) (by omega)
                rw [HD.out z z1 z2] at e0
                have EL := Lib.hid (HSL.out (z : Int))
                have hz1 : (1 : Int) ≤ (z : Int) := by omega
                have hz0 : (0 : Int) ≤ (z : Int) := by omega
                have hz2 : (z : Int) < ((p.length + 1 : Nat) : Int) := by omega
                have SS0 := Lib.hid (fun (W : World) (hW : Below w.heap.size w W) => sees_any (HK.out.below hW) hti)
                generalize derB p s (z : Int) = db at *
                have E0 := Lib.hid e0
                have hdd : (db != db) = false := by simp
                clear hin e0
                go_wp2_with fail
                refine DE.out.mono ?_
                rintro e w7 ⟨rfl, u7⟩
                have HB8 := Lib.hid (bmore HB7.out u7)
                have HT8 := Lib.hid (bmore HBT.out u7)
                have e0 : w7.cell? ⟨ob, z, none⟩ = some (.bool db) := bcellAt u7 E0.out
                have SS := Lib.hid (SS0.out _ HB8.out)
                clear u7 DE c0 c1
                go_wp2_with fail
                refine SS.out.mono ?_
                rintro e w8 ⟨rfl, u8⟩
                have HB9 := Lib.hid (bmore HB8.out u8)
                have HT9 := Lib.hid (bmore HT8.out u8)
                have RS := Lib.hid (rkseen_any (HR.out.below HB9.out) (HX.out.below HB9.out) HIN.out hgl HRE.out)
                clear u8 SS e0
                go_wp2_with fail
                refine RS.out.mono ?_
                rintro e w9 ⟨v9, rfl, hrow9, u9⟩
                obtain ⟨a9, k9, rfl⟩ := (row_of_own hrow9).shape
                have HT10 := Lib.hid (bmore HT9.out u9)
                have RH := Lib.hid (rhasL (row_of_own hrow9) (by omega) (z : Int))
                rw [EL.out] at RH
                generalize (s (z : Int)).isSome = sq at *
                have hss : (sq != sq) = false := by simp
                clear u9 RS hrow9
                go_wp2_with fail
                refine RH.out.mono ?_
                rintro e w10 ⟨rfl, rfl⟩
                go_wp2_with fail
                go_roundw
                case rel => exact ⟨(z : Int) + 1, by go_num, by omega, by omega, HT10.out⟩
                case measure => simp [intOf] <;> omega
              | false =>
                have hd0 := HDO.out t hin
                have hs0 := HSO.out t hin
                rw [hd0] at DE
                have SS0 := Lib.hid (fun (W : World) (hW : Below w.heap.size w W) => sees_any (HK.out.below hW) hti)
                rw [hs0] at SS0
                have hor : t < 1 ∨ (1 ≤ t ∧ (p.length : Int) < t) := by
                  unfold inP at hin
                  simp at hin
                  omega
                clear hin hd0 hs0
                rcases hor with h1 | ⟨h1, h2⟩
                · have h1' : decide ((1 : Int) ≤ t) = false := decide_eq_false (by omega)
                  go_wp2_with fail
                  refine DE.out.mono ?_
                  rintro e w7 ⟨rfl, u7⟩
                  have HB8 := Lib.hid (bmore HB7.out u7)
                  have HT8 := Lib.hid (bmore HBT.out u7)
                  have SS := Lib.hid (SS0.out _ HB8.out)
                  clear u7 DE c0 c1
                  go_wp2_with fail
                  refine SS.out.mono ?_
                  rintro e w8 ⟨rfl, u8⟩
                  have HT9 := Lib.hid (bmore HT8.out u8)
                  clear u8 SS
                  go_wp2_with fail
                  go_roundw
                  case rel => exact ⟨t + 1, by go_num, by omega, by omega, HT9.out⟩
                  case measure => simp [intOf] <;> omega
                · have h2' : decide (t < ((p.length + 1 : Nat) : Int)) = false := decide_eq_false (by omega)
                  go_wp2_with fail
                  refine DE.out.mono ?_
                  rintro e w7 ⟨rfl, u7⟩
                  have HB8 := Lib.hid (bmore HB7.out u7)
                  have HT8 := Lib.hid (bmore HBT.out u7)
                  have SS := Lib.hid (SS0.out _ HB8.out)
                  clear u7 DE c0 c1
                  go_wp2_with fail
                  refine SS.out.mono ?_
                  rintro e w8 ⟨rfl, u8⟩
                  have HT9 := Lib.hid (bmore HT8.out u8)
                  clear u8 SS
                  go_wp2_with fail
                  go_roundw
                  case rel => exact ⟨t + 1, by go_num, by omega, by omega, HT9.out⟩
                  case measure => simp [intOf] <;> omega
            · have hle' : decide (t ≤ (p.length : Int) + 1) = false := decide_eq_false (by omega)
              have GV := Lib.hid (fun (W : World) (hW : Below w.heap.size w W) => kgiven_any (HK.out.below hW) hgl)
              have HKP : Hid (∀ V : World, Below w.heap.size w V → V.cell? ⟨xb, 1, none⟩ = some (.slice xa g.length xc) ∧ Below w.heap.size w V) := Lib.hid fun V hV => ⟨bcellAt hV C1.out, hV⟩
              have HSA : Hid (∀ (W : World) (va : Value), Below w.heap.size w W → W.ownsRow w.heap.size TermT 1 va g.length (ints g) → Calls Tryz.prog 60 #[va, .slice xa g.length xc] W fun e w' => e = .returned (.bool true) ∧ Below W.heap.size W w') := Lib.hid fun W va hW hr => rsame_any (row_of_own hr) (row_of_own (HX.out.below hW).row) (by omega)
              have HC1 := HKP.out _ HB7.out
              obtain ⟨c2, _⟩ := HC1
              clear hle
              go_upto_region 19 with fail
              go_region_held3 (fun w' => w'.cell? ⟨xb, 1, none⟩ = some (.slice xa g.length xc) ∧ Below w.heap.size w w') ((refine HKP.out _ ?_; first | exact bmore HB7.out (bdn _ _) | exact bmore HB7.out (bd _) | exact bmore (bmore HB7.out (by first | exact bdn _ _ | exact bd _ | exact Below.refl _ _)) u8 | exact bmore (bmore (bmore HB7.out (by first | exact bdn _ _ | exact bd _ | exact Below.refl _ _)) u8) u9))
                ((first
                  | ((with_reducible refine (GV.out _ (bmore HB7.out (by first | exact bdn _ _ | exact bd _ | exact Below.refl _ _))).mono ?_); rintro e w8 ⟨v8, rfl, hrow8, u8⟩; obtain ⟨a8, k8, rfl⟩ := (row_of_own hrow8).shape)
                  | ((with_reducible refine (HSA.out _ _ (bmore (bmore HB7.out (by first | exact bdn _ _ | exact bd _ | exact Below.refl _ _)) u8) (own_baseS hrow8 (by first | exact (bmore HB7.out (bdn _ _)).size | exact (bmore HB7.out (bd _)).size | exact HB7.out.size))).mono ?_); rintro e w9 ⟨rfl, u9⟩)))
              have HFI := Lib.hid (bmore (bmore (bmore HB7.out (by first | exact bdn _ _ | exact bd _ | exact Below.refl _ _)) u8) u9)
              clear u8 u9 hrow8 c0 c1 c2
              go_wp2_with fail
              go_returns
              exact ⟨rfl, HFI.out⟩
end Go.Proofs.YtgaklaajbepfaaaGreatDoor
namespace Go.Proofs.YtgaklaajbepfaaaGreatDoor
open Go.RowKit Go.Maps
set_option linter.unusedVariables false

/-- Twain rows of terms that do not share a block. -/
def Twain (u v : Value) : Prop := ∀ r, u.ownBlock = some r → v.ownBlock ≠ some r
theorem own_keptP {w w' : World} {B n : Nat} {v : Value} {xs : List Value} (h : w.ownsRow B TermT 1 v n xs) (hk : ∀ j, v.ownBlock = some j → w'.heap[j]? = w.heap[j]?) : w'.ownsRow B TermT 1 v n xs := by
  obtain ⟨h1, h3⟩ := h
  refine ⟨h1, ?_⟩
  rcases h3 with h3 | ⟨r, cap, cur, rfl, hb, hr, rest⟩
  · exact .inl h3
  · exact .inr ⟨r, cap, cur, rfl, hb, (hk r rfl).trans hr, rest⟩
theorem own_lt {w : World} {base n size : Nat} {e : TypeId} {v : Value} {xs : List Value} (h : w.ownsRow base e size v n xs) : ∀ r, v.ownBlock = some r → r < w.heap.size := fun r hr => by
  obtain ⟨_, cur, hc⟩ := own_type h hr
  exact (Array.getElem?_eq_some_iff.1 hc).1
section
variable {w w' : World} {B2 k mb a : Nat} {gv : Value} {p : Pl} {g : List Int} {s : Int → Option Way} {B xb ra : Nat} {xg : Value} {g' : List Int}
theorem KG.row (hk : IsKnow w B2 k gv mb a p g s) (hg : KG w B2 k mb gv w') {B n : Nat} {v : Value} {xs : List Value} (h : w.ownsRow B TermT 1 v n xs) (h2 : Twain gv v) : w'.ownsRow B TermT 1 v n xs :=
  own_keptP h fun j hj => by
    obtain ⟨_, cur, hc⟩ := own_type h hj
    refine hg.keep j (Array.getElem?_eq_some_iff.1 hc).1 (fun e => ?_) (fun e => ?_) (fun e => h2 j e hj)
    · rw [e, hk.lay] at hc
      simp only [Option.some.injEq, Obj.cells.injEq] at hc
      exact absurd hc.2.1 (by decide)
    · obtain ⟨es, c, hm⟩ := hk.seen.mapb
      rw [e, hm] at hc; cases hc
theorem RG.row (hx : IsRK w B xb ra xg g') (hg : RG w B xb xg w') {B n : Nat} {v : Value} {xs : List Value} (h : w.ownsRow B TermT 1 v n xs) (h2 : Twain xg v) : w'.ownsRow B TermT 1 v n xs :=
  own_keptP h fun j hj => by
    obtain ⟨_, cur, hc⟩ := own_type h hj
    refine hg.keep j (Array.getElem?_eq_some_iff.1 hc).1 (fun e => ?_) (fun e => h2 j e hj)
    rw [e, hx.lay] at hc
    simp only [Option.some.injEq, Obj.cells.injEq] at hc
    exact absurd hc.2.1 (by decide)
theorem IsRK.kg (h : IsRK w B xb ra xg g') (hk : IsKnow w B2 k gv mb a p g s) (h2 : Twain gv xg) (hg : KG w B2 k mb gv w') : IsRK w' B xb ra xg g' :=
  ⟨hg.hold hk (by decide) (by decide) _ _ h.lay, h.gx, hg.row hk h.row h2⟩
theorem IsKnow.rg (hk : IsKnow w B2 k gv mb a p g s) (h : IsRK w B xb ra xg g') (h2 : Twain xg gv) (hg : RG w B xb xg w') : IsKnow w' B2 k gv mb a p g s := by
  have lay : ∀ {j : Nat}, j < w.heap.size → j ≠ xb → (xg.ownBlock ≠ some j) → w'.heap[j]? = w.heap[j]? := fun {j} hj h1 hne => hg.keep j hj h1 hne
  have hne : ∀ {j : Nat} {o : Obj}, w.heap[j]? = some o → (∀ cs, o ≠ .cells cs TermT) → xg.ownBlock ≠ some j := fun {j o} ho hc e => by
    obtain ⟨_, cur, hr⟩ := own_type h.row e
    rw [ho] at hr
    exact hc _ (Option.some.inj hr)
  refine ⟨(lay hk.lt (fun e => ?_) (hne hk.lay fun cs e => ?_)).trans hk.lay, hk.gk, hk.gm, hg.row h hk.row h2, hk.seen.same (fun es c hm => (lay (Array.getElem?_eq_some_iff.1 hm).1 (fun e => ?_) (hne hm fun cs e => ?_)).trans hm), hk.ok⟩
  · have h9 := hk.lay
    rw [e, h.lay] at h9
    simp only [Option.some.injEq, Obj.cells.injEq] at h9
    exact absurd h9.2.1 (by decide)
  · simp only [Obj.cells.injEq] at e
    exact absurd e.2.1 (by decide)
  · rw [e, h.lay] at hm; cases hm
  · cases e
/-- What lies in newer memory stays. -/
theorem IsKnow.kept (h : IsKnow w B k gv mb a p g s) (hk : ∀ j, B ≤ j → j < w.heap.size → w'.heap[j]? = w.heap[j]?) : IsKnow w' B k gv mb a p g s := by
  refine ⟨(hk k h.gk h.lt).trans h.lay, h.gk, h.gm, own_keptP h.row (fun j hj => ?_), h.seen.same (fun es c hm => (hk mb h.gm h.seen.lt).trans hm), h.ok⟩
  obtain ⟨hB, cur, hc⟩ := own_type h.row hj
  exact hk j hB (Array.getElem?_eq_some_iff.1 hc).1
theorem IsRK.kept (h : IsRK w B xb ra xg g') (hk : ∀ j, B ≤ j → j < w.heap.size → w'.heap[j]? = w.heap[j]?) : IsRK w' B xb ra xg g' := by
  refine ⟨(hk xb h.gx h.lt).trans h.lay, h.gx, own_keptP h.row (fun j hj => ?_)⟩
  obtain ⟨hB, cur, hc⟩ := own_type h.row hj
  exact hk j hB (Array.getElem?_eq_some_iff.1 hc).1
theorem KG.new (h : KG w B2 k mb gv w') {B3 : Nat} (h1 : k < B3) (h2 : mb < B3) (h3 : ∀ r, gv.ownBlock = some r → r < B3) : ∀ j, B3 ≤ j → j < w.heap.size → w'.heap[j]? = w.heap[j]? :=
  fun j hj hs => h.keep j hs (by omega) (by omega) (fun e => by have := h3 j e; omega)
theorem RG.new (h : RG w B xb xg w') {B3 : Nat} (h1 : xb < B3) (h3 : ∀ r, xg.ownBlock = some r → r < B3) : ∀ j, B3 ≤ j → j < w.heap.size → w'.heap[j]? = w.heap[j]? :=
  fun j hj hs => h.keep j hs (by omega) (fun e => by have := h3 j e; omega)
end
/-- A row that grew stays apart from one that was there. -/
theorem two_left {w : World} {u u' v : Value} (h : Twain u v) (hu : u'.ownBlock = u.ownBlock ∨ ∃ q, u'.ownBlock = some q ∧ w.heap.size ≤ q) (hv : ∀ r, v.ownBlock = some r → r < w.heap.size) : Twain u' v := by
  intro r hr e
  rcases hu with hu | ⟨q, hq, hs⟩
  · exact h r (hu ▸ hr) e
  · rw [hq] at hr; cases hr
    have := hv _ e; omega
section
variable {w w' : World} {B2 k mb a : Nat} {gv : Value} {p : Pl} {g : List Int} {s : Int → Option Way} {B xb ra : Nat} {xg rv : Value} {g' xs : List Int} {B3 ck cm B4 yb : Nat} {cg yg : Value} {gc gy : List Int} {sc : Int → Option Way}
/-- What the program's Add leaves of all else. -/
theorem after_add (hk : IsKnow w B2 k gv mb a p g s) (hg : KG w B2 k mb gv w') (hx : IsRK w B xb ra xg g') (h2 : Twain gv xg) (hr : w.ownsRow B TermT 1 rv xs.length (ints xs)) (h3 : Twain gv rv) (hc : IsKnow w B3 ck cg cm a p gc sc) (hy : IsRK w B4 yb ra yg gy) (hk3 : k < B3) (hm3 : mb < B3) (hg3 : ∀ r, gv.ownBlock = some r → r < B3) (h34 : B3 ≤ B4) :
    IsRK w' B xb ra xg g' ∧ w'.ownsRow B TermT 1 rv xs.length (ints xs) ∧ IsKnow w' B3 ck cg cm a p gc sc ∧ IsRK w' B4 yb ra yg gy :=
  ⟨hx.kg hk h2 hg, hg.row hk hr h3, hc.kept (hg.new hk3 hm3 hg3), hy.kept fun j hj => hg.new hk3 hm3 hg3 j (Nat.le_trans h34 hj)⟩
theorem after_radd (hk : IsKnow w B2 k gv mb a p g s) (hx : IsRK w B xb ra xg g') (hg : RG w B xb xg w') (h2 : Twain xg gv) (hr : w.ownsRow B TermT 1 rv xs.length (ints xs)) (h3 : Twain xg rv) (hc : IsKnow w B3 ck cg cm a p gc sc) (hy : IsRK w B4 yb ra yg gy) (hx3 : xb < B3) (hg3 : ∀ r, xg.ownBlock = some r → r < B3) (h34 : B3 ≤ B4) :
    IsKnow w' B2 k gv mb a p g s ∧ w'.ownsRow B TermT 1 rv xs.length (ints xs) ∧ IsKnow w' B3 ck cg cm a p gc sc ∧ IsRK w' B4 yb ra yg gy :=
  ⟨hk.rg hx h2 hg, hg.row hx hr h3, hc.kept (hg.new hx3 hg3), hy.kept fun j hj => hg.new hx3 hg3 j (Nat.le_trans h34 hj)⟩
end
theorem Twain.flip {u v : Value} (h : Twain u v) : Twain v u := fun r hr e => h r e hr

set_option maxRecDepth 100000 in
set_option maxHeartbeats 51200000 in
theorem plays_walk {w : World} (hl : Laid w) {fo : Fo} {vn : Value} (hk : IsK w (fun b => b < w.heap.size) vn fo) (hok : OkF fo) {vg : Value} {g : List Int} (hg : Row w 1 vg g.length (ints g)) (hgi : ∀ x ∈ g, i64R x) : Calls Tryz.prog 3 #[vn, vg] w fun e w' => e = .returned (.bool true) ∧ Below w.heap.size w w' := by
  have hlen := hk.small
  unfold maxLen at hlen
  obtain ⟨av, cv, rfl, _⟩ := hk.shape
  obtain ⟨ga, gc, rfl⟩ := hg.shape
  have HL := Lib.hid hl
  have HK := Lib.hid hk
  have HOK := Lib.hid hok
  have HG := Lib.hid hg
  have HGI := Lib.hid hgi
  have WD := Lib.hid (wide_any hk)
  have hgl : g.length ≤ 9223372036854775807 := by
    rcases hg.2 with ⟨_, h0⟩ | ⟨b, off, cap, _, _, h4, h5, _⟩
    · omega
    · unfold maxLen at h5; omega
  clear hl hk hok hg hgi
  go_enter Tryz.func3, Tryz.ntmps3
  go_wp2_with fail
  refine WD.out.mono ?_
  rintro e w1 ⟨⟨q1, rfl, hq1⟩, u1⟩
  have HU1 := Lib.hid u1
  clear u1 WD
  cases q1 with
  | true =>
    go_wp2_with fail
    refine (live_any (HL.out.below HU1.out)).mono ?_
    rintro e w2 ⟨rfl, u2⟩
    have HU2 := Lib.hid (bmore HU1.out u2)
    clear u2
    go_wp2_with fail
    go_returns
    exact ⟨rfl, HU2.out⟩
  | false =>
    obtain ⟨h12, h400⟩ := hq1 rfl
    by_cases h20 : 20 < g.length
    · have h20' : (20 : Int) < (g.length : Int) := by omega
      go_wp2_with fail
      refine (live_any (HL.out.below HU1.out)).mono ?_
      rintro e w2 ⟨rfl, u2⟩
      have HU2 := Lib.hid (bmore HU1.out u2)
      clear u2
      go_wp2_with fail
      go_returns
      exact ⟨rfl, HU2.out⟩
    · have h20' : decide ((20 : Int) < (g.length : Int)) = false := decide_eq_false (by omega)
      have hkl := (HK.out.below HU1.out).keep (G' := fun b => b < w1.heap.size) (fun b hb _ => ⟨Nat.lt_of_lt_of_le hb HU1.out.size, rfl⟩)
      have PO := Lib.hid (pools_any (HL.out.below HU1.out) hkl HOK.out (by omega) (by omega))
      have hg20 : g.length ≤ 20 := by omega
      clear hkl h20
      go_wp2_with fail
      refine PO.out.mono ?_
      rintro e w2 ⟨pa, b, ra, vv, vo, rl, rs, rd, q, ol, rfl, p2, r2, u2, or2, hol, hoi⟩
      obtain ⟨oa, oc, rfl⟩ := (row_of_own or2).shape
      have HP2 := Lib.hid p2
      have HR2 := Lib.hid r2
      have HU2 := Lib.hid (bmore HU1.out u2)
      have HG2 := Lib.hid (HG.out.below (bmore HU1.out u2))
      have HO2 := Lib.hid or2
      have HOI := Lib.hid hoi
      clear p2 r2 u2 PO or2 hoi
      have HMB := Lib.hid (show w2.heap.size ≠ b by obtain ⟨D, ho, _⟩ := HP2.out.dict; have := ho.lt; omega)
      go_wp2_with fail
      refine (knew w2 pa w2.heap.size q (Nat.le_refl _)).mono ?_
      rintro e w3 ⟨rfl, k3, u3⟩
      have HK3 := Lib.hid k3
      have HU3 := Lib.hid u3
      clear k3 u3
      have hkb : w2.heap.size < w2.heap.size + 1 := Nat.lt_succ_self _
      generalize w2.heap.size + 1 = k at *
      have bA := bA0 w3 (.cells #[.pointer (some ⟨ra, 0, none⟩), .slice none 0 0] RKT)
      have hnA : (w3.alloc (.cells #[.pointer (some ⟨ra, 0, none⟩), .slice none 0 0] RKT)).heap[w3.heap.size]? = some (Obj.cells #[.pointer (some ⟨ra, 0, none⟩), .slice none 0 0] RKT) := heap_alloc_new _ _
      have HK4 := Lib.hid (HK3.out.below bA)
      have HX4 : Hid (IsRK (w3.alloc (.cells #[.pointer (some ⟨ra, 0, none⟩), .slice none 0 0] RKT)) w2.heap.size w3.heap.size ra (.slice none 0 0) []) := Lib.hid ⟨hnA, HU3.out.size, World.ownsRow_nil _ _ _ 1⟩
      have HU4 := Lib.hid (bmore HU3.out bA)
      clear bA hnA HK3 HU3
      go_upto_region 10 with fail
      generalize (w3.alloc (.cells #[.pointer (some ⟨ra, 0, none⟩), .slice none 0 0] RKT)) = w4 at *
      generalize w3.heap.size = xb at *
      have HO4 := Lib.hid ((row_of_own (own_hold HO2.out (Hold.below HU4.out))).below (bA0 w4 (.cells #[] TermT)))
      have HG4 := Lib.hid (HG2.out.below HU4.out)
      have hown0 : (w4.alloc (.cells #[] TermT)).ownsRow w4.heap.size TermT 1 (.slice (some ⟨w4.heap.size, 0, none⟩) 0 0) ([] : List Int).length (ints []) := World.ownsRow_made w4 #[] 0 (Nat.le_refl _) (by unfold maxLen; omega) rfl
      have HO0 := Lib.hid hown0
      clear hown0
      go_wp2_with (first
        | (at_builtin; refine wpList_append_tl rfl _ _ rfl w4.heap.size (.slice (some ⟨w4.heap.size, 0, none⟩) 0 0) [] rfl HO0.out (.slice oa ol.length oc) ol rfl HO4.out (by simp; omega) (bA0 _ _).size ?_; intro v5 w5 hrow5 hg5; obtain ⟨sa, sc, rfl⟩ := (row_of_own hrow5).shape)
        | (at_builtin; refine wpList_append_tl rfl _ _ rfl w4.heap.size _ ol rfl (by have h9 := hrow5; simp only [List.nil_append] at h9; exact h9) (.slice ga g.length gc) g rfl (HG4.out.below ((bA0 w4 (.cells #[] TermT)).trans (grown_below hg5 (bA0 _ _).size (fun x e => (own_type HO0.out e).1)))) (by omega) (Nat.le_trans (bA0 _ _).size hg5.size) ?_; intro v6 w6 hrow6 hg6; obtain ⟨G, hG⟩ : ∃ G, G = ol ++ g := ⟨_, rfl⟩; rw [← hG] at hrow6; have HGE := Lib.hid hG; clear hG; obtain ⟨ta, tc, rfl⟩ := (row_of_own hrow6).shape))
      have hrow5' : w5.ownsRow w4.heap.size TermT 1 (.slice sa ol.length sc) ol.length (ints ol) := by have h9 := hrow5; simp only [List.nil_append] at h9; exact h9
      have hb6 : Below w4.heap.size w4 w6 := ((bA0 w4 (.cells #[] TermT)).trans (grown_below hg5 (bA0 _ _).size (fun x e => (own_type HO0.out e).1))).trans (grown_below hg6 (Nat.le_trans (bA0 _ _).size hg5.size) (fun x e => (own_type hrow5' e).1))
      have HGV := Lib.hid (own_baseS hrow6 HU4.out.size)
      have HK6 := Lib.hid (HK4.out.below hb6)
      have HX6 := Lib.hid (HX4.out.below hb6)
      have HU6 := Lib.hid (bmore HU4.out hb6)
      have hGl : G.length ≤ 32 := by rw [HGE.out]; simp; omega
      have HGG : Hid (∀ x ∈ G, i64R x) := Lib.hid (fun x hx => by
        rw [HGE.out] at hx
        rcases List.mem_append.1 hx with h | h
        · exact HOI.out x h
        · exact HGI.out x h)
      clear hrow5 hrow5' hb6 hg5 hg6 hrow6 HO0 HO4 HG4 HK4 HX4 HU4 HGE HO2 HOI
      obtain ⟨wo, hwo⟩ : ∃ wo, wo = w6 := ⟨_, rfl⟩
      go_loopw [12] (fun v12 wr => ∃ (i : Nat) (kg xg : Value) (s : Int → Option Way), v12 = .int .i64 (i : Int) ∧ i ≤ G.length ∧ Below w2.heap.size w2 wr ∧ IsKnow wr w2.heap.size k kg w2.heap.size pa q (addsG q [] (G.take i)) s ∧ IsRK wr w2.heap.size xb ra xg (addsG q [] (G.take i)) ∧ Twain kg xg ∧ Twain kg (.slice ta G.length tc) ∧ Twain xg (.slice ta G.length tc) ∧ wr.ownsRow w2.heap.size TermT 1 (.slice ta G.length tc) G.length (ints G)) (fun v _ => G.length - (intOf v).toNat)
      case atStart => exact ⟨0, _, _, _, rfl, Nat.zero_le _, HU6.out, HK6.out, HX6.out, fun r hr => (by cases hr), fun r hr => (by cases hr), fun r hr => (by cases hr), HGV.out⟩
      case round =>
        clear HK6 HX6 HU6 HGV
        obtain ⟨i, kg, xg, s, rfl, hi, hb, hk, hx, h2, h3, h4, hr⟩ := hrel
        have HB := Lib.hid hb
        have HK5 := Lib.hid hk
        have HX5 := Lib.hid hx
        have HR5 := Lib.hid hr
        have H2 := Lib.hid h2
        have H3 := Lib.hid h3
        have H4 := Lib.hid h4
        have HLN : Hid ((addsG q [] (G.take i)).length ≤ 65536) := Lib.hid (by have := adds_len (p := q) (G.take i) []; simp at this; omega)
        clear hb hk hx h2 h3 h4 hr
        by_cases hlt : i < G.length
        · have HXI := Lib.hid (HGG.out _ (List.getElem_mem hlt))
          have HTK : Hid (G.take (i + 1) = G.take i ++ [G[i]]) := Lib.hid (by simp)
          obtain ⟨gga, ggc, hgg, hgx⟩ := (row_of_own HR5.out).at
          obtain ⟨gb, go, hga, qq⟩ := hgx (by omega)
          rw [hga] at hgg
          simp only [Value.slice.injEq, true_and] at hgg
          obtain ⟨rfl, rfl⟩ := hgg
          have HIA := Lib.hid (ints_at G i hlt)
          have HCC : Hid (∀ W : World, W.ownsRow w2.heap.size TermT 1 (.slice (some ⟨gb, go, none⟩) G.length tc) G.length (ints G) → W.cell? ⟨gb, go + i, none⟩ = some (.int .i64 (G[i]))) := Lib.hid fun W hW => by
            obtain ⟨ga', gc', e1, q1⟩ := (row_of_own hW).at
            obtain ⟨gb', go', e2, q2⟩ := q1 (by omega)
            rw [e2] at e1
            simp only [Value.slice.injEq, Option.some.injEq, Addr.mk.injEq, and_true, true_and] at e1
            obtain ⟨⟨rfl, rfl⟩, _⟩ := e1
            exact q2 i _ (ints_at G i hlt)
          generalize G[i] = x at *
          generalize hg' : addsG q [] (G.take i) = g' at *
          have hi0 : (0 : Int) ≤ (i : Int) := by omega
          have hi1 : (i : Int) < (G.length : Int) := by omega
          have CP := Lib.hid (kcopy_any HK5.out HLN.out)
          obtain ⟨xa, xc, rfl⟩ := (row_of_own HX5.out.row).shape
          have cx0 : wr.cell? ⟨xb, 1, none⟩ = some (.slice xa g'.length xc) := cellB HX5.out.lay rfl
          clear qq hgx hga
          go_wp2_with fail
          refine CP.out.mono ?_
          rintro e w7 ⟨ck, cg, cm, rfl, kc, u7⟩
          have HC7 := Lib.hid kc
          have HU7 := Lib.hid u7
          have HXR := Lib.hid (((row_of_own HX5.out.row).below u7).below (bA0 w7 (.cells #[] TermT)))
          have hown0 : (w7.alloc (.cells #[] TermT)).ownsRow w7.heap.size TermT 1 (.slice (some ⟨w7.heap.size, 0, none⟩) 0 0) ([] : List Int).length (ints []) := World.ownsRow_made w7 #[] 0 (Nat.le_refl _) (by unfold maxLen; omega) rfl
          have HO0 := Lib.hid hown0
          have cx : (w7.alloc (.cells #[] TermT)).cell? ⟨xb, 1, none⟩ = some (.slice xa g'.length xc) := bcellAt (bA0 _ _) (bcellAt u7 cx0)
          clear CP kc u7 hown0 cx0
          go_upto_region 16 with (at_builtin; refine wpList_append_tl rfl _ _ rfl w7.heap.size (.slice (some ⟨w7.heap.size, 0, none⟩) 0 0) [] rfl HO0.out (.slice xa g'.length xc) g' rfl HXR.out (by have := HLN.out; simp; omega) (bA0 _ _).size ?_; intro v8 w8 hrow8 hg8; obtain ⟨ya, yc, rfl⟩ := (row_of_own hrow8).shape)
          have hyrow : w8.ownsRow w7.heap.size TermT 1 (.slice ya g'.length yc) g'.length (ints g') := by have h9 := hrow8; simp only [List.nil_append] at h9; exact h9
          have hb78 : Below w7.heap.size w7 w8 := (bA0 w7 (.cells #[] TermT)).trans (grown_below hg8 (bA0 _ _).size (fun x e => (own_type HO0.out e).1))
          have bB := bA0 w8 (.cells #[.pointer (some ⟨ra, 0, none⟩), .slice ya g'.length yc] RKT)
          have HY9 : Hid (IsRK (w8.alloc (.cells #[.pointer (some ⟨ra, 0, none⟩), .slice ya g'.length yc] RKT)) w7.heap.size w8.heap.size ra (.slice ya g'.length yc) g') := Lib.hid ⟨heap_alloc_new _ _, hb78.size, own_hold hyrow (Hold.below bB)⟩
          have HA9 := Lib.hid (bmore (bmore HU7.out hb78) bB)
          have HC9 := Lib.hid ((HC7.out.below hb78).below bB)
          clear hyrow hb78 bB hrow8 hg8 HO0 HXR cx HC7
          generalize (w8.alloc (.cells #[.pointer (some ⟨ra, 0, none⟩), .slice ya g'.length yc] RKT)) = w9 at *
          generalize w8.heap.size = yb at *
          have HB9 := Lib.hid (HB.out.trans (HA9.out.mono HB.out.size))
          have HK9 := Lib.hid (HK5.out.below HA9.out)
          have HX9 := Lib.hid (HX5.out.below HA9.out)
          have HR9 := Lib.hid (own_hold HR5.out (Hold.below HA9.out))
          have HBD : Hid (k < wr.heap.size ∧ w2.heap.size < wr.heap.size ∧ xb < wr.heap.size ∧ wr.heap.size ≤ w7.heap.size) := Lib.hid ⟨HK5.out.lt, HK5.out.seen.lt, HX5.out.lt, HU7.out.size⟩
          have HKL := Lib.hid (own_lt HK5.out.row)
          have HXL := Lib.hid (own_lt HX5.out.row)
          obtain ⟨ev, hev⟩ : ∃ ev, ev = (if inP q x = true then (0 : Int) else 51) := ⟨_, rfl⟩
          have hee : (ev != ev) = false := by simp
          have hev1 : Calls Tryz.prog 12 #[.pointer (some ⟨k, 0, none⟩), .int .i64 x] w9.drew fun e w' => e = .returned (.int .i64 ev) ∧ ∃ gv' s', IsKnow w' w2.heap.size k gv' w2.heap.size pa q (addG q g' x) s' ∧ KG w9.drew w2.heap.size k w2.heap.size kg w' ∧ (gv'.ownBlock = kg.ownBlock ∨ ∃ q, gv'.ownBlock = some q ∧ w9.drew.heap.size ≤ q) := by
            rw [hev]; exact add_any ((HP2.out.below HB9.out).below (bd _)) (HK9.out.below (bd _)) HMB.out HXI.out
          have AD := Lib.hid hev1
          have RA : Hid (∀ V : World, Below w2.heap.size w2 V → IsRK V w2.heap.size xb ra (.slice xa g'.length xc) g' → Calls Tryz.prog 13 #[.pointer (some ⟨xb, 0, none⟩), .int .i64 x] V fun e w' => e = .returned (.int .i64 ev) ∧ ∃ gv', IsRK w' w2.heap.size xb ra gv' (addG q g' x) ∧ RG V w2.heap.size xb (.slice xa g'.length xc) w' ∧ (gv'.ownBlock = (Value.slice xa g'.length xc).ownBlock ∨ ∃ q, gv'.ownBlock = some q ∧ V.heap.size ≤ q)) := Lib.hid fun V hV hx => by
            rw [hev]; exact radd_any (HR2.out.below hV) hx HLN.out x
          have c0 := HCC.out _ (own_hold HR9.out (Hold.below (bd w9)))
          clear hev hev1
          refine lex_start [0, 1, 2, 3, 4, 7, 8, 9, 10, 11, 5, 6, 12, 13, 14, 15, 16, 17, 18, 19, 20, 21, 22, 23, 24, 25, 26, 27, 28, 29] (S := (fun W : World => W.cell? ⟨gb, go + i, none⟩ = some (.int .i64 x))) (by kernel_rfl) c0 (fun hS => ?_)
          simp only [inOrder, List.filterMap, List.getElem?_cons_succ, List.getElem?_cons_zero]
          refine lex_take (i := 0) (v := ?_) rfl (by kernel_rfl) (by kernel_rfl) (by kernel_rfl) (by rfl) c0 ?_ ?_
          rotate_left
          · ((intro W k0; go_simp) <;> with_reducible rfl)
          simp only [Act.put, List.setIfInBounds_toArray, List.set_cons_zero, List.set_cons_succ]
          refine lex_take (i := 1) (v := ?_) rfl (by kernel_rfl) (by kernel_rfl) (by kernel_rfl) (by rfl) c0 ?_ ?_
          rotate_left
          · ((intro W k0; go_simp) <;> with_reducible rfl)
          simp only [Act.put, List.setIfInBounds_toArray, List.set_cons_zero, List.set_cons_succ]
          refine lex_take (i := 2) (v := ?_) rfl (by kernel_rfl) (by kernel_rfl) (by kernel_rfl) (by rfl) c0 ?_ ?_
          rotate_left
          · ((intro W k0; go_simp) <;> with_reducible rfl)
          simp only [Act.put, List.setIfInBounds_toArray, List.set_cons_zero, List.set_cons_succ]
          refine lex_take (i := 3) (v := ?_) rfl (by kernel_rfl) (by kernel_rfl) (by kernel_rfl) (by rfl) c0 ?_ ?_
          rotate_left
          · ((intro W k0; go_simp) <;> with_reducible rfl)
          simp only [Act.put, List.setIfInBounds_toArray, List.set_cons_zero, List.set_cons_succ]
          refine lex_take (i := 4) (v := ?_) rfl (by kernel_rfl) (by kernel_rfl) (by kernel_rfl) (by rfl) c0 ?_ ?_
          rotate_left
          · ((intro W k0; go_simp) <;> with_reducible rfl)
          simp only [Act.put, List.setIfInBounds_toArray, List.set_cons_zero, List.set_cons_succ]
          refine lex_take (i := 7) (v := ?_) rfl (by kernel_rfl) (by kernel_rfl) (by kernel_rfl) (by rfl) c0 ?_ ?_
          rotate_left
          · ((intro W k0; go_simp) <;> with_reducible rfl)
          simp only [Act.put, List.setIfInBounds_toArray, List.set_cons_zero, List.set_cons_succ]
          refine lex_take (i := 8) (v := ?_) rfl (by kernel_rfl) (by kernel_rfl) (by kernel_rfl) (by rfl) c0 ?_ ?_
          rotate_left
          · ((intro W k0; go_simp) <;> with_reducible rfl)
          simp only [Act.put, List.setIfInBounds_toArray, List.set_cons_zero, List.set_cons_succ]
          refine lex_take (i := 9) (v := ?_) rfl (by kernel_rfl) (by kernel_rfl) (by kernel_rfl) (by rfl) c0 ?_ ?_
          rotate_left
          · ((intro W k0; go_simp) <;> with_reducible rfl)
          simp only [Act.put, List.setIfInBounds_toArray, List.set_cons_zero, List.set_cons_succ]
          refine lex_take (i := 10) (v := ?_) rfl (by kernel_rfl) (by kernel_rfl) (by kernel_rfl) (by rfl) c0 ?_ ?_
          rotate_left
          · ((intro W k0; go_simp) <;> with_reducible rfl)
          simp only [Act.put, List.setIfInBounds_toArray, List.set_cons_zero, List.set_cons_succ]
          refine lex_take (i := 11) (v := ?_) rfl (by kernel_rfl) (by kernel_rfl) (by kernel_rfl) (by rfl) c0 ?_ ?_
          rotate_left
          · ((intro W k0; go_simp) <;> with_reducible rfl)
          simp only [Act.put, List.setIfInBounds_toArray, List.set_cons_zero, List.set_cons_succ]
          refine lex_call (i := 5) rfl (by kernel_rfl) (by rfl) ?_ _ AD.out ?_
          · go_simp
          rintro e w10 ⟨rfl, kv, s2, k2, g2, o2⟩
          have HF1 := Lib.hid (after_add (HK9.out.below (bd _)) g2 (HX9.out.below (bd _)) H2.out (own_hold HR9.out (Hold.below (bd _))) H3.out (HC9.out.below (bd _)) (HY9.out.below (bd _)) HBD.out.1 HBD.out.2.1 HKL.out HBD.out.2.2.2)
          have HB10 := Lib.hid ((HB9.out.trans ((bd w9).mono HB9.out.size)).trans g2.below)
          have HT1 := Lib.hid (two_left H2.out o2 (own_lt (HX9.out.below (bd _)).row))
          have HT2 := Lib.hid (two_left H3.out o2 (own_lt (own_hold HR9.out (Hold.below (bd _)))))
          have HK10 := Lib.hid k2
          have c1 := HCC.out _ HF1.out.2.1
          refine ⟨_, rfl, (fun W : World => W.cell? ⟨gb, go + i, none⟩ = some (.int .i64 x)), fun W h => h, c1, ?_⟩
          simp only [Act.put, List.setIfInBounds_toArray, List.set_cons_zero, List.set_cons_succ]
          clear AD k2 g2 o2 hS c0
          refine lex_call (i := 6) rfl (by kernel_rfl) (by rfl) ?_ _ (num_any ev w10) ?_
          · go_simp
          rintro e w11 ⟨rfl, rfl⟩
          refine ⟨_, rfl, (fun W : World => W.cell? ⟨gb, go + i, none⟩ = some (.int .i64 x)), fun W h => h, c1, ?_⟩
          simp only [Act.put, List.setIfInBounds_toArray, List.set_cons_zero, List.set_cons_succ]
          refine lex_call (i := 12) rfl (by kernel_rfl) (by rfl) ?_ _ (RA.out _ HB10.out HF1.out.1) ?_
          · go_simp
          rintro e w11 ⟨rfl, xv, x2, g2, o2⟩
          have HF2 := Lib.hid (after_radd HK10.out HF1.out.1 g2 HT1.out.flip HF1.out.2.1 H4.out HF1.out.2.2.1 HF1.out.2.2.2 HBD.out.2.2.1 HXL.out HBD.out.2.2.2)
          have HB11 := Lib.hid (HB10.out.trans g2.below)
          have HT3 := Lib.hid (two_left HT1.out.flip o2 (own_lt HK10.out.row)).flip
          have HT4 := Lib.hid (two_left H4.out o2 (own_lt HF1.out.2.1))
          have HX11 := Lib.hid x2
          have c2 := HCC.out _ HF2.out.2.1
          refine ⟨_, rfl, (fun W : World => W.cell? ⟨gb, go + i, none⟩ = some (.int .i64 x)), fun W h => h, c2, ?_⟩
          simp only [Act.put, List.setIfInBounds_toArray, List.set_cons_zero, List.set_cons_succ]
          have TE1 := Lib.hid (tells_any (HP2.out.below HB11.out) (HR2.out.below HB11.out) HF2.out.1 HX11.out)
          clear RA x2 g2 o2 c1 HF1 HB10 HK10
          refine lex_take (i := 13) (v := ?_) rfl (by kernel_rfl) (by kernel_rfl) (by kernel_rfl) (by rfl) c2 ?_ ?_
          rotate_left
          · ((intro W k0; go_simp) <;> with_reducible rfl)
          simp only [Act.put, List.setIfInBounds_toArray, List.set_cons_zero, List.set_cons_succ]
          refine lex_take (i := 14) (v := ?_) rfl (by kernel_rfl) (by kernel_rfl) (by kernel_rfl) (by rfl) c2 ?_ ?_
          rotate_left
          · ((intro W k0; go_simp) <;> with_reducible rfl)
          simp only [Act.put, List.setIfInBounds_toArray, List.set_cons_zero, List.set_cons_succ]
          refine lex_take (i := 15) (v := ?_) rfl (by kernel_rfl) (by kernel_rfl) (by kernel_rfl) (by rfl) c2 ?_ ?_
          rotate_left
          · ((intro W k0; go_simp) <;> with_reducible rfl)
          simp only [Act.put, List.setIfInBounds_toArray, List.set_cons_zero, List.set_cons_succ]
          refine lex_take (i := 16) (v := ?_) rfl (by kernel_rfl) (by kernel_rfl) (by kernel_rfl) (by rfl) c2 ?_ ?_
          rotate_left
          · ((intro W k0; go_simp) <;> with_reducible rfl)
          simp only [Act.put, List.setIfInBounds_toArray, List.set_cons_zero, List.set_cons_succ]
          refine lex_call (i := 17) rfl (by kernel_rfl) (by rfl) ?_ _ TE1.out ?_
          · go_simp
          rintro e w12 ⟨rfl, u12⟩
          have HZ12 := Lib.hid u12
          have c3 := bcellAt u12 c2
          refine ⟨_, rfl, (fun W : World => W.cell? ⟨gb, go + i, none⟩ = some (.int .i64 x)), fun W h => h, c3, ?_⟩
          simp only [Act.put, List.setIfInBounds_toArray, List.set_cons_zero, List.set_cons_succ]
          have HB12 := Lib.hid (HB11.out.trans (u12.mono HB11.out.size))
          have TE2 := Lib.hid (tells_any (HP2.out.below HB12.out) (HR2.out.below HB12.out) (HF2.out.2.2.1.below u12) (HF2.out.2.2.2.below u12))
          clear u12 c2 TE1
          refine lex_take (i := 18) (v := ?_) rfl (by kernel_rfl) (by kernel_rfl) (by kernel_rfl) (by rfl) c3 ?_ ?_
          rotate_left
          · ((intro W k0; go_simp) <;> with_reducible rfl)
          simp only [Act.put, List.setIfInBounds_toArray, List.set_cons_zero, List.set_cons_succ]
          refine lex_take (i := 19) (v := ?_) rfl (by kernel_rfl) (by kernel_rfl) (by kernel_rfl) (by rfl) c3 ?_ ?_
          rotate_left
          · ((intro W k0; go_simp) <;> with_reducible rfl)
          simp only [Act.put, List.setIfInBounds_toArray, List.set_cons_zero, List.set_cons_succ]
          refine lex_take (i := 20) (v := ?_) rfl (by kernel_rfl) (by kernel_rfl) (by kernel_rfl) (by rfl) c3 ?_ ?_
          rotate_left
          · ((intro W k0; go_simp) <;> with_reducible rfl)
          simp only [Act.put, List.setIfInBounds_toArray, List.set_cons_zero, List.set_cons_succ]
          refine lex_take (i := 21) (v := ?_) rfl (by kernel_rfl) (by kernel_rfl) (by kernel_rfl) (by rfl) c3 ?_ ?_
          rotate_left
          · ((intro W k0; go_simp) <;> with_reducible rfl)
          simp only [Act.put, List.setIfInBounds_toArray, List.set_cons_zero, List.set_cons_succ]
          refine lex_take (i := 22) (v := ?_) rfl (by kernel_rfl) (by kernel_rfl) (by kernel_rfl) (by rfl) c3 ?_ ?_
          rotate_left
          · ((intro W k0; go_simp) <;> with_reducible rfl)
          simp only [Act.put, List.setIfInBounds_toArray, List.set_cons_zero, List.set_cons_succ]
          refine lex_take (i := 23) (v := ?_) rfl (by kernel_rfl) (by kernel_rfl) (by kernel_rfl) (by rfl) c3 ?_ ?_
          rotate_left
          · ((intro W k0; go_simp) <;> with_reducible rfl)
          simp only [Act.put, List.setIfInBounds_toArray, List.set_cons_zero, List.set_cons_succ]
          refine lex_take (i := 24) (v := ?_) rfl (by kernel_rfl) (by kernel_rfl) (by kernel_rfl) (by rfl) c3 ?_ ?_
          rotate_left
          · ((intro W k0; go_simp) <;> with_reducible rfl)
          simp only [Act.put, List.setIfInBounds_toArray, List.set_cons_zero, List.set_cons_succ]
          refine lex_take (i := 25) (v := ?_) rfl (by kernel_rfl) (by kernel_rfl) (by kernel_rfl) (by rfl) c3 ?_ ?_
          rotate_left
          · ((intro W k0; go_simp) <;> with_reducible rfl)
          simp only [Act.put, List.setIfInBounds_toArray, List.set_cons_zero, List.set_cons_succ]
          refine lex_take (i := 26) (v := ?_) rfl (by kernel_rfl) (by kernel_rfl) (by kernel_rfl) (by rfl) c3 ?_ ?_
          rotate_left
          · ((intro W k0; go_simp) <;> with_reducible rfl)
          simp only [Act.put, List.setIfInBounds_toArray, List.set_cons_zero, List.set_cons_succ]
          refine lex_call (i := 27) rfl (by kernel_rfl) (by rfl) ?_ _ TE2.out ?_
          · go_simp
          rintro e w13 ⟨rfl, u13⟩
          have HZ := Lib.hid (bmore HZ12.out u13)
          have c4 := bcellAt u13 c3
          refine ⟨_, rfl, (fun W : World => W.cell? ⟨gb, go + i, none⟩ = some (.int .i64 x)), fun W h => h, c4, ?_⟩
          simp only [Act.put, List.setIfInBounds_toArray, List.set_cons_zero, List.set_cons_succ]
          clear u13 c3 TE2
          refine lex_take (i := 28) (v := ?_) rfl (by kernel_rfl) (by kernel_rfl) (by kernel_rfl) (by rfl) c4 ?_ ?_
          rotate_left
          · ((intro W k0; go_simp) <;> with_reducible rfl)
          simp only [Act.put, List.setIfInBounds_toArray, List.set_cons_zero, List.set_cons_succ]
          refine lex_take (i := 29) (v := ?_) rfl (by kernel_rfl) (by kernel_rfl) (by kernel_rfl) (by rfl) c4 ?_ ?_
          rotate_left
          · ((intro W k0; go_simp) <;> with_reducible rfl)
          simp only [Act.put, List.setIfInBounds_toArray, List.set_cons_zero, List.set_cons_succ]
          refine lex_done (by kernel_rfl) ?_
          clear c4
          go_wp2_with fail
          go_roundw
          case rel => exact ⟨i + 1, kv, xv, s2, by go_num, by omega, HB11.out.trans (HZ.out.mono HB11.out.size), by rw [HTK.out, addsG_snoc, hg']; exact HF2.out.1.below HZ.out, by rw [HTK.out, addsG_snoc, hg']; exact HX11.out.below HZ.out, HT3.out, HT2.out, HT4.out, own_hold HF2.out.2.1 (Hold.below HZ.out)⟩
          case measure => simp [intOf] <;> omega
        · obtain rfl : i = G.length := by omega
          have TE := Lib.hid (tells_any (HP2.out.below HB.out) (HR2.out.below HB.out) HK5.out HX5.out)
          clear hlt
          go_wp2_with fail
          refine TE.out.mono ?_
          rintro e w7 ⟨rfl, u7⟩
          have HB7 := Lib.hid (HB.out.trans (u7.mono HB.out.size))
          have LV := Lib.hid (live_any (HL.out.below (bmore HU2.out HB7.out)))
          clear u7 TE
          go_wp2_with fail
          refine LV.out.mono ?_
          rintro e w8 ⟨rfl, u8⟩
          have HU9 := Lib.hid (bmore (bmore HU2.out HB7.out) u8)
          clear u8
          go_wp2_with fail
          go_returns
          exact ⟨rfl, HU9.out⟩
end Go.Proofs.YtgaklaajbepfaaaGreatDoor
namespace Go.Proofs.YtgaklaajbepfaaaGreatDoor
open Go Go.ChangeShapes Go.WideShapes Go.ChangeAt Go.RowKit
set_option linter.unusedVariables false

set_option maxRecDepth 100000 in
/-- What the walk gives, for every argument. -/
theorem dplays_contract (H : Type) (enc : TypeId × Value → H) (W : World) (base : Nat) (args : Array Value) (ds gs : List (DataW H)) (before : List MemPlace)
    (hval0 : ∀ (j : Nat) t v, Tryz.f3.params[j]? = some t → args[j]? = some v → Value.okWide Tryz.prog W .any base t v)
    (hW : DataW.Whole enc Tryz.prog Tryz.f3.params.toList Rows.deducePlaysSpec.vars false W args.toList ds gs before) (hL : laidMetH Tryz.prog laidL W) :
    Calls Tryz.prog 3 args W fun e W' => ∃ v, e = .returned v ∧ Rows.deducePlaysSpec.post enc Tryz.prog Tryz.f3 false true false false W args v W' := by
  have hval : ∀ (j : Nat) t v, Tryz.f3.params[j]? = some t → args[j]? = some v → Value.okWide Tryz.prog W .any base t v := hval0
  have hW' := hW
  obtain ⟨p, q, hA0, hV, rfl, hfz, hnd⟩ := hW
  have hA : DataW.TrodAll enc Tryz.prog W 0 (fun _ => true) true Tryz.f3.params.toList args.toList ds p := hA0
  rw [Tryz.params3] at hA hval
  obtain ⟨v0, vs0, d0, ds0, p0, q0, hargs0, rfl, rfl, h0, r0⟩ := trodAll_cons hA
  obtain ⟨v1, vs1, d1, ds1, p1, q1, hargs1, rfl, rfl, h1, r1⟩ := trodAll_cons r0
  obtain ⟨rfl, rfl, rfl⟩ := trodAll_nil r1
  subst hargs1
  obtain rfl : args = #[v0, v1] := by cases args; simp_all
  obtain ⟨rfl, rfl⟩ := trodVars_none hV
  have hv0 := hval 0 22 v0 rfl rfl
  have hc0 : Cell.okWide Tryz.prog W .any base 22 v0 := by simpa only [Value.okWide, Tryz.underlying22] using hv0
  obtain ⟨a0, c0, n0, e0⟩ := okWide_slice Tryz.underlying22 hv0
  obtain ⟨fuel0, hf0⟩ := id h0
  rw [show v0.cells.toList = [v0] by rw [e0]; rfl] at hf0
  obtain ⟨l0, rl0, hs0⟩ := open_trees hc0 hf0
  have hv1 := hval 1 23 v1 rfl rfl
  have hc1 : Cell.okWide Tryz.prog W .any base 23 v1 := by simpa only [Value.okWide, Tryz.underlying23] using hv1
  obtain ⟨a1, c1, n1, e1⟩ := okWide_slice Tryz.underlying23 hv1
  obtain ⟨fuel1, hf1⟩ := id h1
  rw [show v1.cells.toList = [v1] by rw [e1]; rfl] at hf1
  obtain ⟨l1, rl1, hs1⟩ := open_terms hc1 hf1
  have HL := of_laid hL
  clear hA0 hval0 hL
  simp only [List.append_nil] at hW'
  refine (plays_walk HL rl0 hs0 rl1 hs1).mono fun e W' ⟨he, bel⟩ => ?_
  subst he
  exact ⟨_, rfl, _, _, _, [], _, [], hW', trodAll_mk1 (shut_bool Tryz.underlying4 _), (trodAll_cons_mk (Below.trod laidOut (by kernel_rfl) (of_decide_eq_true (by kernel_rfl)) h0 bel (places_lt h0)) (trodAll_cons_mk (Below.trod laidOut (by kernel_rfl) (of_decide_eq_true (by kernel_rfl)) h1 bel (places_lt h1)) trodAll_mk0)), rfl, bel.frame _, fun h => by cases h⟩

set_option maxRecDepth 100000 in
theorem dplays_lifted (os : Os) (started : os.Started) (H : Type) (enc : TypeId × Value → H) :
    ReturnsInHanded {} Tryz.checked os 3 .any (fun w args => (Rows.deducePlaysSpec.pre enc Tryz.prog Tryz.f3 [] false w args ∧ laidMetH Tryz.prog laidL w) ∧ sizedMet enc Tryz.prog Tryz.f3 (OpenSpec.ofChange Rows.deducePlaysSpec) false w args)
      (Rows.deducePlaysSpec.post enc Tryz.prog Tryz.f3 false true false false) := by
  refine returnsInHanded_of_change_and (C := Tryz.checked) (X := fun w _ => laidMetH Tryz.prog laidL w) (fun _ _ _ hh h => h.of_heap hh) own started (by kernel_rfl) Tryz.func3
    (ChangeSpec.witness_shaped (enc := enc) (C := Tryz.checked) (os := os) (X := fun w _ => laidMetH Tryz.prog laidL w) false (World.doorLaid Tryz.prog 400 os) #[.slice none 0 0, .slice none 0 0] 8 rfl (World.shaped_of_RefB (by kernel_rfl) (by kernel_rfl)) (by kernel_rfl) (by kernel_rfl) (by kernel_rfl) (door_met os _)) ?_
  intro W base args ds gs before hval hW _ _ hL _
  exact dplays_contract H enc W base args ds gs before hval hW hL

/-- The row's statement. -/
theorem dplays_holds : Rows.DeducePlaysSaid :=
  OpenClaim.holds_of_wide 3 Tryz.f3 rfl rfl rfl rfl rfl rfl rfl ⟨rfl, rfl, rfl, rfl, rfl⟩ rfl rfl rfl rfl rfl (by kernel_rfl) Tryz.func3 (by kernel_rfl)
    (of_decide_eq_true (by kernel_rfl)) (by unfold Func.isWrapper; first | (rw [if_pos (by decide +kernel)]; kernel_rfl) | (rw [if_neg (by decide +kernel)]; exact ⟨rfl, rfl⟩))
    (fun os started H enc _ => dplays_lifted os started H enc)

/-- The card. -/
theorem dplays_card : Rows.DeducePlaysCardSaid :=
  Claim7.holds_tied_plain_at .later [] [.data] true _ true
    dplays_holds (fun _ h => by cases h) (by kernel_rfl) (fun _ h => by cases h) deducePlays_row_tie rfl ⟨rfl, rfl⟩ (by kernel_rfl) rfl
    (fun f fn hf hfn => by
      obtain rfl : f = 3 := Option.some.inj ((show Tryz.prog.funcNamed "escrow/escrowlaw08.DeducePlays" = some 3 by kernel_rfl).symm.trans hf) |>.symm
      obtain rfl : fn = Tryz.f3 := (Option.some.inj (Tryz.func3.symm.trans hfn)).symm
      exact ⟨by kernel_rfl, fun j t ht => by
        rw [Tryz.params3] at ht
        have hm : t ∈ [22, 23] := by simpa using Array.mem_of_getElem? ht
        have hall : ([22, 23].all fun u => !Tryz.prog.wantsStandIn u) = true := by kernel_rfl
        exact (show Tryz.prog.wantsStandIn t = false by simpa using List.all_eq_true.1 hall t hm)⟩)
    (by kernel_rfl)
#print axioms dplays_card
end Go.Proofs.YtgaklaajbepfaaaGreatDoor
