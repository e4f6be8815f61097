/-
  The program's pool beside what the document's turns.
  The law's wide, pools.
  The law's own walk: EvidenceOrder.
-/
import Derived.Laws.AppendOwnNone
import Derived.Maps.AppendAt
import Derived.IntWalk
import Derived.Test.YtjmcaceegfdkkaaGreatDoorQcTROf
import Derived.Test.YtjmcaceegfdkkaaGreatDoorQcEDocP
import Derived.Test.YtjmcaceegfdkkaaGreatDoorQcTRefP
import Derived.Test.YtjmcaceegfdkkaaGreatDoorQcFCpm
import Derived.Test.YtjmcaceegfdkkaaGreatDoorQcLProm
import Derived.Test.YtjmcaceegfdkkaaGreatDoorQcFMorP
import Derived.Test.YtjmcaceegfdkkaaGreatDoorQcTKey
import Derived.Test.YtjmcaceegfdkkaaGreatDoorQcTLent
import Derived.Test.YtjmcaceegfdkkaaGreatDoorQcFLiv
import Derived.Test.YtjmcaceegfdkkaaGreatDoorQcTChain
namespace Go.Proofs.YtjmcaceegfdkkaaGreatDoor
open Go.RowKit Go.Maps
set_option linter.unusedVariables false
section
variable {w : World} {B a b : Nat} {v : Value} {p : Pl} {a2 : Nat} {vl vs vd : Value} {q : Pl}
theorem IsPool.rmost (h : IsPool w B a b v p) {w' : World} {vl' : Value} (hg : RMostV w B vl w' vl') : IsPool w' B a b v p := by
 obtain ⟨D, ⟨es, clock, hb, h4⟩, h3⟩ := h.dict
 exact ⟨hg.2.1 _ _ h.lay (other_of (by decide) (by decide) (by decide)), h.ga, h.gb, own_hold h.row (hg.hold (by decide) (by decide) (by decide)), ⟨D, ⟨es, clock, hg.2.1 _ _ hb (fun _ _ _ e => by cases e), h4⟩, h3⟩, h.ok, h.nok⟩
end
end Go.Proofs.YtjmcaceegfdkkaaGreatDoor
namespace Go.Proofs.YtjmcaceegfdkkaaGreatDoor
open Go.RowKit Go.Maps
set_option linter.unusedVariables false
set_option maxRecDepth 100000 in
set_option maxHeartbeats 6400000 in
theorem wide_any {w : World} {fo : Fo} {vn : Value} (hk : IsK w (fun b => b < w.heap.size) vn fo) : Calls Tryz.prog 13 #[vn] w fun e w' => (∃ q, e = .returned (.bool q) ∧ (q = false → fo.len ≤ 10 ∧ fo.size < 500)) ∧ Below w.heap.size w w' := by
 have hlen := hk.small
 unfold maxLen at hlen
 obtain ⟨av, cv, rfl, hx⟩ := hk.shape
 have HX := Lib.hid hx
 clear hk hx
 go_enter Tryz.func13, Tryz.ntmps13
 go_wp2_with fail
 go_loopw [3, 4] (fun v3 v4 wr => ∃ (i nn : Nat) (r : Fo), v3 = .int .i64 (nn : Int) ∧ v4 = .int .i64 (i : Int) ∧ i + r.len = fo.len ∧ i ≤ 11 ∧ nn < 500 ∧ nn + r.size = fo.size ∧ (0 < r.len → ∃ b o, av = some ⟨b, o, none⟩ ∧ b < w.heap.size ∧ AtF w (fun b => b < w.heap.size) r b (o + i * 6)) ∧ Below w.heap.size w wr) (fun _ v _ => fo.len - (intOf v).toNat)
 case atStart => exact ⟨0, 0, fo, rfl, rfl, by omega, by omega, by omega, by omega, fun hp => by obtain ⟨b, o, q1, q2, q3⟩ := HX.out hp; exact ⟨b, o, q1, q2, by simpa using q3⟩, Below.refl _ _⟩
 case round =>
  obtain ⟨i, nn, r, rfl, rfl, hi, h13, hnn, hsz, hat, hbr⟩ := hrel
  have HBR := Lib.hid hbr
  have HSZ := Lib.hid hsz
  clear hbr HX hsz
  by_cases hlt : 0 < r.len
  ·have hi0 : (0 : Int) ≤ (i : Int) := by omega
   have hi1 : (i : Int) < (fo.len : Int) := by omega
   by_cases h12 : i ≤ 10
   ·obtain ⟨n', kd, rr, rfl⟩ := fo_pos hlt
    simp only [Fo.len] at hi
    obtain ⟨b, o, rfl, hbw, hat'⟩ := hat hlt
    obtain ⟨c0, c1, c2, c3, c4, v', c5, hk', hat2⟩ := hat'.cons
    obtain ⟨av2, cv2, rfl, _⟩ := hk'.shape
    have HAT := Lib.hid hat2
    have e0 := bcellAt HBR.out c0
    have e1 := bcellAt HBR.out c1
    have e2 := bcellAt HBR.out c2
    have e3 := bcellAt HBR.out c3
    have e4 := bcellAt HBR.out c4
    have e5 := bcellAt HBR.out c5
    have PA := Lib.hid (parts_any n' kd _ (.slice av2 kd.len cv2) 500 (hk'.below HBR.out) (by omega) (by omega))
    have hpb := partsL_bd kd 1 500 (by omega)
    have HPS := Lib.hid (partsL_size kd 1 500 (by omega))
    generalize partsL kd 1 500 = pp at *
    obtain ⟨np, rfl⟩ := Int.eq_ofNat_of_zero_le (show 0 ≤ pp by omega)
    have hi2 : (i : Int) ≤ 10 := by omega
    obtain ⟨k1, f1, t1, n1, s1, y1, z1⟩ := n'
    simp only [treeA] at *
    clear hat hat' hat2 hk' c0 c1 c2 c3 c4 c5
    have hs1 : np ≤ 501 := by omega
    clear hpb
    go_wp2_with fail
    refine PA.out.mono ?_
    rintro e w4 ⟨rfl, u4⟩
    have HB4 := Lib.hid (bmore HBR.out u4)
    clear u4 e0 e1 e2 e3 e4 e5 PA
    have hw1 : wrap64 ((nn : Int) + (np : Int)) = ((nn + np : Nat) : Int) := by unfold wrap64; omega
    by_cases hbig : 500 ≤ nn + np
    ·have hb1 : (500 : Int) ≤ ((nn + np : Nat) : Int) := by omega
     go_wp2_with fail
     go_returns
     exact ⟨⟨true, rfl, fun h => by cases h⟩, HB4.out⟩
    ·have hb1 : decide ((500 : Int) ≤ ((nn + np : Nat) : Int)) = false := decide_eq_false (by omega)
     go_wp2_with fail
     go_roundw
     case rel => exact ⟨i + 1, nn + np, rr, rfl, by go_num, by omega, by omega, by omega, by have h9 := HSZ.out; have := HPS.out (by omega); simp only [Fo.size] at h9; omega, fun _ => ⟨b, o, rfl, hbw, by rw [show o + (i + 1) * 6 = o + i * 6 + 6 by omega]; exact HAT.out⟩, HB4.out⟩
     case measure => simp [intOf]; omega
   ·have hi2 : decide ((i : Int) ≤ 10) = false := decide_eq_false (by omega)
    have hl2 : (10 : Int) < (fo.len : Int) := by omega
    clear hat
    go_wp2_with fail
    go_returns
    exact ⟨⟨true, rfl, fun h => by cases h⟩, HBR.out⟩
  ·obtain rfl := fo_nil (show r.len = 0 by omega)
   simp only [Fo.len, Nat.add_zero] at hi
   simp only [Fo.size, Nat.add_zero] at HSZ
   subst hi
   clear hat hlt
   by_cases h12 : 10 < fo.len
   ·have hl2 : (10 : Int) < (fo.len : Int) := by omega
    go_wp2_with fail
    go_returns
    exact ⟨⟨true, rfl, fun h => by cases h⟩, HBR.out⟩
   ·have hl2 : decide ((10 : Int) < (fo.len : Int)) = false := decide_eq_false (by omega)
    go_wp2_with fail
    go_returns
    exact ⟨⟨false, rfl, fun _ => ⟨by omega, by have := HSZ.out; omega⟩⟩, HBR.out⟩
def PoolsPost (w : World) (m : Nat) (e : Ending) (w' : World) : Prop :=
 ∃ (pa b ra : Nat) (vv rl rs rd : Value) (q : Pl), e = .returned (.tuple #[.pointer (some ⟨pa, 0, none⟩), .pointer (some ⟨ra, 0, none⟩), .bool true]) ∧ IsPool w' w.heap.size pa b vv q ∧ IsRef w' w.heap.size ra rl rs rd q ∧ Below w.heap.size w w' ∧ q.length ≤ m
set_option maxRecDepth 100000 in
set_option maxHeartbeats 25600000 in
theorem pools_any {w : World} (hl : Laid w) {fo : Fo} {vn : Value} (hk : IsK w (fun b => b < w.heap.size) vn fo) (hok : OkF fo) (hsz : fo.size ≤ 6000) (hln : fo.len ≤ 100) : Calls Tryz.prog 15 #[vn] w (PoolsPost w fo.size) := by
 obtain ⟨av, cv, rfl, hx⟩ := hk.shape
 have HX := Lib.hid hx
 have HL := Lib.hid hl
 have HOK := Lib.hid hok
 have HBG := Lib.hid hl.lt
 clear hk hl hok hx
 go_enter Tryz.func15, Tryz.ntmps15
 go_wp2_with fail
 refine (pnew w).mono ?_
 rintro e w2 ⟨rfl, p2, u2⟩
 have HA2 := Lib.hid u2
 have HP2 := Lib.hid p2
 clear u2 p2
 generalize w.heap.size + 1 = pa at *
 go_wp2_with fail
 refine (rnew w2 w.heap.size HA2.out.size).mono ?_
 rintro e w3 ⟨rfl, r3, u3⟩
 have HP3 := Lib.hid (HP2.out.below u3)
 have HA3 := Lib.hid (bmore HA2.out u3)
 have HR3 := Lib.hid r3
 clear u3 r3 HP2 HA2
 generalize w2.heap.size = ra at *
 go_wp2_with fail
 go_loopw [7] (fun v9 wr => ∃ (i : Nat) (r : Fo) (vv rl rs rd : Value) (q : Pl), v9 = .int .i64 (i : Int) ∧ i + r.len = fo.len ∧ q.length + r.size ≤ fo.size ∧ OkF r ∧ (0 < r.len → ∃ b o, av = some ⟨b, o, none⟩ ∧ b < w.heap.size ∧ AtF w (fun b => b < w.heap.size) r b (o + i * 6)) ∧ Below w.heap.size w wr ∧ IsPool wr w.heap.size pa w.heap.size vv q ∧ IsRef wr w.heap.size ra rl rs rd q) (fun v _ => fo.len - (intOf v).toNat)
 case atStart => exact ⟨0, fo, _, _, _, _, [], rfl, by omega, by simp, HOK.out, fun hp => by obtain ⟨b, o, q1, q2, q3⟩ := HX.out hp; exact ⟨b, o, q1, q2, by simpa using q3⟩, HA3.out, HP3.out, HR3.out⟩
 case round =>
  clear HP3 HA3 HR3 HX
  obtain ⟨i, r, vv, rl, rs, rd, q, rfl, hi, hqs, hokr, hat, hbr, hp, hq⟩ := hrel
  have HP := Lib.hid hp
  have HQ := Lib.hid hq
  have HBR := Lib.hid hbr
  clear hp hq hbr
  by_cases hlt : 0 < r.len
  ·obtain ⟨n', kd, rr, rfl⟩ := fo_pos hlt
   simp only [Fo.len] at hi
   simp only [Fo.size] at hqs
   obtain ⟨b, o, rfl, hbw, hat'⟩ := hat hlt
   obtain ⟨c0, c1, c2, c3, c4, v', c5, hk', hat2⟩ := hat'.cons
   obtain ⟨av2, cv2, rfl, _⟩ := hk'.shape
   obtain ⟨ok1, ok2, ok3, ok4, ok5⟩ := hokr
   have hgood := ofP_ok n' kd q HP.out.ok ⟨ok2, ok3, ok4.bare, trivial⟩ (by simp only [Fo.size]; omega)
   have hroom : (lkT n' kd 0 0).2 = 0 → (grT n' kd q).2.1 = 0 := fun h => (grT_good n' kd q HP.out.ok (lkT_good h).1 ⟨ok2, ok3, ok4.bare, trivial⟩ (lkT_good h).2.1 (lkT_good h).2.2 (by simp only [Fo.size]; omega)).1
   have HOF := Lib.hid (fun (W : World) (h1 : Laid W) (h2 : IsPool W w.heap.size pa w.heap.size vv q) (h3 : IsK W (Safe W w.heap.size) (.slice av2 kd.len cv2) kd) => pof HBG.out h1 h2 h3 ok1 ok2 ok3 ok4 hroom)
   have HRO := Lib.hid (fun (W : World) (h2 : IsRef W w.heap.size ra rl rs rd q) (h3 : IsK W (Safe W w.heap.size) (.slice av2 kd.len cv2) kd) => rof h2 h3 ok1 ok2 ok3 ok4 hroom)
   have HSZ : Hid ((ofP n' kd q).2.2.length + rr.size ≤ fo.size) := Lib.hid (by
    rcases hgood with ⟨_, h⟩ | ⟨_, _, h3, _, _, e, h6, h7⟩
    ·rw [h]; simp only; omega
    ·rw [h3, h6]
     simp only [Fo.size] at h7
     simp; omega)
   have HAT := Lib.hid hat2
   have HKW := Lib.hid hk'
   have HOKR := Lib.hid ok5
   clear hgood hroom hat hat' hat2 hk' ok1 ok2 ok3 ok4 ok5
   generalize ofP n' kd q = oq at *
   obtain ⟨o1, o2, q2⟩ := oq
   have hoo : (o1 != o1) = false := by simp
   have hee : (o2 != o2) = false := by simp
   obtain ⟨k1, f1, t1, n1, s1, y1, z1⟩ := n'
   simp only [treeA] at *
   have e0 := bcellAt HBR.out c0
   have e1 := bcellAt HBR.out c1
   have e2 := bcellAt HBR.out c2
   have e3 := bcellAt HBR.out c3
   have e4 := bcellAt HBR.out c4
   have e5 := bcellAt HBR.out c5
   have hi0 : (0 : Int) ≤ (i : Int) := by omega
   have hi1 : (i : Int) < (fo.len : Int) := by omega
   have hkl := (HKW.out.below HBR.out).keep (G' := Safe wr w.heap.size) (fun b hb _ => ⟨.inl hb, rfl⟩)
   have HKL := Lib.hid hkl
   clear hkl
   go_wp2_with fail
   refine (HOF.out wr (HL.out.below HBR.out) HP.out HKL.out).mono ?_
   rintro e w6 ⟨rfl, g6⟩
   have HQ6 := Lib.hid (IsRef.grew HP.out HQ.out g6)
   obtain ⟨u6, _, v6, p6, _⟩ := g6
   have HA6 := Lib.hid (HBR.out.trans u6)
   have HP6 := Lib.hid p6
   have hkl := (HKW.out.below HA6.out).keep (G' := Safe w6 w.heap.size) (fun b hb _ => ⟨.inl hb, rfl⟩)
   have HKL6 := Lib.hid hkl
   clear u6 p6 hkl e0 e1 e2 e3 e4 e5
   have e0 := bcellAt HA6.out c0
   have e1 := bcellAt HA6.out c1
   have e2 := bcellAt HA6.out c2
   have e3 := bcellAt HA6.out c3
   have e4 := bcellAt HA6.out c4
   have e5 := bcellAt HA6.out c5
   go_wp2_with fail
   refine (HRO.out w6 HQ6.out HKL6.out).mono ?_
   rintro e w7 ⟨rfl, x1, x2, x3, r7, m7⟩
   have HP7 := Lib.hid (IsPool.rmost HP6.out m7)
   have HA7 := Lib.hid (HA6.out.trans m7.1)
   have HQ7 := Lib.hid r7
   clear m7 r7 e0 e1 e2 e3 e4 e5 c0 c1 c2 c3 c4 c5
   go_wp2_with fail
   refine (num12_any o2 w7).mono ?_
   rintro e w8 ⟨rfl, rfl⟩
   go_wp2_with fail
   go_roundw
   case rel => exact ⟨i + 1, rr, _, _, _, _, q2, by go_num, by omega, HSZ.out, HOKR.out, fun _ => ⟨b, o, rfl, hbw, by rw [show o + (i + 1) * 6 = o + i * 6 + 6 by omega]; exact HAT.out⟩, HA7.out, HP7.out, HQ7.out⟩
   case measure => simp [intOf]; omega
  ·obtain rfl := fo_nil (show r.len = 0 by omega)
   simp only [Fo.len, Nat.add_zero] at hi
   subst hi
   clear hat hlt
   go_wp2_with fail
   go_returns
   exact ⟨pa, w.heap.size, ra, vv, rl, rs, rd, q, rfl, HP.out, HQ.out, HBR.out, by simp only [Fo.size] at hqs; omega⟩
end Go.Proofs.YtjmcaceegfdkkaaGreatDoor
namespace Go.Proofs.YtjmcaceegfdkkaaGreatDoor
open Go.RowKit Go.Maps
set_option linter.unusedVariables false
theorem CmpW.below {x y : Fc} {w w' : World} (h : CmpW x y w w') : Below w.heap.size w w' := by
 obtain ⟨o, rfl⟩ := h
 exact bmore (bmore (bmore (bZ _ _) (bZ _ _)) (bZ _ _)) (bd _)
end Go.Proofs.YtjmcaceegfdkkaaGreatDoor
