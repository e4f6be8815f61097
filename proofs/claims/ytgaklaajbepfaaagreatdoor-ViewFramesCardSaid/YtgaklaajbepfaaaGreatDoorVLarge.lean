/-
  The law's wide, pools.
  A list of terms, and the law's Lists, as arguments.
  Whether two lists are the same; whether Lists is too large.
-/
import Derived.Test.YtgaklaajbepfaaaGreatDoorVBase
import Derived.Test.YtgaklaajbepfaaaGreatDoorTLive
import Derived.Test.YtgaklaajbepfaaaGreatDoorTBeside
import Derived.Test.YtgaklaajbepfaaaGreatDoorTOf
import Derived.Test.YtgaklaajbepfaaaGreatDoorTParts
import Derived.Test.YtgaklaajbepfaaaGreatDoorTMet
import Derived.Test.YtgaklaajbepfaaaGreatDoorTRefP
import Derived.Test.YtgaklaajbepfaaaGreatDoorTFor
import Derived.ChangeSlices
import Derived.Test.YtgaklaajbepfaaaGreatDoorTRSub
import Derived.Deep.QuietTactic
import Derived.BigQuiet
namespace Go.Proofs.YtgaklaajbepfaaaGreatDoor
open Go.RowKit Go.Maps
set_option linter.unusedVariables false

set_option maxRecDepth 100000 in
set_option maxHeartbeats 6400000 in
theorem wide_any {w : World} {fo : Fo} {vn : Value} (hk : IsK w (fun b => b < w.heap.size) vn fo) : Calls Tryz.prog 15 #[vn] w fun e w' => (∃ q, e = .returned (.bool q) ∧ (q = false → fo.len ≤ 10 ∧ fo.size < 400)) ∧ Below w.heap.size w w' := by
  have hlen := hk.small
  unfold maxLen at hlen
  obtain ⟨av, cv, rfl, hx⟩ := hk.shape
  have HX := Lib.hid hx
  clear hk hx
  go_enter Tryz.func15, Tryz.ntmps15
  go_wp2_with fail
  go_loopw [3, 4] (fun v3 v4 wr => ∃ (i nn : Nat) (r : Fo), v3 = .int .i64 (nn : Int) ∧ v4 = .int .i64 (i : Int) ∧ i + r.len = fo.len ∧ i ≤ 13 ∧ nn < 400 ∧ nn + r.size = fo.size ∧ (0 < r.len → ∃ b o, av = some ⟨b, o, none⟩ ∧ b < w.heap.size ∧ AtF w (fun b => b < w.heap.size) r b (o + i * 6)) ∧ Below w.heap.size w wr) (fun _ v _ => fo.len - (intOf v).toNat)
  case atStart => exact ⟨0, 0, fo, rfl, rfl, by omega, by omega, by omega, by omega, fun hp => by obtain ⟨b, o, q1, q2, q3⟩ := HX.out hp; exact ⟨b, o, q1, q2, by simpa using q3⟩, Below.refl _ _⟩
  case round =>
    obtain ⟨i, nn, r, rfl, rfl, hi, h13, hnn, hsz, hat, hbr⟩ := hrel
    have HBR := Lib.hid hbr
    have HSZ := Lib.hid hsz
    clear hbr HX hsz
    by_cases hlt : 0 < r.len
    · have hi0 : (0 : Int) ≤ (i : Int) := by omega
      have hi1 : (i : Int) < (fo.len : Int) := by omega
      by_cases h12 : i ≤ 10
      · obtain ⟨n', kd, rr, rfl⟩ := fo_pos hlt
        simp only [Fo.len] at hi
        obtain ⟨b, o, rfl, hbw, hat'⟩ := hat hlt
        obtain ⟨c0, c1, c2, c3, c4, v', c5, hk', hat2⟩ := hat'.cons
        obtain ⟨av2, cv2, rfl, _⟩ := hk'.shape
        have HAT := Lib.hid hat2
        have e0 := bcellAt HBR.out c0
        have e1 := bcellAt HBR.out c1
        have e2 := bcellAt HBR.out c2
        have e3 := bcellAt HBR.out c3
        have e4 := bcellAt HBR.out c4
        have e5 := bcellAt HBR.out c5
        have PA := Lib.hid (parts_any n' kd _ (.slice av2 kd.len cv2) 400 (hk'.below HBR.out) (by omega) (by omega))
        have hpb := partsL_bd kd 1 400 (by omega)
        have HPS := Lib.hid (partsL_size kd 1 400 (by omega))
        generalize partsL kd 1 400 = pp at *
        obtain ⟨np, rfl⟩ := Int.eq_ofNat_of_zero_le (show 0 ≤ pp by omega)
        have hi2 : (i : Int) ≤ 10 := by omega
        obtain ⟨k1, f1, t1, n1, s1, y1, z1⟩ := n'
        simp only [treeA] at *
        clear hat hat' hat2 hk' c0 c1 c2 c3 c4 c5
        have hs1 : np ≤ 401 := by omega
        clear hpb
        go_wp2_with fail
        refine PA.out.mono ?_
        rintro e w4 ⟨rfl, u4⟩
        have HB4 := Lib.hid (bmore HBR.out u4)
        clear u4 e0 e1 e2 e3 e4 e5 PA
        have hw1 : wrap64 ((nn : Int) + (np : Int)) = ((nn + np : Nat) : Int) := by unfold wrap64; omega
        by_cases hbig : 400 ≤ nn + np
        · have hb1 : (400 : Int) ≤ ((nn + np : Nat) : Int) := by omega
          go_wp2_with fail
          go_returns
          exact ⟨⟨true, rfl, fun h => by cases h⟩, HB4.out⟩
        · have hb1 : decide ((400 : Int) ≤ ((nn + np : Nat) : Int)) = false := decide_eq_false (by omega)
          go_wp2_with fail
          go_roundw
          case rel => exact ⟨i + 1, nn + np, rr, rfl, by go_num, by omega, by omega, by omega, by have h9 := HSZ.out; have := HPS.out (by omega); simp only [Fo.size] at h9; omega, fun _ => ⟨b, o, rfl, hbw, by rw [show o + (i + 1) * 6 = o + i * 6 + 6 by omega]; exact HAT.out⟩, HB4.out⟩
          case measure => simp [intOf]; omega
      · have hi2 : decide ((i : Int) ≤ 10) = false := decide_eq_false (by omega)
        have hl2 : (10 : Int) < (fo.len : Int) := by omega
        clear hat
        go_wp2_with fail
        go_returns
        exact ⟨⟨true, rfl, fun h => by cases h⟩, HBR.out⟩
    · obtain rfl := fo_nil (show r.len = 0 by omega)
      simp only [Fo.len, Nat.add_zero] at hi
      simp only [Fo.size, Nat.add_zero] at HSZ
      subst hi
      clear hat hlt
      by_cases h12 : 10 < fo.len
      · have hl2 : (10 : Int) < (fo.len : Int) := by omega
        go_wp2_with fail
        go_returns
        exact ⟨⟨true, rfl, fun h => by cases h⟩, HBR.out⟩
      · have hl2 : decide ((10 : Int) < (fo.len : Int)) = false := decide_eq_false (by omega)
        go_wp2_with fail
        go_returns
        exact ⟨⟨false, rfl, fun _ => ⟨by omega, by have := HSZ.out; omega⟩⟩, HBR.out⟩

/-- What pools answers: the two pools, alike. -/
def PoolsPost (w : World) (m : Nat) (e : Ending) (w' : World) : Prop :=
  ∃ (pa b ra : Nat) (vv rl rs rd : Value) (q : Pl), e = .returned (.tuple #[.pointer (some ⟨pa, 0, none⟩), .pointer (some ⟨ra, 0, none⟩), .bool true]) ∧ IsPool w' w.heap.size pa b vv q ∧ IsRef w' w.heap.size ra rl rs rd q ∧ Below w.heap.size w w' ∧ q.length ≤ m
set_option maxRecDepth 100000 in
set_option maxHeartbeats 25600000 in
theorem pools_any {w : World} (hl : Laid w) {fo : Fo} {vn : Value} (hk : IsK w (fun b => b < w.heap.size) vn fo) (hok : OkF fo) (hsz : fo.size ≤ 6000) (hln : fo.len ≤ 100) : Calls Tryz.prog 17 #[vn] w (PoolsPost w fo.size) := by
  obtain ⟨av, cv, rfl, hx⟩ := hk.shape
  have HX := Lib.hid hx
  have HL := Lib.hid hl
  have HOK := Lib.hid hok
  have HBG := Lib.hid hl.lt
  clear hk hl hok hx
  go_enter Tryz.func17, Tryz.ntmps17
  go_wp2_with fail
  refine (pnew w).mono ?_
  rintro e w2 ⟨rfl, p2, u2⟩
  have HA2 := Lib.hid u2
  have HP2 := Lib.hid p2
  clear u2 p2
  generalize w.heap.size + 1 = pa at *
  go_wp2_with fail
  refine (rnew w2 w.heap.size HA2.out.size).mono ?_
  rintro e w3 ⟨rfl, r3, u3⟩
  have HP3 := Lib.hid (HP2.out.below u3)
  have HA3 := Lib.hid (bmore HA2.out u3)
  have HR3 := Lib.hid r3
  clear u3 r3 HP2 HA2
  generalize w2.heap.size = ra at *
  go_wp2_with fail
  go_loopw [7] (fun v9 wr => ∃ (i : Nat) (r : Fo) (vv rl rs rd : Value) (q : Pl), v9 = .int .i64 (i : Int) ∧ i + r.len = fo.len ∧ q.length + r.size ≤ fo.size ∧ OkF r ∧ (0 < r.len → ∃ b o, av = some ⟨b, o, none⟩ ∧ b < w.heap.size ∧ AtF w (fun b => b < w.heap.size) r b (o + i * 6)) ∧ Below w.heap.size w wr ∧ IsPool wr w.heap.size pa w.heap.size vv q ∧ IsRef wr w.heap.size ra rl rs rd q) (fun v _ => fo.len - (intOf v).toNat)
  case atStart => exact ⟨0, fo, _, _, _, _, [], rfl, by omega, by simp, HOK.out, fun hp => by obtain ⟨b, o, q1, q2, q3⟩ := HX.out hp; exact ⟨b, o, q1, q2, by simpa using q3⟩, HA3.out, HP3.out, HR3.out⟩
  case round =>
    clear HP3 HA3 HR3 HX
    obtain ⟨i, r, vv, rl, rs, rd, q, rfl, hi, hqs, hokr, hat, hbr, hp, hq⟩ := hrel
    have HP := Lib.hid hp
    have HQ := Lib.hid hq
    have HBR := Lib.hid hbr
    clear hp hq hbr
    by_cases hlt : 0 < r.len
    · obtain ⟨n', kd, rr, rfl⟩ := fo_pos hlt
      simp only [Fo.len] at hi
      simp only [Fo.size] at hqs
      obtain ⟨b, o, rfl, hbw, hat'⟩ := hat hlt
      obtain ⟨c0, c1, c2, c3, c4, v', c5, hk', hat2⟩ := hat'.cons
      obtain ⟨av2, cv2, rfl, _⟩ := hk'.shape
      obtain ⟨ok1, ok2, ok3, ok4, ok5⟩ := hokr
      have hgood := ofP_ok n' kd q HP.out.ok ⟨ok2, ok3, ok4.bare, trivial⟩ (by simp only [Fo.size]; omega)
      have hroom : (lkT n' kd 0 0).2 = 0 → (grT n' kd q).2.1 = 0 := fun h => (grT_good n' kd q HP.out.ok (lkT_good h).1 ⟨ok2, ok3, ok4.bare, trivial⟩ (lkT_good h).2.1 (lkT_good h).2.2 (by simp only [Fo.size]; omega)).1
      have HOF := Lib.hid (fun (W : World) (h1 : Laid W) (h2 : IsPool W w.heap.size pa w.heap.size vv q) (h3 : IsK W (Safe W w.heap.size) (.slice av2 kd.len cv2) kd) => pof HBG.out h1 h2 h3 ok1 ok2 ok3 ok4 hroom)
      have HRO := Lib.hid (fun (W : World) (h2 : IsRef W w.heap.size ra rl rs rd q) (h3 : IsK W (Safe W w.heap.size) (.slice av2 kd.len cv2) kd) => rof h2 h3 ok1 ok2 ok3 ok4 hroom)
      have HSZ : Hid ((ofP n' kd q).2.2.length + rr.size ≤ fo.size) := Lib.hid (by
        rcases hgood with ⟨_, h⟩ | ⟨_, _, h3, _, _, e, h6, h7⟩
        · rw [h]; simp only; omega
        · rw [h3, h6]
          simp only [Fo.size] at h7
          simp; omega)
      have HAT := Lib.hid hat2
      have HKW := Lib.hid hk'
      have HOKR := Lib.hid ok5
      clear hgood hroom hat hat' hat2 hk' ok1 ok2 ok3 ok4 ok5
      generalize ofP n' kd q = oq at *
      obtain ⟨o1, o2, q2⟩ := oq
      have hoo : (o1 != o1) = false := by simp
      have hee : (o2 != o2) = false := by simp
      obtain ⟨k1, f1, t1, n1, s1, y1, z1⟩ := n'
      simp only [treeA] at *
      have e0 := bcellAt HBR.out c0
      have e1 := bcellAt HBR.out c1
      have e2 := bcellAt HBR.out c2
      have e3 := bcellAt HBR.out c3
      have e4 := bcellAt HBR.out c4
      have e5 := bcellAt HBR.out c5
      have hi0 : (0 : Int) ≤ (i : Int) := by omega
      have hi1 : (i : Int) < (fo.len : Int) := by omega
      have hkl := (HKW.out.below HBR.out).keep (G' := Safe wr w.heap.size) (fun b hb _ => ⟨.inl hb, rfl⟩)
      have HKL := Lib.hid hkl
      clear hkl
      go_wp2_with fail
      refine (HOF.out wr (HL.out.below HBR.out) HP.out HKL.out).mono ?_
      rintro e w6 ⟨rfl, g6⟩
      have HQ6 := Lib.hid (IsRef.grew HP.out HQ.out g6)
      obtain ⟨u6, _, v6, p6, _⟩ := g6
      have HA6 := Lib.hid (HBR.out.trans u6)
      have HP6 := Lib.hid p6
      have hkl := (HKW.out.below HA6.out).keep (G' := Safe w6 w.heap.size) (fun b hb _ => ⟨.inl hb, rfl⟩)
      have HKL6 := Lib.hid hkl
      clear u6 p6 hkl e0 e1 e2 e3 e4 e5
      have e0 := bcellAt HA6.out c0
      have e1 := bcellAt HA6.out c1
      have e2 := bcellAt HA6.out c2
      have e3 := bcellAt HA6.out c3
      have e4 := bcellAt HA6.out c4
      have e5 := bcellAt HA6.out c5
      go_wp2_with fail
      refine (HRO.out w6 HQ6.out HKL6.out).mono ?_
      rintro e w7 ⟨rfl, x1, x2, x3, r7, m7⟩
      have HP7 := Lib.hid (IsPool.rmost HP6.out m7)
      have HA7 := Lib.hid (HA6.out.trans m7.1)
      have HQ7 := Lib.hid r7
      clear m7 r7 e0 e1 e2 e3 e4 e5 c0 c1 c2 c3 c4 c5
      go_wp2_with fail
      refine (num_any o2 w7).mono ?_
      rintro e w8 ⟨rfl, rfl⟩
      go_wp2_with fail
      go_roundw
      case rel => exact ⟨i + 1, rr, _, _, _, _, q2, by go_num, by omega, HSZ.out, HOKR.out, fun _ => ⟨b, o, rfl, hbw, by rw [show o + (i + 1) * 6 = o + i * 6 + 6 by omega]; exact HAT.out⟩, HA7.out, HP7.out, HQ7.out⟩
      case measure => simp [intOf]; omega
    · obtain rfl := fo_nil (show r.len = 0 by omega)
      simp only [Fo.len, Nat.add_zero] at hi
      subst hi
      clear hat hlt
      go_wp2_with fail
      go_returns
      exact ⟨pa, w.heap.size, ra, vv, rl, rs, rd, q, rfl, HP.out, HQ.out, HBR.out, by simp only [Fo.size] at hqs; omega⟩
end Go.Proofs.YtgaklaajbepfaaaGreatDoor
namespace Go.Proofs.YtgaklaajbepfaaaGreatDoor
open Go.ChangeShapes Go.WideShapes Go.ChangeAt Go.RowKit
set_option linter.unusedVariables false

theorem cellsTm : Tryz.prog.cellsOf TermT = 1 := by kernel_rfl
theorem ints_len (l : List Int) : (ints l).length = l.length := by simp [ints]
theorem addr_addT (b o n : Nat) : (⟨b, o, none⟩ : Addr).add n = ⟨b, o + n, none⟩ := by unfold Addr.add; split <;> simp_all
section
variable {H : Type} {enc : TypeId × Value → H} {W : World} {base : Nat}
set_option maxRecDepth 100000 in
theorem open_terms {v : Value} {fuel : Nat} {x : DataW H × List MemPlace} (hval : Cell.okWide Tryz.prog W .any base 23 v) (hf : DataW.trod enc Tryz.prog W 0 (fun _ => true) true fuel 23 [v] = some x) :
    ∃ l : List Int, Row W 1 v l.length (ints l) ∧ ∀ n ∈ l, i64R n := by
  rcases Go.ChangeShapes.open_ints Tryz.underlying23 Tryz.underlying39 cellsTm hf with ⟨hcs, _⟩ | ⟨y, len, cap, ss, hcs, _, hl, hm, hz, hx, hcell, hsz⟩
  · simp at hcs
    subst hcs
    exact ⟨[], ⟨rfl, .inl ⟨rfl, rfl⟩⟩, fun s hs => by cases hs⟩
  · simp at hcs
    subst hcs
    simp only [if_true] at hz
    have hh : W.has Tryz.prog .any base y TermT cap := by
      simp only [Tryz.underlying23, Cell.okWide, Cell.ok] at hval
      exact hval.2.2
    obtain ⟨hspot, hblk⟩ := place_of hh
    obtain ⟨b, off, spot⟩ := y
    simp only at hspot hblk
    subst hspot
    have hlen : (ss.take len).length = len := by simp; omega
    refine ⟨ss.take len, ⟨by rw [ints_len]; omega, .inr ⟨b, off, cap, by rw [hlen], hblk, by omega, hm, fun j u hj => ?_⟩⟩, fun s hs => ?_⟩
    · have hj' : j < len := by
        have := (List.getElem?_eq_some_iff.1 hj).1
        rw [ints_len] at this; omega
      have hc := hcell j (by omega)
      rw [addr_addT] at hc
      rw [hc]
      rw [ints_at _ j (by omega)] at hj
      rw [← hj]
      simp [List.getD_eq_getElem?_getD, show j < ss.length by omega]
    · have := bounds_i64 (hsz s (List.mem_of_mem_take hs)); unfold i64R; omega
set_option maxRecDepth 100000 in
/-- Trees of terms, two lists, a third, an observer. -/
theorem open_lists {v : Value} {d : DataW H} {p : List MemPlace} (hval : Value.okWide Tryz.prog W .any base 67 v) (h : DataW.Trod enc Tryz.prog W 0 (fun _ => true) true 67 v d p) :
    ∃ x : Fo × List Int × List Int × List Int × Int, ∃ u0 u1 u2 u3 : Value, v = .agg #[u0, u1, u2, u3, .int .i64 x.2.2.2.2] ∧ IsK W (fun b => b < W.heap.size) u0 x.1 ∧ OkF x.1 ∧ (Row W 1 u1 x.2.1.length (ints x.2.1) ∧ ∀ n ∈ x.2.1, i64R n) ∧ (Row W 1 u2 x.2.2.1.length (ints x.2.2.1) ∧ ∀ n ∈ x.2.2.1, i64R n) ∧ (Row W 1 u3 x.2.2.2.1.length (ints x.2.2.2.1) ∧ ∀ n ∈ x.2.2.2.1, i64R n) ∧ i64R x.2.2.2.2 := by
  simp only [Value.okWide, Tryz.underlying67] at hval
  obtain ⟨cs, rfl, hc, ts, hts, _, hrow⟩ := hval
  have hts' : Tryz.prog.cellTypes Tryz.prog.depth 67 = some [22, 23, 23, 23, 3] := by kernel_rfl
  obtain rfl : ts = [22, 23, 23, 23, 3] := Option.some.inj (hts.symm.trans hts')
  obtain ⟨fuel, hf⟩ := h
  rw [show Tryz.prog.cellsOf 67 = 5 by kernel_rfl] at hc
  obtain ⟨l⟩ := cs
  match l, hc with
  | [u0, u1, u2, u3, u4], _ =>
    obtain ⟨t1, q1, k1⟩ := hrow 1 u1 rfl
    obtain ⟨t2, q2, k2⟩ := hrow 2 u2 rfl
    obtain ⟨t3, q3, k3⟩ := hrow 3 u3 rfl
    obtain rfl : t1 = 23 := (Option.some.inj q1).symm
    obtain rfl : t2 = 23 := (Option.some.inj q2).symm
    obtain rfl : t3 = 23 := (Option.some.inj q3).symm
    obtain ⟨ys, k, _, _, _, hyl, hfld⟩ := DataW.trod_struct Tryz.underlying67 hf
    have hi0 : Tryz.prog.cellsOf 22 = 1 := by kernel_rfl
    have hi1 : Tryz.prog.cellsOf 23 = 1 := by kernel_rfl
    have hi4 : Tryz.prog.cellsOf 3 = 1 := by kernel_rfl
    have f0 : DataW.trod enc Tryz.prog W 0 (fun _ => true) true k 22 (([u0, u1, u2, u3, u4].drop 0).take (Tryz.prog.cellsOf 22)) = ys[0]? := hfld 0 _ rfl
    rw [hi0] at f0
    have f1 : DataW.trod enc Tryz.prog W 0 (fun _ => true) true k 23 (([u0, u1, u2, u3, u4].drop 1).take (Tryz.prog.cellsOf 23)) = ys[1]? := hfld 1 _ rfl
    rw [hi1] at f1
    have f2 : DataW.trod enc Tryz.prog W 0 (fun _ => true) true k 23 (([u0, u1, u2, u3, u4].drop 2).take (Tryz.prog.cellsOf 23)) = ys[2]? := hfld 2 _ rfl
    rw [hi1] at f2
    have f3 : DataW.trod enc Tryz.prog W 0 (fun _ => true) true k 23 (([u0, u1, u2, u3, u4].drop 3).take (Tryz.prog.cellsOf 23)) = ys[3]? := hfld 3 _ rfl
    rw [hi1] at f3
    have f4 : DataW.trod enc Tryz.prog W 0 (fun _ => true) true k 3 (([u0, u1, u2, u3, u4].drop 4).take (Tryz.prog.cellsOf 3)) = ys[4]? := hfld 4 _ rfl
    rw [hi4] at f4
    simp only [List.drop_zero, List.drop_succ_cons, List.take_succ_cons, List.take_zero] at f0 f1 f2 f3 f4
    have y0 : ys[0]? = some (ys[0]'(by rw [hyl]; decide)) := List.getElem?_eq_getElem (by rw [hyl]; decide)
    rw [y0] at f0
    have y1 : ys[1]? = some (ys[1]'(by rw [hyl]; decide)) := List.getElem?_eq_getElem (by rw [hyl]; decide)
    rw [y1] at f1
    have y2 : ys[2]? = some (ys[2]'(by rw [hyl]; decide)) := List.getElem?_eq_getElem (by rw [hyl]; decide)
    rw [y2] at f2
    have y3 : ys[3]? = some (ys[3]'(by rw [hyl]; decide)) := List.getElem?_eq_getElem (by rw [hyl]; decide)
    rw [y3] at f3
    have y4 : ys[4]? = some (ys[4]'(by rw [hyl]; decide)) := List.getElem?_eq_getElem (by rw [hyl]; decide)
    rw [y4] at f4
    obtain ⟨fo, hk, hok⟩ := trod_forest k u0 _ f0
    obtain ⟨g1, hg1⟩ := open_terms k1 f1
    obtain ⟨g2, hg2⟩ := open_terms k2 f2
    obtain ⟨g3, hg3⟩ := open_terms k3 f3
    obtain ⟨n, e4, _, w4⟩ := DataW.trod_int Tryz.underlying3 f4
    simp at e4
    subst e4
    refine ⟨(fo, g1, g2, g3, n), u0, u1, u2, u3, rfl, hk, hok, hg1, hg2, hg3, ?_⟩
    have := bounds_i64 w4; unfold i64R; simp only; omega
end
end Go.Proofs.YtgaklaajbepfaaaGreatDoor
namespace Go.Proofs.YtgaklaajbepfaaaGreatDoor
open Go.RowKit Go.Maps
set_option linter.unusedVariables false

set_option maxRecDepth 100000 in
set_option maxHeartbeats 6400000 in
theorem terms_any {w : World} {va vb : Value} {l : List Int} (ha : Row w 1 va l.length (ints l)) (hb : Row w 1 vb l.length (ints l)) (hl : l.length ≤ 1000000) : Calls Tryz.prog 20 #[va, vb] w fun e w' => e = .returned (.bool true) ∧ Below w.heap.size w w' := by
  obtain ⟨aa, ac, rfl, hax⟩ := ha.at
  obtain ⟨ba, bc, rfl, hbx⟩ := hb.at
  have HAX := Lib.hid hax
  have HBX := Lib.hid hbx
  clear ha hb hax hbx
  go_enter Tryz.func20, Tryz.ntmps20
  go_wp2_with fail
  skip
  go_loopw [5] (fun v5 wr => ∃ i : Nat, v5 = .int .i64 (i : Int) ∧ i ≤ l.length ∧ Below w.heap.size w wr) (fun v _ => l.length - (intOf v).toNat)
  case atStart => exact ⟨0, rfl, Nat.zero_le _, Below.refl _ _⟩
  case round =>
    obtain ⟨i, rfl, hi, hbl⟩ := hrel
    have HB := Lib.hid hbl
    by_cases hlt : i < l.length
    · obtain ⟨ab, ao, rfl, qa⟩ := HAX.out (by omega)
      obtain ⟨bb, bo, rfl, qb⟩ := HBX.out (by omega)
      have c0 := bcellAt hbl (qa i _ (ints_at l i hlt))
      have c1 := bcellAt hbl (qb i _ (ints_at l i hlt))
      have hi0 : (0 : Int) ≤ (i : Int) := by omega
      have hi1 : (i : Int) < (l.length : Int) := by omega
      generalize l[i] = y at *
      clear qa qb hbl
      go_wp2_with fail
      go_quiet (fail)
      have HBQ := Lib.hid (bmore HB.out (bdn wr nq))
      clear c0 c1
      go_wp2_with fail
      go_roundw
      case rel => exact ⟨i + 1, by go_num, by omega, HBQ.out⟩
      case measure => simp [intOf] <;> omega
    · obtain rfl : i = l.length := by omega
      clear hbl hlt
      go_wp2_with fail
      go_returns
      exact ⟨rfl, HB.out⟩
abbrev LisT : TypeId := 67
set_option maxRecDepth 100000 in
set_option maxHeartbeats 6400000 in
theorem vlarge_any {w : World} {fo : Fo} {l m n : List Int} {who : Int} {u0 u1 u2 u3 : Value} (hk : IsK w (fun b => b < w.heap.size) u0 fo) (h1 : Row w 1 u1 l.length (ints l)) (h2 : Row w 1 u2 m.length (ints m)) (h3 : Row w 1 u3 n.length (ints n)) : Calls Tryz.prog 34 #[.agg #[u0, u1, u2, u3, .int .i64 who]] w fun e w' => (∃ q, e = .returned (.bool q) ∧ (q = false → fo.len ≤ 10 ∧ fo.size < 400 ∧ l.length ≤ 12 ∧ m.length ≤ 12 ∧ n.length ≤ 12)) ∧ Below w.heap.size w w' := by
  obtain ⟨a0, k0, rfl, _⟩ := hk.shape
  obtain ⟨a1, k1, rfl, _⟩ := h1.at
  obtain ⟨a2, k2, rfl, _⟩ := h2.at
  obtain ⟨a3, k3, rfl, _⟩ := h3.at
  have bx := bA0 w (.cells #[.slice a0 fo.len k0, .slice a1 l.length k1, .slice a2 m.length k2, .slice a3 n.length k3, .int .i64 who] LisT)
  have hx := heap_alloc_new w (.cells #[.slice a0 fo.len k0, .slice a1 l.length k1, .slice a2 m.length k2, .slice a3 n.length k3, .int .i64 who] LisT)
  have hk1 := hk.below bx
  have hk2 := hk1.of (w' := w) (G' := fun b => b < (w.alloc (.cells #[.slice a0 fo.len k0, .slice a1 l.length k1, .slice a2 m.length k2, .slice a3 n.length k3, .int .i64 who] LisT)).heap.size) (fun b hb _ => Nat.lt_of_lt_of_le hb bx.size)
  have WD := wide_any hk2
  have HBX := Lib.hid bx
  have HX := Lib.hid hx
  clear hk hk1 hk2 h1 h2 h3 bx hx
  go_enter Tryz.func34, Tryz.ntmps34
  go_upto_region 1 with fail
  generalize (w.alloc (.cells #[.slice a0 fo.len k0, .slice a1 l.length k1, .slice a2 m.length k2, .slice a3 n.length k3, .int .i64 who] LisT)) = w1 at *
  have z0 : w1.cell? ⟨w.heap.size, 0, none⟩ = some (.slice a0 fo.len k0) := cellB (j := 0) HX.out rfl
  go_wp2_with fail
  refine WD.mono ?_
  rintro e w2 ⟨⟨q, rfl, hq⟩, u2⟩
  have HQ := Lib.hid hq
  have HX2 := Lib.hid (Hold.below u2 _ _ HX.out)
  have HU := Lib.hid (bmore HBX.out u2)
  clear hq u2 z0 HX HBX WD
  have z1 : w2.cell? ⟨w.heap.size, 1, none⟩ = some (.slice a1 l.length k1) := cellB (j := 1) HX2.out rfl
  have z2 : w2.cell? ⟨w.heap.size, 2, none⟩ = some (.slice a2 m.length k2) := cellB (j := 2) HX2.out rfl
  have z3 : w2.cell? ⟨w.heap.size, 3, none⟩ = some (.slice a3 n.length k3) := cellB (j := 3) HX2.out rfl
  cases q with
  | true =>
    go_wp2_with fail
    go_returns
    exact ⟨⟨true, rfl, fun h => by cases h⟩, HU.out⟩
  | false =>
    by_cases hl : 12 < l.length
    · have e1 : decide ((12 : Int) < (l.length : Int)) = true := decide_eq_true (by omega)
      go_wp2_with fail
      go_returns
      exact ⟨⟨true, rfl, fun h => by cases h⟩, HU.out⟩
    have e1 : decide ((12 : Int) < (l.length : Int)) = false := decide_eq_false (by omega)
    by_cases hm : 12 < m.length
    · have e2 : decide ((12 : Int) < (m.length : Int)) = true := decide_eq_true (by omega)
      go_wp2_with fail
      go_returns
      exact ⟨⟨true, rfl, fun h => by cases h⟩, HU.out⟩
    have e2 : decide ((12 : Int) < (m.length : Int)) = false := decide_eq_false (by omega)
    by_cases hn : 12 < n.length
    · have e3 : decide ((12 : Int) < (n.length : Int)) = true := decide_eq_true (by omega)
      go_wp2_with fail
      go_returns
      exact ⟨⟨true, rfl, fun h => by cases h⟩, HU.out⟩
    have e3 : decide ((12 : Int) < (n.length : Int)) = false := decide_eq_false (by omega)
    go_wp2_with fail
    go_returns
    exact ⟨⟨false, rfl, fun _ => ⟨(HQ.out (by trivial)).1, (HQ.out (by trivial)).2, by omega, by omega, by omega⟩⟩, HU.out⟩
end Go.Proofs.YtgaklaajbepfaaaGreatDoor
