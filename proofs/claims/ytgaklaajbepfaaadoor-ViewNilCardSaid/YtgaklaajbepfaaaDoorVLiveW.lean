/-
  The law's live: the walk.
-/
import Derived.Test.YtgaklaajbepfaaaDoorVLive
namespace Go.Proofs.YtgaklaajbepfaaaDoor
open Go.RowKit Go.Maps Go.Shelf
set_option linter.unusedVariables false

set_option maxRecDepth 100000 in
set_option maxHeartbeats 51200000 in
theorem live_any {w : World} (hl : Laid w) : Calls Tryd.prog 9 #[] w fun e w' => e = .returned (.bool true) ∧ Below w.heap.size w w' := by
  have HL := Lib.hid hl
  clear hl
  go_enter Tryd.func9, Tryd.ntmps9
  go_wp2_with fail
  refine (pnew _).mono ?_
  rintro e w1 ⟨rfl, p1, u1⟩
  have P2 := Lib.hid p1
  have U2 := Lib.hid u1
  clear p1 u1
  generalize w.heap.size + 1 = pa at *
  go_wp2_with fail
  refine (pNum P2.out (HL.out.below U2.out) 1 (by omega)).mono ?_
  intro e w3 hm
  obtain ⟨rfl, g1⟩ := make_at lvm1 hm
  obtain ⟨g1, _, v3, p3, _⟩ := g1
  have P3 := Lib.hid p3
  have U3 := Lib.hid (U2.out.trans g1)
  clear hm g1 p3 P2 U2
  go_wp2_with fail
  refine (pProm P3.out (HL.out.below U3.out) 0 1 1 ⟨(i64R_lit (by omega)), (i64R_lit (by omega)), (i64R_lit (by omega))⟩).mono ?_
  intro e w4 hm
  obtain ⟨rfl, g1⟩ := make_at lvm2 hm
  obtain ⟨g1, _, v4, p4, _⟩ := g1
  have P4 := Lib.hid p4
  have U4 := Lib.hid (U3.out.trans g1)
  clear hm g1 p4 P3 U3
  go_wp2_with fail
  refine (pFake P4.out (HL.out.below U4.out) 0 1 1 ⟨(i64R_lit (by omega)), (i64R_lit (by omega)), (i64R_lit (by omega))⟩).mono ?_
  intro e w5 hm
  obtain ⟨rfl, g1⟩ := make_at lvm3 hm
  obtain ⟨g1, _, v5, p5, _⟩ := g1
  have hq5 : ∃ q e0, q = lv3 ++ e0 ∧ q.length ≤ 3 ∧ IsPool w5 w.heap.size pa w.heap.size v5 q := ⟨lv3, [], by simp, by decide, p5⟩
  obtain ⟨q5, e5, hq5, hl5, p5'⟩ := hq5
  have P5 := Lib.hid p5'
  have U5 := Lib.hid (U4.out.trans g1)
  have HQ5 := Lib.hid hq5
  have HLN5 := Lib.hid hl5
  clear hm g1 p5 p5' P4 U4 hq5 hl5
  go_wp2_with fail
  refine (view_any (w0 := w) HL.out (Nat.le_refl _) U5.out P5.out 3 (t := 3) (by decide) (by rw [HQ5.out]; exact inP_le lvi3 (by simp)) (by have := HLN5.out; omega)).mono ?_
  rintro e w6 ⟨r6, v6, q6, m6, rfl, hp6, ha6, hu6, g6⟩
  have hr6 : r6 = 2 := by
    have h9 := lv_anew HQ5.out ha6 lvi3 lva3 rfl rfl hu6 (by decide) (by rw [show kdN (seeK 3 vn3) vn3 = vn2 from rfl, lvn2]; decide)
    rw [show kdN (seeK 3 vn3) vn3 = vn2 from rfl, lvn2] at h9
    exact h9
  subst hr6
  have hl6 := ha6.len
  obtain ⟨ex6, hx6⟩ := ha6.ext
  have P6 := Lib.hid hp6
  have U6 := Lib.hid (U5.out.trans g6.below)
  have HQ6 : Hid (q6 = lv3 ++ (e5 ++ ex6)) := Lib.hid (by rw [hx6, HQ5.out, List.append_assoc])
  have HLN6 : Hid (q6.length ≤ 6) := Lib.hid (by have := HLN5.out; omega)
  clear hp6 ha6 hu6 g6 hl6 hx6 P5 U5 HQ5 HLN5
  generalize e5 ++ ex6 = e6 at *
  go_wp2_with fail
  refine (view_any (w0 := w) HL.out (Nat.le_refl _) U6.out P6.out 1 (t := 3) (by decide) (by rw [HQ6.out]; exact inP_le lvi3 (by simp)) (by have := HLN6.out; omega)).mono ?_
  rintro e w7 ⟨r7, v7, q7, m7, rfl, hp7, ha7, hu7, g7⟩
  have hr7 : r7 = 3 := by
    have h9 := lv_anew HQ6.out ha7 lvi3 lva3 rfl rfl hu7 (by decide) (by rw [show kdN (seeK 1 vn3) vn3 = vn3 from rfl, lvn3]; decide)
    rw [show kdN (seeK 1 vn3) vn3 = vn3 from rfl, lvn3] at h9
    exact h9
  subst hr7
  have hl7 := ha7.len
  obtain ⟨ex7, hx7⟩ := ha7.ext
  have P7 := Lib.hid hp7
  have U7 := Lib.hid (U6.out.trans g7.below)
  have HQ7 : Hid (q7 = lv3 ++ (e6 ++ ex7)) := Lib.hid (by rw [hx7, HQ6.out, List.append_assoc])
  have HLN7 : Hid (q7.length ≤ 9) := Lib.hid (by have := HLN6.out; omega)
  clear hp7 ha7 hu7 g7 hl7 hx7 P6 U6 HQ6 HLN6
  generalize e6 ++ ex7 = e7 at *
  go_wp2_with fail
  refine (swap_any (w0 := w) HL.out (Nat.le_refl _) U7.out P7.out 1 (t := 2) (by decide) (by rw [HQ7.out]; exact inP_le lvi2 (by simp)) (by have := HLN7.out; omega)).mono ?_
  rintro e w8 ⟨r8, v8, q8, m8, rfl, hp8, ha8, hu8, g8⟩
  have hr8 : r8 = 3 := by
    have h9 := lv_anew HQ7.out ha8 lvi2 lva2 rfl rfl hu8 (by decide) (by rw [show kdN (makeK 1 vn2) vn2 = vn3 from rfl, lvn3]; decide)
    rw [show kdN (makeK 1 vn2) vn2 = vn3 from rfl, lvn3] at h9
    exact h9
  subst hr8
  have hl8 := ha8.len
  obtain ⟨ex8, hx8⟩ := ha8.ext
  have P8 := Lib.hid hp8
  have U8 := Lib.hid (U7.out.trans g8.below)
  have HQ8 : Hid (q8 = lv3 ++ (e7 ++ ex8)) := Lib.hid (by rw [hx8, HQ7.out, List.append_assoc])
  have HLN8 : Hid (q8.length ≤ 12) := Lib.hid (by have := HLN7.out; omega)
  clear hp8 ha8 hu8 g8 hl8 hx8 P7 U7 HQ7 HLN7
  generalize e7 ++ ex8 = e8 at *
  have h50 : rfsP q8 16 [3] = 50 := by unfold rfsP; rw [if_pos (by decide)]
  have VB := Lib.hid (view_bad P8.out 16 3 (by rw [h50]; decide))
  rw [h50] at VB
  clear h50
  go_wp2_with fail
  refine VB.out.mono ?_
  rintro e w9 ⟨rfl, u9⟩
  have P9 := Lib.hid (P8.out.below u9)
  have U9 := Lib.hid (bmore U8.out u9)
  clear u9 VB
  have PR := Lib.hid (Promises_any P9.out 1 2)
  have hpl := lv_prom HQ8.out P9.out.ok
  rw [hpl] at PR
  clear hpl
  go_wp2_with fail
  refine PR.out.mono ?_
  rintro e w10 ⟨lv, rfl, hrow, u10⟩
  obtain ⟨la, lc, rfl⟩ : ∃ a c, lv = .slice a 1 c := by
    rcases hrow.2 with ⟨_, h⟩ | ⟨g, cap, cur, rfl, _⟩
    · cases h
    · exact ⟨_, _, rfl⟩
  have P10 := Lib.hid (P9.out.below u10)
  have U10 := Lib.hid (bmore U9.out u10)
  clear hrow u10 PR
  have NU := Lib.hid (fun (n : Int) (W : World) => num_any n W)
  go_wp2_with ((with_reducible refine (NU.out _ _).mono ?_); rintro e wn ⟨rfl, rfl⟩)
  have hat2 : (atP q8 2).1 = vn2 := by rw [HQ8.out, atP_append lvi2, lva2]
  have T2 := Lib.hid (Tells_any P10.out 2 2)
  rw [hat2, show tellB 2 vn2 = true from by decide] at T2
  refine T2.out.mono ?_
  rintro e w11 ⟨rfl, u11⟩
  have P11 := Lib.hid (P10.out.below u11)
  have U11 := Lib.hid (bmore U10.out u11)
  clear u11 T2
  have T3 := Lib.hid (Tells_any P11.out 3 2)
  rw [hat2, show tellB 3 vn2 = false from by decide] at T3
  clear hat2
  go_wp2_with fail
  refine T3.out.mono ?_
  rintro e w12 ⟨rfl, u12⟩
  obtain ⟨r1, r2, b1⟩ := rows2 w12 2 3
  have P13 := Lib.hid ((P11.out.below u12).below b1)
  have U13 := Lib.hid (bmore (bmore U11.out u12) b1)
  have AL := Lib.hid (Alike_any P13.out 3 r1 r2 (by decide) (by decide))
  clear u12 r1 r2 b1 T3
  go_wp2_with fail
  refine AL.out.mono ?_
  rintro e w14 ⟨r, rfl, hr, u14⟩
  have hr1 : r = true := hr.2 (lv_alike HQ8.out)
  subst hr1
  obtain ⟨r1, r2, b1⟩ := rows2 w14 2 3
  have P15 := Lib.hid ((P13.out.below u14).below b1)
  have U15 := Lib.hid (bmore (bmore U13.out u14) b1)
  have AL2 := Lib.hid (Alike_any P15.out 1 r1 r2 (by decide) (by decide))
  clear u14 r1 r2 b1 AL hr
  go_wp2_with fail
  refine AL2.out.mono ?_
  rintro e w16 ⟨r, rfl, hr, u16⟩
  have hr1 : r = false := by
    cases r with
    | false => rfl
    | true => exact absurd (hr.1 rfl) (lv_unlike HQ8.out)
  subst hr1
  have HF := Lib.hid (bmore U15.out u16)
  clear u16 AL2 hr
  go_wp2_with fail
  go_returns
  exact ⟨rfl, HF.out⟩
end Go.Proofs.YtgaklaajbepfaaaDoor
