/-
  The law's own walk: TermMakes.
-/
import Derived.Test.YtbjhjekmoemmhaaDoorTMakesP
namespace Go.Proofs.YtbjhjekmoemmhaaDoor
open Go.RowKit Go.Maps
set_option linter.unusedVariables false

set_option maxRecDepth 100000 in
set_option maxHeartbeats 12800000 in
theorem makes_walk {w : World} (hl : Laid w) {l : List Nd} {vn : Value} (hr : Row w 7 vn l.length (nodes l)) (hok : ∀ y ∈ l, NdOk y) (c : Bool) : Calls Tryd.prog 3 #[vn, .bool c] w fun e w' => e = .returned (.bool true) ∧ Below w.heap.size w w' := by
  obtain ⟨av, cv, rfl, hx⟩ := hr.at2
  have HX := Lib.hid hx
  have HOK := Lib.hid hok
  have HL := Lib.hid hl
  clear hl hr hok hx
  go_enter Tryd.func3, Tryd.ntmps3
  by_cases h100 : 100 < l.length
  · have h100' : (100 : Int) < (l.length : Int) := by omega
    go_wp2_with fail
    refine (live_any HL.out).mono ?_
    rintro e w1 ⟨rfl, u1⟩
    have HU := Lib.hid u1
    clear u1
    go_wp2_with fail
    go_returns
    exact ⟨rfl, HU.out⟩
  · have h100' : decide ((100 : Int) < (l.length : Int)) = false := decide_eq_false (by omega)
    have hln : l.length ≤ 100 := by omega
    clear h100
    go_wp2_with fail
    refine (pnew _).mono ?_
    rintro e w1 ⟨rfl, p1, u1⟩
    have HP1 := Lib.hid p1
    have HB1 := Lib.hid u1
    clear p1 u1
    generalize w.heap.size + 1 = a at *
    go_wp2_with fail
    refine (rnew w1 w.heap.size HB1.out.size).mono ?_
    rintro e w2 ⟨rfl, r2, u2⟩
    have HP2 := Lib.hid (HP1.out.below u2)
    have HB2 := Lib.hid (bmore HB1.out u2)
    have HR2 := Lib.hid r2
    clear u2 r2 HP1 HB1
    generalize w1.heap.size = a2 at *
    go_wp2_with fail
    go_loopw [7] (fun v wr => ∃ (k0 : Nat) (vv rl rs rd : Value) (q : Pl), v = .int .i64 (k0 : Int) ∧ k0 ≤ l.length ∧ Below w.heap.size w wr ∧ IsPool wr w.heap.size a w.heap.size vv q ∧ IsRef wr w.heap.size a2 rl rs rd q) (fun v _ => l.length - (intOf v).toNat)
    case atStart => exact ⟨0, _, _, _, _, _, rfl, Nat.zero_le _, HB2.out, HP2.out, HR2.out⟩
    case round =>
      clear HP2 HB2 HR2
      obtain ⟨k0, vv, rl, rs, rd, q, rfl, hk0, hb, hp, hq⟩ := hrel
      have HP := Lib.hid hp
      have HQ := Lib.hid hq
      have HB := Lib.hid hb
      clear hp hq hb
      by_cases hlt : k0 < l.length
      · obtain ⟨gb, go, rfl, qq⟩ := HX.out (by omega)
        have c0 := qq _ _ (nodes_at l k0 hlt).1
        have c1 := qq _ _ (nodes_at l k0 hlt).2.1
        have c2 := qq _ _ (nodes_at l k0 hlt).2.2.1
        have c3 := qq _ _ (nodes_at l k0 hlt).2.2.2.1
        have c4 := qq _ _ (nodes_at l k0 hlt).2.2.2.2.1
        have c5 := qq _ _ (nodes_at l k0 hlt).2.2.2.2.2.1
        have c6 := qq _ _ (nodes_at l k0 hlt).2.2.2.2.2.2
        simp only [← Nat.add_assoc] at c1 c2 c3 c4 c5 c6
        have HN := Lib.hid (HOK.out _ (List.getElem_mem hlt))
        clear qq HX HOK
        generalize l[k0] = n at *
        have hk1 : (0 : Int) ≤ (k0 : Int) := by omega
        have hk2 : (k0 : Int) < (l.length : Int) := by omega
        have PH := Lib.hid (fun (W : World) (hW : IsPool W w.heap.size a w.heap.size vv q) => phas hW HN.out)
        have RH := Lib.hid (fun (W : World) (hW : IsRef W w.heap.size a2 rl rs rd q) => rhas hW HN.out)
        have PB := Lib.hid (show ∀ W, IsPool W w.heap.size a w.heap.size vv q → Laid W → Calls Tryd.prog 16 #[.pointer (some ⟨a, 0, none⟩), .agg (nodeA n), .bool c] W (fun e w' => e = .returned (.tuple #[.int .i64 (mkP q n).1, .int .i64 (mkP q n).2.1]) ∧ Grew W w.heap.size a w.heap.size vv (mkP q n).2.2 w') from fun W hW h2 => pby hW h2 HN.out c)
        have RM := Lib.hid (show ∀ W, IsRef W w.heap.size a2 rl rs rd q → Calls Tryd.prog 17 #[.pointer (some ⟨a2, 0, none⟩), .agg (nodeA n)] W (fun e w' => e = .returned (.tuple #[.int .i64 (mkP q n).1, .int .i64 (mkP q n).2.1]) ∧ RGrew W w.heap.size a2 rl rs rd (mkP q n).2.2 w') from fun W hW => rmake hW HN.out)
        generalize (mkP q n).1 = t1 at *
        generalize (mkP q n).2.1 = t2 at *
        generalize (mkP q n).2.2 = q2 at *
        generalize numP q n = m0 at *
        clear HN
        obtain ⟨k, f, t, u, s, y, z⟩ := n
        simp only [nodeA] at *
        have e0 := bcellAt HB.out c0
        have e1 := bcellAt HB.out c1
        have e2 := bcellAt HB.out c2
        have e3 := bcellAt HB.out c3
        have e4 := bcellAt HB.out c4
        have e5 := bcellAt HB.out c5
        have e6 := bcellAt HB.out c6
        go_wp2_with fail
        refine (PH.out _ HP.out).mono ?_
        rintro e w1 ⟨rfl, u1⟩
        have HP1 := Lib.hid (HP.out.below u1)
        have HQ1 := Lib.hid (HQ.out.below u1)
        have HB1 := Lib.hid (bmore HB.out u1)
        clear u1 e0 e1 e2 e3 e4 e5 e6
        have e0 := bcellAt HB1.out c0
        have e1 := bcellAt HB1.out c1
        have e2 := bcellAt HB1.out c2
        have e3 := bcellAt HB1.out c3
        have e4 := bcellAt HB1.out c4
        have e5 := bcellAt HB1.out c5
        have e6 := bcellAt HB1.out c6
        go_wp2_with fail
        refine (RH.out _ HQ1.out).mono ?_
        rintro e w2 ⟨rfl, u2⟩
        have HP2 := Lib.hid (HP1.out.below u2)
        have HQ2 := Lib.hid (HQ1.out.below u2)
        have HB2 := Lib.hid (bmore HB1.out u2)
        clear u2 e0 e1 e2 e3 e4 e5 e6
        have e0 := bcellAt HB2.out c0
        have e1 := bcellAt HB2.out c1
        have e2 := bcellAt HB2.out c2
        have e3 := bcellAt HB2.out c3
        have e4 := bcellAt HB2.out c4
        have e5 := bcellAt HB2.out c5
        have e6 := bcellAt HB2.out c6
        go_wp2_with fail
        refine (PB.out _ HP2.out (HL.out.below HB2.out)).mono ?_
        rintro e w3 ⟨rfl, g3⟩
        have HQ3 := Lib.hid (IsRef.grew HP2.out HQ2.out g3)
        obtain ⟨u3, _, v3, p3, _⟩ := g3
        have HP3 := Lib.hid p3
        have HB3 := Lib.hid (HB2.out.trans u3)
        clear u3 p3 e0 e1 e2 e3 e4 e5 e6
        have e0 := bcellAt HB3.out c0
        have e1 := bcellAt HB3.out c1
        have e2 := bcellAt HB3.out c2
        have e3 := bcellAt HB3.out c3
        have e4 := bcellAt HB3.out c4
        have e5 := bcellAt HB3.out c5
        have e6 := bcellAt HB3.out c6
        go_wp2_with fail
        refine (RM.out _ HQ3.out).mono ?_
        rintro e w4 ⟨rfl, g4⟩
        have HP4 := Lib.hid (IsPool.rgrew HP3.out HQ3.out g4)
        obtain ⟨u4, _, l4, s4, d4, q4⟩ := g4
        obtain ⟨lA, lC, rfl⟩ := (row_of_own q4.rl).shape
        have f0 : w4.cell? ⟨a2, 0, none⟩ = some (.slice lA q2.length lC) := cellB q4.lay rfl
        have HQ4 := Lib.hid q4
        have HB4 := Lib.hid (HB3.out.trans u4)
        have hlen : q2.length ≤ 65536 := q4.ok.len
        clear u4 q4 e0 e1 e2 e3 e4 e5 e6 c0 c1 c2 c3 c4 c5 c6
        have NU := Lib.hid (fun (W : World) => num_any t2 W)
        have PL := Lib.hid (fun (W : World) (hW : IsPool W w.heap.size a w.heap.size v3 q2) => plen hW)
        go_wp2_with fail
        go_quiet (first | with_reducible exact Calls.quiet_of_same (still_of (NU.out _)) | with_reducible exact Calls.quiet_of_same (still_of (PL.out _ (HP4.out.below (bdn _ _)))))
        go_wp2_with fail
        go_roundw
        case rel => exact ⟨k0 + 1, _, _, _, _, _, by go_num, by omega, bmore HB4.out (bdn _ _), HP4.out.below (bdn _ _), HQ4.out.below (bdn _ _)⟩
        case measure => simp [intOf]; omega
      · obtain rfl : k0 = l.length := by omega
        have hlen : q.length ≤ 65536 := HQ.out.ok.len
        have s0 : szP q (-1) = 0 := by unfold szP; rw [atP_out (by simp [inP])]; rfl
        have s1 : dpP q 1099511627776 = 0 := by unfold dpP; rw [atP_out (by simp [inP]; omega)]; rfl
        have HS := Lib.hid (fun (W : World) (hW : IsPool W w.heap.size a w.heap.size vv q) => psize hW (-1))
        have HD := Lib.hid (fun (W : World) (hW : IsPool W w.heap.size a w.heap.size vv q) => pdepth hW 1099511627776)
        rw [s0] at HS
        rw [s1] at HD
        clear s0 s1 HX HOK
        go_wp2_with fail
        refine (alike_any HP.out HQ.out).mono ?_
        rintro e w1 ⟨rfl, u1⟩
        have HP1 := Lib.hid (HP.out.below u1)
        have HB1 := Lib.hid (bmore HB.out u1)
        clear u1
        go_wp2_with fail
        refine (HS.out _ HP1.out).mono ?_
        rintro e w2 ⟨rfl, u2⟩
        have HP2 := Lib.hid (HP1.out.below u2)
        have HB2 := Lib.hid (bmore HB1.out u2)
        clear u2
        go_wp2_with fail
        refine (HD.out _ HP2.out).mono ?_
        rintro e w3 ⟨rfl, u3⟩
        have HB3 := Lib.hid (bmore HB2.out u3)
        clear u3
        go_wp2_with fail
        refine (live_any (HL.out.below HB3.out)).mono ?_
        rintro e w4 ⟨rfl, u4⟩
        have HB4 := Lib.hid (bmore HB3.out u4)
        clear u4
        go_wp2_with fail
        go_returns
        exact ⟨rfl, HB4.out⟩
end Go.Proofs.YtbjhjekmoemmhaaDoor
