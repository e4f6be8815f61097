/-
  The statement DiskPlays: every list of acts on every disk: each answer; blocks, log and power behind each. No condition.
-/
import Derived.Test.YthamjlhkiabcnaaDAct
import Derived.JoinedCond
namespace Go.Proofs.Ythamjlhkiabcnaa
open Go.ChangeShapes Go.WideShapes Go.ChangeAt Go.RowKit
set_option linter.unusedVariables false

set_option maxRecDepth 20000 in
set_option maxHeartbeats 12800000 in
theorem plays_walk {w : World} {v1 v2 : Value} {image : List ByteArray} {l : List Act3} (h1 : Row w 1 v1 image.length (strs image)) (h2 : Row w 3 v2 l.length (acs l)) (hi : image.length ≤ maxLen) (hl : l.length ≤ maxLen)
    (hs1 : ∀ s ∈ image, s.size ≤ maxLen) (hs2 : ∀ y ∈ l, ActOk y) :
    Calls Try.prog 3 #[v1, v2] w fun e w' => e = .returned (.bool true) ∧ Below w.heap.size w w' := by
  have HL := Lib.hid (long_any h1 h2 hi hl hs1 hs2)
  have HS2 := Lib.hid hs2
  have HS1 := Lib.hid hs1
  have R1 := Lib.hid h1
  obtain ⟨a1, c1, rfl⟩ := h1.shape
  obtain ⟨a2, c2, rfl, _, r2⟩ := h2.room
  have R2 := Lib.hid r2
  clear h1 h2 hs1 hs2 r2
  go_enter Try.func3, Try.ntmps3
  go_wp2_with fail
  refine HL.out.mono ?_
  rintro e w1 ⟨⟨b, rfl, hb⟩, rfl⟩
  cases b
  case true =>
    clear hb
    go_wp2_with fail
    refine (live_any _).mono ?_
    rintro e w9 ⟨rfl, hb⟩
    go_wp2_with fail
    go_ret
    exact ⟨rfl, hb⟩
  case false =>
    obtain ⟨hi40, hl60⟩ := hb rfl
    clear hb HL
    go_wp2_with (at_builtin; refine wpList_append_strs rfl _ _ rfl rfl _ image rfl R1.out (by omega) ?_)
    intro gv w1 o1 b1
    have O1 := Lib.hid o1
    have G1 := Lib.hid (row_of_own o1)
    have I1 := Lib.hid (R1.out.below b1)
    obtain ⟨ga, gc, rfl⟩ := (row_of_own o1).shape
    clear o1
    by_cases hpos : 1 ≤ image.length
    · obtain ⟨g, rfl, hgw, hg1⟩ : ∃ g, ga = some ⟨g, 0, none⟩ ∧ w.heap.size ≤ g ∧ g < w1.heap.size := by
        rcases O1.out.2 with ⟨_, h0⟩ | ⟨g, cap, cur, hv, hg, hblk, _⟩
        · omega
        · simp only [Value.slice.injEq, true_and] at hv
          exact ⟨g, hv.1, hg, (Array.getElem?_eq_some_iff.1 hblk).1⟩
      by_cases hlong : anyLong image = true
      · have L1 := Lib.hid (load_long G1.out hpos (by omega) HS1.out hlong)
        have HL2 := Lib.hid ((refLoad_any (B := w.heap.size) I1.out hpos (by omega) HS1.out b1.size).mono fun e w' h => by
          unfold RefLoaded at h
          rw [if_pos hlong] at h
          exact h)
        clear hlong
        go_wp2_with fail
        refine L1.out.mono ?_
        rintro e w2 ⟨rfl, rfl⟩
        go_wp2_with fail
        refine HL2.out.mono ?_
        rintro e w2 ⟨rfl, rfl⟩
        go_wp2_with fail
        refine (num_any _ _).mono ?_
        rintro e w2 ⟨rfl, rfl⟩
        go_wp2_with fail
        refine (live_any _).mono ?_
        rintro e w2 ⟨rfl, hb⟩
        have b2 := bthen b1 hb
        have O2 := Lib.hid (own_keep O1.out (touch_of_below hb fun _ => False) fun _ _ h => h)
        clear hb O1 G1 I1
        go_wp2_with fail
        go_loopw [10] (fun i wr => ∃ (k : Nat) (cs : List Value), k ≤ image.length ∧ i = .int .i64 (k : Int) ∧ wr.ownsRow w.heap.size 9 1 (.slice (some ⟨g, 0, none⟩) image.length gc) image.length cs ∧ Below w.heap.size w wr) (fun i _ => image.length - (intOf i).toNat)
        case atStart => exact ⟨0, _, Nat.zero_le _, rfl, O2.out, b2⟩
        case round =>
          obtain ⟨k, cs, hk, rfl, ho, hbk⟩ := hrel
          by_cases hlt : k < image.length
          · have HO := Lib.hid ho
            obtain ⟨u0, hu0⟩ := own_any ho (j := k) (by omega)
            have hfz := fun o => ho.frozenAt o
            clear ho
            go_wp2_with fail
            go_roundw
            case rel => exact ⟨k + 1, _, by omega, by go_num, (HO.out.stored k (.string ⟨#[63]⟩)).1, hbk.setCell (p := ⟨g, k, none⟩) hgw _⟩
            case measure => simp [intOf]; omega
          · clear ho
            go_wp2_with fail
            go_loopw [6, 8, 11] (fun p q i wr => p = .pointer none ∧ q = .pointer none ∧ i = .int .i64 0 ∧ Below w.heap.size w wr) (fun _ _ _ _ => 0)
            case atStart => exact ⟨rfl, rfl, rfl, hbk⟩
            case round =>
              obtain ⟨rfl, rfl, rfl, hbz⟩ := hrel
              go_wp2_with fail
              go_ret
              exact ⟨rfl, hbz⟩
      · have hlong' : anyLong image = false := by simpa using hlong
        have L1 := Lib.hid (load_ok (B := w.heap.size) G1.out hpos (by omega) HS1.out hlong' b1.size)
        have L2 := Lib.hid fun (W : World) (r : Row W 1 (.slice a1 image.length c1) image.length (strs image)) (hB : w.heap.size ≤ W.heap.size) => refLoad_any (B := w.heap.size) r hpos (by omega) HS1.out hB
        have HNo := Lib.hid hlong'
        clear hlong hlong'
        go_wp2_with fail
        refine L1.out.mono ?_
        rintro e w2 ⟨a, S, rfl, hd, hS, hb⟩
        have b2 := bthen b1 hb
        have D2 := Lib.hid hd
        have O2 := Lib.hid (own_keep O1.out (touch_of_below hb fun _ => False) fun _ _ h => h)
        have I2 := Lib.hid (I1.out.below hb)
        have hSg : Hid (∀ q, S q → q ≠ g) := Lib.hid fun q hq e => by have := hS q hq; omega
        have hgw2 : g < w2.heap.size := by have := hb.size; omega
        clear hd hb O1 G1 I1 hS
        go_wp2_with fail
        refine (L2.out _ I2.out b2.size).mono ?_
        rintro e w3 href
        unfold RefLoaded at href
        rw [HNo.out] at href
        obtain ⟨b, T, rfl, hr, hT, hb⟩ := href
        have b3 := bthen b2 hb
        have D3 := Lib.hid (D2.out.below hb)
        have R3 := Lib.hid hr
        have O3 := Lib.hid (own_keep O2.out (touch_of_below hb fun _ => False) fun _ _ h => h)
        have hTg : Hid (∀ q, T q → q ≠ g) := Lib.hid fun q hq e => by have := hT q hq; omega
        have hST : Hid (∀ q, S q → ¬ T q) := Lib.hid fun q h1 h2 => by have := (D2.out.lt q h1).2; have := hT q h2; omega
        clear hr hb hT O2 D2 I2 b2
        go_wp2_with fail
        refine (num_any _ _).mono ?_
        rintro e w4 ⟨rfl, rfl⟩
        go_wp2_with fail
        refine (live_any _).mono ?_
        rintro e w4 ⟨rfl, hb⟩
        have b4 := bthen b3 hb
        have D4 := Lib.hid (D3.out.below hb)
        have R4 := Lib.hid (R3.out.below hb)
        have O4 := Lib.hid (own_keep O3.out (touch_of_below hb fun _ => False) fun _ _ h => h)
        clear hb b3 D3 R3 O3
        go_wp2_with fail
        go_loopw [10] (fun i wr => ∃ (k : Nat) (cs : List Value), k ≤ image.length ∧ i = .int .i64 (k : Int) ∧ wr.ownsRow w.heap.size 9 1 (.slice (some ⟨g, 0, none⟩) image.length gc) image.length cs ∧ IsDisk wr w.heap.size a S (fresh image) ∧ IsRef wr w.heap.size b T (fresh image) ∧ Below w.heap.size w wr) (fun i _ => image.length - (intOf i).toNat)
        case atStart => exact ⟨0, _, Nat.zero_le _, rfl, O4.out, D4.out, R4.out, b4⟩
        case round =>
          obtain ⟨k, cs, hk, rfl, ho, hd, hr, hbk⟩ := hrel
          have HO := Lib.hid ho
          have HD := Lib.hid hd
          have HR := Lib.hid hr
          by_cases hlt : k < image.length
          · obtain ⟨u0, hu0⟩ := own_any ho (j := k) (by omega)
            have hfz := fun o => ho.frozenAt o
            clear ho hd hr
            go_wp2_with fail
            go_roundw
            case rel =>
              have ht : Touch (fun q => q = g) wr (wr.setCell ⟨g, k, none⟩ (.string ⟨#[63]⟩)) := touch_set wr g k _ _ rfl
              exact ⟨k + 1, _, by omega, by go_num, (HO.out.stored k (.string ⟨#[63]⟩)).1, HD.out.keep ht (fun q hq => hSg.out q hq), HR.out.keep ht (fun q hq => hTg.out q hq), hbk.setCell (p := ⟨g, k, none⟩) hgw _⟩
            case measure => simp [intOf]; omega
          · clear ho hd hr HO
            go_wp2_with fail
            go_loopw [6, 8, 11] (fun p q i wr => ∃ (k : Nat) (a b : Nat) (S T : Nat → Prop) (d : Dk), k ≤ l.length ∧ p = .pointer (some ⟨a, 0, none⟩) ∧ q = .pointer (some ⟨b, 0, none⟩) ∧ i = .int .i64 (k : Int) ∧ IsDisk wr w.heap.size a S d ∧ IsRef wr w.heap.size b T d ∧ (∀ q, S q → ¬ T q) ∧ d.log.length ≤ k ∧ Below w.heap.size w wr) (fun _ _ i _ => l.length - (intOf i).toNat)
            case atStart => exact ⟨0, a, b, S, T, fresh image, Nat.zero_le _, rfl, rfl, rfl, HD.out, HR.out, hST.out, Nat.le_refl _, hbk⟩
            case round =>
              obtain ⟨j, a, b, S, T, d, hj, rfl, rfl, rfl, hd, hr, hdis, hlog, hbj⟩ := hrel
              have HD5 := Lib.hid hd
              have HR5 := Lib.hid hr
              have HDis := Lib.hid hdis
              clear hd hr hdis
              by_cases hjt : j < l.length
              · obtain ⟨b2, o2, rfl, _, q2⟩ := R2.out (by omega)
                obtain ⟨g0, g1, g2⟩ := acs_at l j hjt
                have x0 := cell_later hbj (q2 _ _ g0)
                have x1 := cell_later hbj (q2 _ _ g1)
                have x2 := cell_later hbj (q2 _ _ g2)
                rw [← Nat.add_assoc] at x1 x2
                have hx := Lib.hid (HS2.out _ (List.getElem_mem hjt))
                clear q2 g0 g1 g2
                generalize l[j] = x at *
                have HAct := Lib.hid (act_any HD5.out HR5.out HDis.out hbj.size x hx.out (by omega))
                obtain ⟨xk, xa, xs⟩ := x
                simp only at x0 x1 x2
                go_wp2_with fail
                refine HAct.out.mono ?_
                rintro e w5 ⟨a', b', S', T', d', rfl, hd, hr, hdis, hlg, hb⟩
                have HD6 := Lib.hid hd
                have HR6 := Lib.hid hr
                have HDis6 := Lib.hid hdis
                have b6 := hbj.trans hb
                have HLg := Lib.hid hlg
                clear hd hr hdis hlg hb HAct
                go_wp2_with fail
                refine (tells_any HD6.out HR6.out).mono ?_
                rintro e w6 ⟨rfl, hb⟩
                have HD7 := Lib.hid (HD6.out.below hb)
                have HR7 := Lib.hid (HR6.out.below hb)
                have b7 := bthen b6 hb
                clear hb HD6 HR6
                go_wp2_with fail
                go_roundw
                case rel => exact ⟨j + 1, a', b', S', T', d', by omega, rfl, rfl, by go_num, HD7.out, HR7.out, HDis6.out, by have := HLg.out; omega, b7⟩
                case measure => simp [intOf]; omega
              · obtain rfl : j = l.length := by omega
                go_wp2_with fail
                refine (tells_any HD5.out HR5.out).mono ?_
                rintro e w6 ⟨rfl, hb⟩
                go_wp2_with fail
                go_ret
                exact ⟨rfl, bthen hbj hb⟩
    · have L1 := Lib.hid (load_arg G1.out (by omega) (by omega))
      have L2 := Lib.hid (refLoad_arg I1.out (by omega) (by omega))
      go_wp2_with fail
      refine L1.out.mono ?_
      rintro e w2 ⟨rfl, rfl⟩
      go_wp2_with fail
      refine L2.out.mono ?_
      rintro e w2 ⟨rfl, rfl⟩
      go_wp2_with fail
      refine (num_any _ _).mono ?_
      rintro e w2 ⟨rfl, rfl⟩
      go_wp2_with fail
      refine (live_any _).mono ?_
      rintro e w2 ⟨rfl, hb⟩
      have b2 := bthen b1 hb
      have O2 := Lib.hid (own_keep O1.out (touch_of_below hb fun _ => False) fun _ _ h => h)
      clear hb O1 G1 I1
      go_wp2_with fail
      go_loopw [10] (fun i wr => ∃ (k : Nat) (cs : List Value), k ≤ image.length ∧ i = .int .i64 (k : Int) ∧ wr.ownsRow w.heap.size 9 1 (.slice ga image.length gc) image.length cs ∧ Below w.heap.size w wr) (fun i _ => image.length - (intOf i).toNat)
      case atStart => exact ⟨0, _, Nat.zero_le _, rfl, O2.out, b2⟩
      case round =>
        obtain ⟨k, cs, hk, rfl, ho, hbk⟩ := hrel
        by_cases hlt : k < image.length
        · omega
        · clear ho
          go_wp2_with fail
          go_loopw [6, 8, 11] (fun p q i wr => p = .pointer none ∧ q = .pointer none ∧ i = .int .i64 0 ∧ Below w.heap.size w wr) (fun _ _ _ _ => 0)
          case atStart => exact ⟨rfl, rfl, rfl, hbk⟩
          case round =>
            obtain ⟨rfl, rfl, rfl, hbz⟩ := hrel
            go_wp2_with fail
            go_ret
            exact ⟨rfl, hbz⟩

set_option maxRecDepth 100000 in
/-- What the walk gives, for every argument. -/
theorem plays_contract (H : Type) (enc : TypeId × Value → H) (W : World) (base : Nat) (args : Array Value) (ds gs : List (DataW H)) (before : List MemPlace)
    (hval0 : ∀ (j : Nat) t v, Try.f3.params[j]? = some t → args[j]? = some v → Value.okWide Try.prog W .any base t v)
    (hW : DataW.Whole enc Try.prog Try.f3.params.toList Rows.diskPlaysSpec.vars false W args.toList ds gs before) :
    Calls Try.prog 3 args W fun e W' => ∃ v, e = .returned v ∧ Rows.diskPlaysSpec.post enc Try.prog Try.f3 false true false false W args v W' := by
  have hval : ∀ (j : Nat) t v, Try.f3.params[j]? = some t → args[j]? = some v → Value.okWide Try.prog W .any base t v := hval0
  have hW' := hW
  obtain ⟨p, q, hA0, hV, rfl, hfz, hnd⟩ := hW
  have hA : DataW.TrodAll enc Try.prog W 0 (fun _ => true) true Try.f3.params.toList args.toList ds p := hA0
  rw [Try.params3] at hA hval
  obtain ⟨v0, vs0, d0, ds0, p0, q0, hargs0, rfl, rfl, h0, r0⟩ := trodAll_cons hA
  obtain ⟨v1, vs1, d1, ds1, p1, q1, hargs1, rfl, rfl, h1, r1⟩ := trodAll_cons r0
  obtain ⟨rfl, rfl, rfl⟩ := trodAll_nil r1
  subst hargs1
  obtain rfl : args = #[v0, v1] := by cases args; simp_all
  obtain ⟨rfl, rfl⟩ := trodVars_none hV
  have hv0 := hval 0 22 v0 rfl rfl
  have hc0 : Cell.okWide Try.prog W .any base 22 v0 := by simpa only [Value.okWide, Try.underlying22] using hv0
  obtain ⟨a0, c0, n0, e0⟩ := okWide_slice Try.underlying22 hv0
  obtain ⟨fuel0, hf0⟩ := id h0
  rw [show v0.cells.toList = [v0] by rw [e0]; rfl] at hf0
  obtain ⟨l0, rl0, hs0⟩ := open_strs hc0 hf0
  have hv1 := hval 1 23 v1 rfl rfl
  have hc1 : Cell.okWide Try.prog W .any base 23 v1 := by simpa only [Value.okWide, Try.underlying23] using hv1
  obtain ⟨a1, c1, n1, e1⟩ := okWide_slice Try.underlying23 hv1
  obtain ⟨fuel1, hf1⟩ := id h1
  rw [show v1.cells.toList = [v1] by rw [e1]; rfl] at hf1
  obtain ⟨l1, rl1, hs1⟩ := open_acts hc1 hf1
  clear hA0 hval0
  simp only [List.append_nil] at hW'
  refine (plays_walk rl0 rl1 rl0.small rl1.small hs0 hs1).mono fun e W' ⟨he, bel⟩ => ?_
  subst he
  exact ⟨_, rfl, _, _, _, [], _, [], hW', trodAll_mk1 (shut_bool Try.underlying4 _), (trodAll_cons_mk (Below.trod laidOut (by kernel_rfl) (of_decide_eq_true (by kernel_rfl)) h0 bel (places_lt h0)) (trodAll_cons_mk (Below.trod laidOut (by kernel_rfl) (of_decide_eq_true (by kernel_rfl)) h1 bel (places_lt h1)) trodAll_mk0)), rfl, bel.frame _, fun h => by cases h⟩

set_option maxRecDepth 100000 in
theorem plays_lifted (os : Os) (started : os.Started) (H : Type) (enc : TypeId × Value → H) :
    ReturnsInHanded {} Try.checked os 3 .any (Rows.diskPlaysSpec.pre6 enc Try.prog Try.f3 Rows.diskPlaysRow.domain false) (Rows.diskPlaysSpec.post enc Try.prog Try.f3 false true false false) := by
  refine returnsInHanded_of_change (C := Try.checked) own started (by kernel_rfl) Try.func3
    (ChangeSpec.witness6 (enc := enc) (C := Try.checked) false ⟨#[], #[.slice none 0 0, .slice none 0 0], []⟩ 8 (by kernel_rfl) (by kernel_rfl) (by kernel_rfl) (by kernel_rfl)) ?_
  intro W base args ds gs before hval hW _ _
  exact plays_contract H enc W base args ds gs before hval hW

/-- The statement. -/
theorem plays_holds : Rows.DiskPlaysSaid :=
  OpenClaim.holds_of_wide 3 Try.f3 rfl rfl rfl rfl rfl rfl rfl ⟨rfl, rfl, rfl, rfl, rfl⟩ rfl rfl rfl rfl rfl (by kernel_rfl) Try.func3 (by kernel_rfl)
    (of_decide_eq_true (by kernel_rfl)) (by unfold Func.isWrapper; first | (rw [if_pos (by decide +kernel)]; kernel_rfl) | (rw [if_neg (by decide +kernel)]; exact ⟨rfl, rfl⟩))
    (fun os started H enc _ => plays_lifted os started H enc)

set_option maxRecDepth 100000 in
theorem plays_upto_lifted (os : Os) (started : os.Started) (H : Type) (enc : TypeId × Value → H) (F : Stop.Interp) :
    ReturnsInHanded {} Try.checked os 3 .any ((Rows.OpenSpec.upto Rows.diskPlaysSpec).pre6 enc Try.prog Try.f3 Rows.diskPlaysUptoRow.domain false) (((Rows.OpenSpec.upto Rows.diskPlaysSpec).at F).post enc Try.prog Try.f3 false true false false) := by
  refine returnsInHanded_of_cond (C := Try.checked) (s := Rows.OpenSpec.upto Rows.diskPlaysSpec) (k := Rows.uptoSmall) rfl own started (by kernel_rfl) Try.func3
    (OpenSpec.witness (enc := enc) (C := Try.checked) (s := Rows.OpenSpec.upto Rows.diskPlaysSpec) (k := Rows.uptoSmall) rfl false ⟨#[], #[.slice none 0 0, .slice none 0 0], []⟩ 8 (by kernel_rfl) (by kernel_rfl) (by kernel_rfl)
      (x := ([.nil, .nil], [], [])) (by kernel_rfl) rfl (by kernel_rfl)) ?_
  intro W base args ds gs before hval hW _ hk _
  exact plays_contract H enc W base args ds gs before hval hW

/-- The statement, second form. -/
theorem plays_upto_holds : Rows.DiskPlaysUptoSaid :=
  OpenClaim.holds_of_cond 3 Try.f3 rfl rfl rfl rfl rfl rfl rfl ⟨rfl, rfl, rfl, rfl, rfl⟩ rfl rfl rfl rfl rfl (by kernel_rfl) Try.func3 (by kernel_rfl)
    (of_decide_eq_true (by kernel_rfl)) (by unfold Func.isWrapper; first | (rw [if_pos (by decide +kernel)]; kernel_rfl) | (rw [if_neg (by decide +kernel)]; exact ⟨rfl, rfl⟩))
    (fun os started H enc _ F => plays_upto_lifted os started H enc F)

#print axioms plays_holds
#print axioms plays_upto_holds
end Go.Proofs.Ythamjlhkiabcnaa
