/-
  The statement DiskCuts: cut, and cut again, is cut at once. No condition.
-/
import Derived.Test.YthamjlhkiabcnaaDLong
import Derived.JoinedCond
namespace Go.Proofs.Ythamjlhkiabcnaa
open Go.ChangeShapes Go.WideShapes Go.ChangeAt Go.RowKit
set_option linter.unusedVariables false

theorem played_played (d : Dk) {n m : Nat} (h : m ≤ n) : (d.played n).played m = d.played m := by
  have e : (d.played n).played m = ((d.played n).log.take m).foldl Dk.lay (d.played n).start := rfl
  rw [e, d.played_log, List.take_take, Nat.min_eq_left h]
  have e2 : (d.played n).start = d.start := by simp [Dk.start, d.played_first]
  rw [e2]; rfl

set_option maxRecDepth 20000 in
set_option maxHeartbeats 6400000 in
theorem cuts_walk {w : World} {v1 v2 : Value} {image : List ByteArray} {l : List Act3} (n m : Int) (h1 : Row w 1 v1 image.length (strs image)) (h2 : Row w 3 v2 l.length (acs l)) (hi : image.length ≤ maxLen) (hl : l.length ≤ maxLen)
    (hs1 : ∀ s ∈ image, s.size ≤ maxLen) (hs2 : ∀ y ∈ l, ActOk y) :
    Calls Try.prog 6 #[.agg #[v1, v2, .int .i64 n, .int .i64 m]] w fun e w' => e = .returned (.bool true) ∧ Below w.heap.size w w' := by
  have hba : Below w.heap.size w (w.alloc (.cells #[v1, v2, .int .i64 n, .int .i64 m] 55)) := (Below.refl _ _).alloc (Nat.le_refl _) _
  have hb0 : ∀ q, Below w.heap.size w ((w.alloc (.cells #[v1, v2, .int .i64 n, .int .i64 m] 55)).drewN q) := fun q => below_drewN' hba q
  have HB0 := Lib.hid hb0
  have HL := Lib.hid fun q => long_any (h1.below (hb0 q)) (h2.below (hb0 q)) hi hl hs1 hs2
  have HM := Lib.hid fun q hi hl => made_any (B := w.heap.size) (h1.below (hb0 q)) (h2.below (hb0 q)) hi hl hs1 hs2 (hb0 q).size
  obtain ⟨a1, c1, rfl⟩ := h1.shape
  obtain ⟨a2, c2, rfl⟩ := h2.shape
  have z0 : (w.alloc (.cells #[.slice a1 image.length c1, .slice a2 l.length c2, .int .i64 n, .int .i64 m] 55)).cell? ⟨w.heap.size, 0, none⟩ = some (.slice a1 image.length c1) := cell_new _ _ _ _ _
  have z1 : (w.alloc (.cells #[.slice a1 image.length c1, .slice a2 l.length c2, .int .i64 n, .int .i64 m] 55)).cell? ⟨w.heap.size, 1, none⟩ = some (.slice a2 l.length c2) := cell_new _ _ _ _ _
  have z2 : (w.alloc (.cells #[.slice a1 image.length c1, .slice a2 l.length c2, .int .i64 n, .int .i64 m] 55)).cell? ⟨w.heap.size, 2, none⟩ = some (.int .i64 n) := cell_new _ _ _ _ _
  have z3 : (w.alloc (.cells #[.slice a1 image.length c1, .slice a2 l.length c2, .int .i64 n, .int .i64 m] 55)).cell? ⟨w.heap.size, 3, none⟩ = some (.int .i64 m) := cell_new _ _ _ _ _
  clear h1 h2 hs1 hs2 hba hb0
  go_enter Try.func6, Try.ntmps6
  go_wp2_with fail
  generalize (w.alloc (.cells #[.slice a1 image.length c1, .slice a2 l.length c2, .int .i64 n, .int .i64 m] 55)) = W at *
  go_quiet (fail)
  go_wp2_with fail
  refine (HL.out _).mono ?_
  rintro e w1 ⟨⟨b, rfl, hb⟩, rfl⟩
  cases b
  case true =>
    clear hb
    go_wp2_with fail
    refine (live_any _).mono ?_
    rintro e w1 ⟨rfl, hb⟩
    go_wp2_with fail
    go_ret
    exact ⟨rfl, bthen (HB0.out _) hb⟩
  case false =>
    obtain ⟨hi40, hl60⟩ := hb rfl
    clear hb
    go_wp2_with fail
    refine (HM.out _ hi40 hl60).mono ?_
    rintro e w1 ⟨hb1, hm⟩
    have b1 := bthen (HB0.out _) hb1
    clear hb1
    rcases hm with rfl | ⟨a, S, rfl, hd, hS, hpos⟩
    · go_wp2_with fail
      refine (live_any _).mono ?_
      rintro e w2 ⟨rfl, hb⟩
      go_wp2_with fail
      go_ret
      exact ⟨rfl, bthen b1 hb⟩
    · generalize (fresh image).acts l = d at *
      have hlg := hd.2.logLen
      have HD := Lib.hid hd
      clear hd hS
      by_cases hmn : n < m
      · go_wp2_with fail
        refine (live_any _).mono ?_
        rintro e w2 ⟨rfl, hb⟩
        go_wp2_with fail
        go_ret
        exact ⟨rfl, bthen b1 hb⟩
      · have hmn' : m ≤ n := by omega
        clear hmn
        by_cases hn : n < 0 ∨ (d.log.length : Int) < n
        · have HN := Lib.hid hn
          clear hn
          go_wp2_with fail
          refine (cut_arg HD.out n HN.out).mono ?_
          rintro e w2 ⟨rfl, rfl⟩
          go_wp2_with fail
          refine (num_any _ _).mono ?_
          rintro e w2 ⟨rfl, rfl⟩
          rcases HN.out with hn | hn
          · go_wp2_with fail
            refine (live_any _).mono ?_
            rintro e w2 ⟨rfl, hb⟩
            go_wp2_with fail
            go_ret
            exact ⟨rfl, bthen b1 hb⟩
          · have h0 : 0 ≤ n := by have := Int.natCast_nonneg d.log.length; omega
            go_wp2_with fail
            refine (writes_any HD.out).mono ?_
            rintro e w2 ⟨rfl, rfl⟩
            go_wp2_with fail
            refine (live_any _).mono ?_
            rintro e w2 ⟨rfl, hb⟩
            go_wp2_with fail
            go_ret
            exact ⟨rfl, bthen b1 hb⟩
        · obtain ⟨k, rfl⟩ := Int.eq_ofNat_of_zero_le (show 0 ≤ n by omega)
          have hk : k ≤ d.log.length := by omega
          clear hn
          go_wp2_with fail
          refine (cut_ok HD.out k hk b1.size).mono ?_
          rintro e w2 ⟨x, S2, rfl, hx, _, hb⟩
          have b2 := bthen b1 hb
          have HD2 := Lib.hid (HD.out.below hb)
          have HX2 := Lib.hid hx
          clear hb hx b1 HD
          go_wp2_with fail
          refine (num_any _ _).mono ?_
          rintro e w3 ⟨rfl, rfl⟩
          by_cases hm0 : m < 0
          · go_wp2_with fail
            refine (cut_arg HX2.out m (.inl hm0)).mono ?_
            rintro e w3 ⟨rfl, rfl⟩
            go_wp2_with fail
            refine (cut_arg HD2.out m (.inl hm0)).mono ?_
            rintro e w3 ⟨rfl, rfl⟩
            go_wp2_with fail
            refine (num_any _ _).mono ?_
            rintro e w3 ⟨rfl, rfl⟩
            go_wp2_with fail
            refine (num_any _ _).mono ?_
            rintro e w3 ⟨rfl, rfl⟩
            go_wp2_with fail
            refine (live_any _).mono ?_
            rintro e w3 ⟨rfl, hb⟩
            go_wp2_with fail
            go_ret
            exact ⟨rfl, bthen b2 hb⟩
          · obtain ⟨j, rfl⟩ := Int.eq_ofNat_of_zero_le (show 0 ≤ m by omega)
            have hj : j ≤ k := by omega
            clear hm0
            go_wp2_with fail
            refine (cut_ok HX2.out j (by rw [d.played_log, List.length_take]; omega) b2.size).mono ?_
            rintro e w3 ⟨y, S3, rfl, hy, _, hb⟩
            rw [played_played d hj] at hy
            have b3 := bthen b2 hb
            have HD3 := Lib.hid (HD2.out.below hb)
            have HY3 := Lib.hid hy
            clear hb hy b2 HD2 HX2
            go_wp2_with fail
            refine (cut_ok HD3.out j (by omega) b3.size).mono ?_
            rintro e w4 ⟨z, S4, rfl, hz, _, hb⟩
            have b4 := bthen b3 hb
            have HY4 := Lib.hid (HY3.out.below hb)
            have HZ4 := Lib.hid hz
            clear hb hz b3 HD3 HY3
            go_wp2_with fail
            refine (num_any _ _).mono ?_
            rintro e w5 ⟨rfl, rfl⟩
            go_wp2_with fail
            refine (num_any _ _).mono ?_
            rintro e w5 ⟨rfl, rfl⟩
            go_wp2_with fail
            refine (same_any HY4.out HZ4.out).mono ?_
            rintro e w5 ⟨rfl, q, rfl⟩
            rw [show decide ((d.played j).now = (d.played j).now) = true from decide_eq_true rfl]
            have b5 := below_drewN' b4 q
            have HY5 := Lib.hid (HY4.out.below (below_drewN (Below.refl _ _) q))
            have HZ5 := Lib.hid (HZ4.out.below (below_drewN (Below.refl _ _) q))
            clear b4 HY4 HZ4
            go_wp2_with fail
            refine (log_any HY5.out).mono ?_
            rintro e w6 ⟨v6, rfl, o6, hb⟩
            have b6 := bthen b5 hb
            have HZ6 := Lib.hid (HZ5.out.below hb)
            have R6 := Lib.hid (row_of_own o6)
            obtain ⟨a6, c6, rfl⟩ := (row_of_own o6).shape
            clear hb b5 HY5 HZ5 o6
            go_wp2_with fail
            refine (log_any HZ6.out).mono ?_
            rintro e w7 ⟨v7, rfl, o7, hb⟩
            have b7 := bthen b6 hb
            have R7 := Lib.hid (R6.out.below hb)
            have Q7 := Lib.hid (row_of_own o7)
            obtain ⟨a7, c7, rfl⟩ := (row_of_own o7).shape
            clear hb b6 HZ6 o7 R6
            have hlen := HL
            go_wp2_with fail
            refine (writesEq_any R7.out Q7.out (by rw [d.played_log, List.length_take]; omega)).mono ?_
            rintro e w8 ⟨rfl, q8, rfl⟩
            rw [show decide ((d.played j).log = (d.played j).log) = true from decide_eq_true rfl]
            have b8 := below_drewN' b7 q8
            clear b7 R7 Q7
            go_wp2_with fail
            refine (live_any _).mono ?_
            rintro e w9 ⟨rfl, hb⟩
            go_wp2_with fail
            go_ret
            exact ⟨rfl, bthen b8 hb⟩

theorem cutsTypes : Try.prog.cellTypes Try.prog.depth 55 = some [22, 23, 3, 3] := by kernel_rfl
theorem cutsOne : Go.Deep.oneCellFields Try.prog (Try.prog.fieldsOf 55) = true := by kernel_rfl
theorem cutsCells : Try.prog.cellsOf 55 = 4 := by kernel_rfl

set_option maxRecDepth 100000 in
/-- What the walk gives, for every argument. -/
theorem cuts_contract (H : Type) (enc : TypeId × Value → H) (W : World) (base : Nat) (args : Array Value) (ds gs : List (DataW H)) (before : List MemPlace)
    (hval0 : ∀ (j : Nat) t v, Try.f6.params[j]? = some t → args[j]? = some v → Value.okWide Try.prog W .any base t v)
    (hW : DataW.Whole enc Try.prog Try.f6.params.toList Rows.diskCutsSpec.vars false W args.toList ds gs before) :
    Calls Try.prog 6 args W fun e W' => ∃ v, e = .returned v ∧ Rows.diskCutsSpec.post enc Try.prog Try.f6 false true false false W args v W' := by
  have hval : ∀ (j : Nat) t v, Try.f6.params[j]? = some t → args[j]? = some v → Value.okWide Try.prog W .any base t v := hval0
  have hW' := hW
  obtain ⟨p, q, hA0, hV, rfl, hfz, hnd⟩ := hW
  have hA : DataW.TrodAll enc Try.prog W 0 (fun _ => true) true Try.f6.params.toList args.toList ds p := hA0
  rw [Try.params6] at hA hval
  obtain ⟨v0, vs0, d0, ds0, p0, q0, hargs, rfl, rfl, h0, r0⟩ := trodAll_cons hA
  obtain ⟨rfl, rfl, rfl⟩ := trodAll_nil r0
  obtain rfl : args = #[v0] := by cases args; simp_all
  obtain ⟨rfl, rfl⟩ := trodVars_none hV
  have hv0 := hval 0 55 v0 rfl rfl
  obtain ⟨u0, u1, u2, u3, y0, y1, y2, y3, k, rfl, rfl, rfl, t0, t1, t2, t3⟩ := Go.Joins.open_agg4 Try.underlying55 (by have := cutsOne; simpa [Program.fieldsOf, Try.underlying55] using this) cutsCells hv0 h0
  have hrow : Row.okWide Try.prog W .any base 55 #[u0, u1, u2, u3] := by
    simp only [Value.okWide, Try.underlying55] at hv0
    obtain ⟨cs, hcs, _, hr⟩ := hv0
    simp only [Value.agg.injEq] at hcs
    subst hcs
    exact hr
  obtain ⟨ts, hts, _, heach⟩ := hrow
  rw [cutsTypes] at hts
  simp only [Option.some.injEq] at hts
  subst hts
  obtain ⟨ty0, e0, k0⟩ := heach 0 u0 rfl
  obtain ⟨ty1, e1, k1⟩ := heach 1 u1 rfl
  simp at e0 e1
  subst e0
  subst e1
  obtain ⟨image, ri, hs1⟩ := open_strs k0 t0
  obtain ⟨l, rl, hs2⟩ := open_acts k1 t1
  obtain ⟨n, en, _, _⟩ := DataW.trod_int Try.underlying3 t2
  obtain ⟨m, em, _, _⟩ := DataW.trod_int Try.underlying3 t3
  simp at en em
  subst en
  subst em
  clear hA0 hval0 hA hv0
  simp only [List.append_nil] at hW' h0 ⊢
  refine (cuts_walk n m ri rl ri.small rl.small hs1 hs2).mono fun e W' ⟨he, bel⟩ => ?_
  subst he
  refine ⟨_, rfl, _, _, _, [], _, [], hW', trodAll_mk1 (shut_bool Try.underlying4 _), (trodAll_cons_mk (Below.trod laidOut (by kernel_rfl) (of_decide_eq_true (by kernel_rfl)) h0 bel (places_lt h0)) trodAll_mk0), rfl, bel.frame _, fun h => by cases h⟩

set_option maxRecDepth 100000 in
theorem cuts_lifted (os : Os) (started : os.Started) (H : Type) (enc : TypeId × Value → H) :
    ReturnsInHanded {} Try.checked os 6 .any (Rows.diskCutsSpec.pre6 enc Try.prog Try.f6 Rows.diskCutsRow.domain false) (Rows.diskCutsSpec.post enc Try.prog Try.f6 false true false false) := by
  refine returnsInHanded_of_change (C := Try.checked) own started (by kernel_rfl) Try.func6
    (ChangeSpec.witness6 (enc := enc) (C := Try.checked) false ⟨#[], #[.agg #[.slice none 0 0, .slice none 0 0, .int .i64 0, .int .i64 0]], []⟩ 8 (by kernel_rfl) (by kernel_rfl) (by kernel_rfl) (by kernel_rfl)) ?_
  intro W base args ds gs before hval hW _ _
  exact cuts_contract H enc W base args ds gs before hval hW

/-- The statement. -/
theorem cuts_holds : Rows.DiskCutsSaid :=
  OpenClaim.holds_of_wide 6 Try.f6 rfl rfl rfl rfl rfl rfl rfl ⟨rfl, rfl, rfl, rfl, rfl⟩ rfl rfl rfl rfl rfl (by kernel_rfl) Try.func6 (by kernel_rfl)
    (of_decide_eq_true (by kernel_rfl)) (by unfold Func.isWrapper; first | (rw [if_pos (by decide +kernel)]; kernel_rfl) | (rw [if_neg (by decide +kernel)]; exact ⟨rfl, rfl⟩))
    (fun os started H enc _ => cuts_lifted os started H enc)

set_option maxRecDepth 100000 in
theorem cuts_upto_lifted (os : Os) (started : os.Started) (H : Type) (enc : TypeId × Value → H) (F : Stop.Interp) :
    ReturnsInHanded {} Try.checked os 6 .any ((Rows.OpenSpec.upto Rows.diskCutsSpec).pre6 enc Try.prog Try.f6 Rows.diskCutsUptoRow.domain false) (((Rows.OpenSpec.upto Rows.diskCutsSpec).at F).post enc Try.prog Try.f6 false true false false) := by
  refine returnsInHanded_of_cond (C := Try.checked) (s := Rows.OpenSpec.upto Rows.diskCutsSpec) (k := Rows.uptoSmall) rfl own started (by kernel_rfl) Try.func6
    (OpenSpec.witness (enc := enc) (C := Try.checked) (s := Rows.OpenSpec.upto Rows.diskCutsSpec) (k := Rows.uptoSmall) rfl false ⟨#[], #[.agg #[.slice none 0 0, .slice none 0 0, .int .i64 0, .int .i64 0]], []⟩ 8 (by kernel_rfl) (by kernel_rfl) (by kernel_rfl)
      (x := ([.agg [.nil, .nil, .lit (.int .i64 0), .lit (.int .i64 0)]], [], [])) (by kernel_rfl) rfl (by kernel_rfl)) ?_
  intro W base args ds gs before hval hW _ hk _
  exact cuts_contract H enc W base args ds gs before hval hW

/-- The statement, second form. -/
theorem cuts_upto_holds : Rows.DiskCutsUptoSaid :=
  OpenClaim.holds_of_cond 6 Try.f6 rfl rfl rfl rfl rfl rfl rfl ⟨rfl, rfl, rfl, rfl, rfl⟩ rfl rfl rfl rfl rfl (by kernel_rfl) Try.func6 (by kernel_rfl)
    (of_decide_eq_true (by kernel_rfl)) (by unfold Func.isWrapper; first | (rw [if_pos (by decide +kernel)]; kernel_rfl) | (rw [if_neg (by decide +kernel)]; exact ⟨rfl, rfl⟩))
    (fun os started H enc _ F => cuts_upto_lifted os started H enc F)

#print axioms cuts_holds
#print axioms cuts_upto_holds
end Go.Proofs.Ythamjlhkiabcnaa
