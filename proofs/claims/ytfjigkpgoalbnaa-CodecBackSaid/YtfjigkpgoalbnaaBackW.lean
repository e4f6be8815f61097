/-
  The statement CodecBack: what is laid is read again, and what is read is what would be laid. No condition.
-/
import Derived.Test.YtfjigkpgoalbnaaBack
import Derived.Test.YtfjigkpgoalbnaaLive
import Derived.Test.YtfjigkpgoalbnaaInt
import Derived.Test.YtfjigkpgoalbnaaArgs
import Derived.Deep.RegionLaw
namespace Go.Proofs.Ytfjigkpgoalbnaa
open Go.ChangeShapes Go.WideShapes Go.ChangeAt Go.RowKit
open Go.ChangeMaps (open_string shut_string)
set_option linter.unusedVariables false

theorem rd_cut0 {B : Nat} {w : World} {v : Value} {l : List UInt8} (h : Rd B w v l) (hi : Nat) (h2 : hi ≤ l.length) :
    ∃ v', Rd B w v' (l.take hi) ∧ v'.ownBlock = v.ownBlock ∧ ∀ W : World, (Instr.slice 22 v none (some (.int .i64 (hi : Int))) none).run Try.prog W = .ok v' W := by
  obtain ⟨v', h1, h3, h4⟩ := rd_cut h 0 hi (Nat.zero_le _) h2
  rw [List.drop_zero, Nat.sub_zero] at h1
  refine ⟨v', h1, h3, fun W => ?_⟩
  rw [← h4 W]
  obtain ⟨a, c, rfl⟩ := h.shape
  have he : Try.prog.elem 22 = 5 := by simp [Program.elem, Try.underlying22]
  have ht : Try.prog.underlying 22 = some (.slice (Try.prog.elem 22)) := by rw [he]; exact Try.underlying22
  have hc : l.length ≤ c := by
    rcases h with ⟨h, rfl⟩ | ⟨b, off, cap, hv, _, _, h3, _⟩
    · simp
    · simp at hv; omega
  rw [run_slice_h W _ _ _ _ ht _ _ (by omega) (by omega), run_slice_lh W _ _ _ _ ht _ _ _ _ (by omega) (by omega) (by omega)]
  rfl

set_option maxRecDepth 20000 in
set_option maxHeartbeats 1600000 in
theorem back_first {w : World} (n : Nat) (i : Int) (s : ByteArray) (v : Value) (p : List UInt8) (hp : Rd 0 w v p) (hn : Hid (n < 18446744073709551616)) (hi : Hid (-9223372036854775808 ≤ i ∧ i ≤ 9223372036854775807)) (hs : s.size ≤ 12288) (hpl : p.length ≤ 12288) :
    Calls Try.prog 5 #[.int .u64 (n : Int), .int .i64 i, .string s, v] w fun e w' => e = .returned (.bool true) ∧ Below w.heap.size w w' := by
  obtain ⟨sa, sc, rfl⟩ := hp.shape
  have hzz : Hid (zig i < 18446744073709551616) := Lib.hid (by unfold zig; have := hi.out; split <;> omega)
  go_enter Try.func5, Try.ntmps5
  go_wp2_with fail
  refine (putNum_any [] n _ w (Rd.nils _ _) (by decide) hn).mono ?_
  rintro e w1 ⟨v1, rfl, hown1, hb1⟩
  rw [List.nil_append] at hown1
  go_wp2_with fail
  have hl1 := enc_len n
  refine (putInt_any (enc n) i v1 w1 hown1.rd.zero (by omega) hi.out.1 hi.out.2).mono ?_
  rintro e w2 ⟨v2, rfl, hown2, hb⟩
  have hb2 := bthen hb1 hb
  clear hb1 hb hown1
  go_wp2_with fail
  have hl2 := enc_len (zig i)
  refine (putText_any (enc n ++ enc (zig i)) s v2 w2 hown2.rd.zero (by rw [List.length_append]; omega) (by omega)).mono ?_
  rintro e w3 ⟨v3, rfl, hown3, hb⟩
  have hb3 := bthen hb2 hb
  clear hb2 hb hown2
  have hl3 := enc_len s.size
  go_wp2_with fail
  refine (new_any hown3.rd.zero (by simp only [List.length_append, ← size_list]; omega)).mono ?_
  rintro e w4 ⟨a, rfl, ha, ⟨v4, hr⟩, hb⟩
  have ha' : w.heap.size ≤ a := Nat.le_trans hb3.size ha
  have hb4 := bthen hb3 hb
  clear hb3 hb hown3 ha
  go_wp2_with fail
  have e1 : numS (enc n ++ enc (zig i) ++ enc s.size ++ s.data.toList) = .inr (n, (enc n).length) := by
    rw [List.append_assoc, List.append_assoc]; exact numS_enc _ hn.out
  refine (Num_ok hr e1).mono ?_
  rintro e w5 ⟨rfl, hg, hr5⟩
  have hb5 := bgrown hb4 hg ha'
  clear hb4 hg hr e1
  go_wp2_with fail
  have e2 : numS ((enc n ++ enc (zig i) ++ enc s.size ++ s.data.toList).drop (0 + (enc n).length)) = .inr (zig i, (enc (zig i)).length) := by
    rw [Nat.zero_add, List.append_assoc, List.append_assoc, List.drop_left]; exact numS_enc _ hzz.out
  have hI := Int_ok hr5 e2
  rw [unzig_zig] at hI
  refine hI.mono ?_
  rintro e w6 ⟨rfl, hg, hr6⟩
  have hb6 := bgrown hb5 hg ha'
  clear hb5 hg hr5 e2 hI
  go_wp2_with fail
  have e3 : textS ((enc n ++ enc (zig i) ++ enc s.size ++ s.data.toList).drop (0 + (enc n).length + (enc (zig i)).length)) (s.size : Int) = .inr (s.data.toList, (enc s.size).length + s.size) := by
    rw [Nat.zero_add, ← List.length_append, List.append_assoc (enc n ++ enc (zig i)), List.drop_left]
    have := textS_enc s.data.toList (by rw [← size_list]; omega)
    rw [← size_list] at this
    exact this
  have hT := Text_ok hr6 (most := (s.size : Int)) (by omega) e3
  rw [strOf_data] at hT
  refine hT.mono ?_
  rintro e w7 ⟨rfl, hg, hr7⟩
  have hb7 := bgrown hb6 hg ha'
  clear hb6 hg hr6 e3 hT
  go_wp2_with fail
  refine (done_ok hr7 (by simp only [List.length_append, ← size_list]; omega)).mono ?_
  rintro e w8 ⟨rfl, m, rfl⟩
  have hb8 := below_drewN hb7 m
  clear hb7 hr7
  generalize w7.drewN m = w8 at *
  go_wp2_with fail
  refine (lawnum_any 0 w8).mono ?_
  rintro e w9 ⟨rfl, rfl⟩
  go_wp2_with fail
  have hp8 := hp.keep hb8
  refine (new_any hp8 (by omega)).mono ?_
  rintro e w9 ⟨q, rfl, hq, ⟨v9, hr⟩, hb⟩
  have hq' : w.heap.size ≤ q := Nat.le_trans hb8.size hq
  have hb9 := bthen hb8 hb
  clear hb8 hb hq ha'
  go_wp2_with fail
  cases hS : numS p with
  | inl er =>
    have her := numF_err _ _ _ _ _ hS
    have hne : ((er : Int) == 0) = false := by simp; omega
    refine (Num_bad hr (er := er) (by simpa using hS) her.1).mono ?_
    have Hr := Lib.hid her
    clear hS her
    rintro e w10 ⟨rfl, hg, hr10⟩
    have hb10 := bgrown hb9 hg hq'
    clear hb9 hg hr
    go_wp2_with fail
    refine (why_bad hr10 Hr.out.2).mono ?_
    rintro e w11 ⟨rfl, m2, rfl⟩
    have hb11 := below_drewN hb10 m2
    clear hb10 hr10
    generalize w10.drewN m2 = w11 at *
    go_wp2_with fail
    go_quiet ((go_at_call 22; exact Calls.quiet_of_same ((lawnum_any _ _).mono fun _ _ ⟨h1, h2⟩ => ⟨h1, h2.symm⟩)))
    all_goals
      go_wp2_with fail
      refine (live_any _).mono ?_
      rintro e w12 ⟨rfl, hb⟩
      have hb12 := bthen (below_drewN hb11 _) hb
      clear hb11 hb
      go_wp2_with fail
      go_ret
      exact ⟨rfl, hb12⟩
  | inr x =>
    obtain ⟨k, len⟩ := x
    have hle := (numS_lt hS).2
    refine (Num_ok hr (n := k) (len := len) (by simpa using hS)).mono ?_
    have hk := (numS_lt hS).1
    have hen := enc_numS hS
    have Hen := Lib.hid hen
    clear hS hen
    rintro e w10 ⟨rfl, hg, hr10⟩
    have hb10 := bgrown hb9 hg hq'
    clear hb9 hg hr
    rw [Nat.zero_add] at hr10
    go_wp2_with fail
    refine (why_ok hr10).mono ?_
    rintro e w11 ⟨rfl, rfl⟩
    obtain ⟨v2', hv2, _, hcut⟩ := rd_cut0 (hp.keep hb10) len hle.1
    rw [← Hen.out] at hv2
    obtain ⟨hle1, hle2⟩ := hle
    have hd1 : decide ((len : Int) < 1) = false := by simp; omega
    have hd2 : decide (p.length < len) = false := by simp; omega
    go_wp2_with fail
    go_region_law (first
      | (go_simp; go_at_call 22; refine (lawnum_any _ _).mono ?_; rintro e wz ⟨rfl, rfl⟩)
      | (go_simp; go_at_call 31; refine (at_any (hr10.below (Below.refl _ _).drew)).mono ?_; rintro e wz ⟨rfl, rfl⟩)
      | (go_simp; go_at_call 31; refine (at_any ((hr10.below (Below.refl _ _).drew).below hb12)).mono ?_; rintro e wz ⟨rfl, rfl⟩)
      | (go_simp; go_at_call 10; refine (putNum_any [] k _ _ (Rd.nils _ _) (by decide) hk).mono ?_; rintro e w12 ⟨v12, rfl, hown12, hb12⟩; have hcA := rd_string hown12.rd; have hcB := rd_string ((hv2.keep (Below.refl _ _).drew).keep hb12)))
    all_goals
      have hb13 := bthen hb10.drew hb12
      clear hb10 hb12 hown12 hcA hcB hcut hr10 hd1 hd2 hp hp8
      go_wp2_with fail
      refine (live_any _).mono ?_
      rintro e w14 ⟨rfl, hb⟩
      have hb14 := bthen hb13 hb
      clear hb13 hb
      go_wp2_with fail
      go_ret
      exact ⟨rfl, hb14⟩

set_option maxRecDepth 20000 in
set_option maxHeartbeats 800000 in
theorem back_big {w : World} (n i : Int) (s : ByteArray) (v : Value) (p : List UInt8) (hp : Rd 0 w v p) (h : 12288 < s.size ∨ 12288 < p.length) :
    Calls Try.prog 5 #[.int .u64 n, .int .i64 i, .string s, v] w fun e w' => e = .returned (.bool true) ∧ Below w.heap.size w w' := by
  obtain ⟨sa, sc, rfl⟩ := hp.shape
  by_cases hs : 12288 < s.size
  · go_enter Try.func5, Try.ntmps5
    go_wp2_with fail
    refine (live_any _).mono ?_
    rintro e w1 ⟨rfl, hb⟩
    go_wp2_with fail
    go_ret
    exact ⟨rfl, hb⟩
  · have hpl : 12288 < p.length := by omega
    go_enter Try.func5, Try.ntmps5
    go_wp2_with fail
    refine (live_any _).mono ?_
    rintro e w1 ⟨rfl, hb⟩
    go_wp2_with fail
    go_ret
    exact ⟨rfl, hb⟩

theorem back_walk {w : World} (n i : Int) (s : ByteArray) (v : Value) (p : List UInt8) (hp : Rd 0 w v p) (wn : (Lit.int .u64 n).wf = true) (wi : (Lit.int .i64 i).wf = true) :
    Calls Try.prog 5 #[.int .u64 n, .int .i64 i, .string s, v] w fun e w' => e = .returned (.bool true) ∧ Below w.heap.size w w' := by
  by_cases hb : 12288 < s.size ∨ 12288 < p.length
  · exact back_big n i s v p hp hb
  · have hn : 0 ≤ n ∧ n < 18446744073709551616 := by
      simp [Lit.wf, IntKind.min, IntKind.max, IntKind.signed, IntKind.bits] at wn
      omega
    have hi : -9223372036854775808 ≤ i ∧ i ≤ 9223372036854775807 := by
      simp [Lit.wf, IntKind.min, IntKind.max, IntKind.signed, IntKind.bits] at wi
      omega
    obtain ⟨m, rfl⟩ := Int.eq_ofNat_of_zero_le hn.1
    exact back_first m i s v p hp (Lib.hid (by omega)) (Lib.hid hi) (by omega) (by omega)

set_option maxRecDepth 100000 in
theorem back_lifted (os : Os) (started : os.Started) (H : Type) (enc : TypeId × Value → H) :
    ReturnsInHanded {} Try.checked os 5 .any (Rows.codecBackSpec.pre6 enc Try.prog Try.f5 Rows.codecBackRow.domain false) (Rows.codecBackSpec.post enc Try.prog Try.f5 false true false false) := by
  refine returnsInHanded_of_change (C := Try.checked) own started (by kernel_rfl) Try.func5
    (ChangeSpec.witness6 (enc := enc) (C := Try.checked) false ⟨#[], #[.int .u64 0, .int .i64 0, .string ⟨#[]⟩, .slice none 0 0], []⟩ 8 (by kernel_rfl) (by kernel_rfl) (by kernel_rfl) (by kernel_rfl)) ?_
  intro W base args ds gs before hval0 hW hcnd _
  have hval : ∀ (j : Nat) t v, Try.f5.params[j]? = some t → args[j]? = some v → Value.okWide Try.prog W .any base t v := hval0
  have hW' := hW
  obtain ⟨p, q, hA0, hV, rfl, hfz, hnd⟩ := hW
  have hA : DataW.TrodAll enc Try.prog W 0 (fun _ => true) true Try.f5.params.toList args.toList ds p := hA0
  rw [Try.params5] at hA hval
  obtain ⟨v0, vs0, d0, ds0, p0, q0, hargs, rfl, rfl, h0, r0⟩ := trodAll_cons hA
  obtain ⟨v1, vs1, d1, ds1, p1, q1, rfl, rfl, rfl, h1, r1⟩ := trodAll_cons r0
  obtain ⟨v2, vs2, d2, ds2, p2, q2, rfl, rfl, rfl, h2, r2⟩ := trodAll_cons r1
  obtain ⟨v3, vs3, d3, ds3, p3, q3, rfl, rfl, rfl, h3, r3⟩ := trodAll_cons r2
  obtain ⟨rfl, rfl, rfl⟩ := trodAll_nil r3
  obtain rfl : args = #[v0, v1, v2, v3] := by cases args; simp_all
  obtain ⟨rfl, rfl⟩ := trodVars_none hV
  obtain ⟨a0, rfl, rfl, rfl, w0⟩ := open_int Try.underlying23 (hval 0 23 v0 rfl rfl) h0
  obtain ⟨a1, rfl, rfl, rfl, w1⟩ := open_int Try.underlying2 (hval 1 2 v1 rfl rfl) h1
  obtain ⟨s2, rfl, rfl, rfl, w2⟩ := open_string Try.underlying9 (hval 2 9 v2 rfl rfl) h2
  obtain ⟨l3, w3⟩ := open_bytes (hval 3 22 v3 rfl rfl) h3
  have lt3 := places_lt h3
  clear hA0 hval0
  refine (back_walk a0 a1 s2 v3 l3 w3 w0 w1).mono fun e W' ⟨he, bel⟩ => ?_
  subst he
  exact ⟨_, rfl, _, _, _, [], _, [], hW', trodAll_mk1 (shut_bool Try.underlying4 _), (trodAll_cons_mk (shut_int Try.underlying23 w0) (trodAll_cons_mk (shut_int Try.underlying2 w1) (trodAll_cons_mk (shut_string Try.underlying9 w2)
    (trodAll_cons_mk (Below.trod laidOut (by kernel_rfl) (of_decide_eq_true (by kernel_rfl)) h3 bel lt3) trodAll_mk0)))), rfl, bel.frame _, fun h => by cases h⟩

/-- The statement. -/
theorem back_holds : Rows.CodecBackSaid :=
  OpenClaim.holds_of_wide 5 Try.f5 rfl rfl rfl rfl rfl rfl rfl ⟨rfl, rfl, rfl, rfl, rfl⟩ rfl rfl rfl rfl rfl (by kernel_rfl) Try.func5 (by kernel_rfl)
    (of_decide_eq_true (by kernel_rfl)) (by unfold Func.isWrapper; first | (rw [if_pos (by decide +kernel)]; kernel_rfl) | (rw [if_neg (by decide +kernel)]; exact ⟨rfl, rfl⟩))
    (fun os started H enc _ => back_lifted os started H enc)

#print axioms back_holds
end Go.Proofs.Ytfjigkpgoalbnaa
