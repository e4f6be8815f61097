/-
  What codec's reader does with a text: (*Reader).text.
-/
import Derived.Test.YthaflimgigppaaaNext
import Derived.Test.YthaflimgigppaaaRuns
namespace Go.Proofs.Ythaflimgigppaaa
open Go.RowKit

/-- A text of at most 'most' bytes, out of bytes: an error, or the text and how many bytes it takes. -/
def textS (p : List UInt8) (most : Int) : Nat ⊕ (List UInt8 × Nat) :=
  match numS p with
  | .inl er => .inl er
  | .inr (n, len) => if most < 0 ∨ most < (n : Int) then .inl 1 else if p.length < len + n then .inl 3 else .inr ((p.drop len).take n, len + n)

/-- What text ends in. -/
def TextPost (w : World) (a : Nat) (v : Value) (p : List UInt8) (k e : Nat) (s : Nat ⊕ (List UInt8 × Nat)) (e' : Ending) (w' : World) : Prop :=
  w.grownBy w' (some a) ∧ match s with
    | .inl er => e' = .panicked (faultOf er) ∧ ∃ k', IsReader w' a v p k' e
    | .inr (l, len) => e' = .returned (.string (strOf l)) ∧ IsReader w' a v p (k + len) e

theorem numF_lt : ∀ (f i n : Nat) (p : List UInt8) (m len : Nat), n < 2 ^ (7 * i) → f + i = 10 → numF f i n p = .inr (m, len) → m < 18446744073709551616 ∧ len ≤ i + p.length ∧ i < len := by
  intro f
  induction f with
  | zero => intro i n p m len _ _ h; simp [numF] at h
  | succ f ih =>
    intro i n p m len hn hf h
    cases p with
    | nil => simp [numF] at h
    | cons c r =>
      rw [numF] at h
      by_cases h1 : i = 9 ∧ 1 < c.toNat
      · simp [h1] at h
      rw [if_neg h1] at h
      by_cases h2 : 0 < i ∧ c.toNat = 0
      · simp [h2] at h
      rw [if_neg h2] at h
      by_cases h3 : c.toNat < 128
      · rw [if_pos h3] at h
        simp only [Sum.inr.injEq, Prod.mk.injEq] at h
        obtain ⟨rfl, rfl⟩ := h
        refine ⟨?_, by simp, by omega⟩
        by_cases h9 : i = 9
        · subst h9; omega
        · have h4 := num_bound hn h3
          have h5 := num_fits (i := i) (by omega)
          omega
      · rw [if_neg h3] at h
        have h4 := num_bound (m := c.toNat % 128) hn (by omega)
        have := ih (i + 1) _ r m len h4 (by omega) h
        simp only [List.length_cons]
        omega
theorem numS_lt {p : List UInt8} {m len : Nat} (h : numS p = .inr (m, len)) : Hid (m < 18446744073709551616) ∧ len ≤ p.length ∧ 0 < len := by
  have := numF_lt 10 0 0 p m len (by simp) rfl h
  exact ⟨this.1, by omega, by omega⟩

set_option maxRecDepth 20000 in
set_option maxHeartbeats 400000 in
theorem text_any {w : World} {a : Nat} {v : Value} {p : List UInt8} {k e : Nat} (h : IsReader w a v p k e) (most : Int) (hm : most ≤ 9223372036854775807) :
    Calls Try.prog 21 #[.pointer (some ⟨a, 0, none⟩), .int .i64 most] w (TextPost w a v p k e (textS (p.drop k) most)) := by
  have hnum := num_any h
  cases hS : numS (p.drop k) with
  | inl er =>
    have hT : textS (p.drop k) most = .inl er := by simp [textS, hS]
    rw [hS] at hnum
    rw [hT]
    have HN := Lib.hid hnum
    clear hnum hS hT hm
    go_enter Try.func21, Try.ntmps21
    go_wp2_with fail
    refine HN.out.mono ?_
    rintro e' w1 ⟨hg, rfl, hr⟩
    go_wp2_with fail
    exact ⟨rfl, hg, rfl, hr⟩
  | inr x =>
    obtain ⟨n, len⟩ := x
    obtain ⟨hn, hlen, hlen0⟩ := numS_lt hS
    have hlp : len ≤ p.length - k := by simpa using hlen
    have hlek := h.le
    rw [hS] at hnum
    have HN := Lib.hid hnum
    clear hnum
    have HS := Lib.hid hS
    clear hS
    by_cases hneg : most < 0
    · have hT : textS (p.drop k) most = .inl 1 := by simp [textS, HS.out, hneg]
      rw [hT]
      clear hT
      go_enter Try.func21, Try.ntmps21
      go_wp2_with fail
      refine HN.out.mono ?_
      rintro e' w1 ⟨hg, rfl, hr⟩
      go_wp2_with fail
      exact ⟨rfl, hg, rfl, _, hr⟩
    · by_cases hgt : most < (n : Int)
      · have hT : textS (p.drop k) most = .inl 1 := by simp [textS, HS.out, hgt]
        rw [hT]
        clear hT
        go_enter Try.func21, Try.ntmps21
        go_wp2_with fail
        refine HN.out.mono ?_
        rintro e' w1 ⟨hg, rfl, hr⟩
        go_wp2_with fail
        exact ⟨rfl, hg, rfl, _, hr⟩
      · have hle : (n : Int) ≤ most := by omega
        by_cases hsh : p.length - k < len + n
        · have hT : textS (p.drop k) most = .inl 3 := by
            simp only [textS, HS.out]
            rw [if_neg (by omega), if_pos (by simpa using hsh)]
          rw [hT]
          clear hT
          go_enter Try.func21, Try.ntmps21
          go_wp2_with fail
          refine HN.out.mono ?_
          rintro e' w1 ⟨hg, rfl, hr⟩
          go_wp2_with fail
          refine (left_any hr).mono ?_
          rintro e' w2 ⟨rfl, m, rfl⟩
          have hbd := hr.le
          have hsm := hr.small
          go_wp2_with fail
          exact ⟨rfl, grown_trans hg (grown_drewN _ _ _), rfl, _, hr.drewN _⟩
        · have hT : textS (p.drop k) most = .inr (((p.drop k).drop len).take n, len + n) := by
            simp only [textS, HS.out]
            rw [if_neg (by omega), if_neg (by simpa using hsh)]
          rw [hT]
          clear hT
          obtain ⟨lo, hlo⟩ : ∃ lo, lo = k + len := ⟨_, rfl⟩
          have hb2 : lo + n ≤ p.length := by omega
          have HL := Lib.hid hlo
          rw [List.drop_drop, ← hlo]
          clear hlo
          go_enter Try.func21, Try.ntmps21
          go_wp2_with fail
          refine HN.out.mono ?_
          rintro e' w1 ⟨hg, rfl, hr⟩
          rw [← HL.out] at hr
          go_wp2_with fail
          refine (left_any hr).mono ?_
          rintro e' w2 ⟨rfl, m, rfl⟩
          have hsm := hr.small
          have c1 := hr.c1
          have f1 := hr.f1
          have hr2 := (hr.drewN m).at_ (k' := lo + n) hb2
          have hg2 : w.grownBy ((w1.drewN m).setCell ⟨a, 1, none⟩ (.int .i64 ((lo + n : Nat) : Int))) (some a) := grown_trans (grown_trans hg (grown_drewN _ _ _)) (grown_set _ _ _ _)
          rw [Int.natCast_add] at hr2 hg2
          go_wp2_with fail
          generalize (w1.drewN m).setCell ⟨a, 1, none⟩ (.int .i64 ((lo : Int) + (n : Int))) = w2 at hr2 hg2 ⊢
          clear c1 f1 hr
          have c0 := hr2.c0
          have c1 := hr2.c1
          rw [Int.natCast_add] at c1
          obtain ⟨v', hv', hob, hcut⟩ := rd_cut hr2.rd lo (lo + n) (by omega) (by omega)
          rw [Int.natCast_add] at hcut
          rw [show lo + n - lo = n by omega] at hv'
          have hcv := rd_string hv'
          have hcv' : ∀ q, (convert 24 9 v').run Try.prog (w2.drewN q) = .ok (.string (strOf ((p.drop lo).take n))) (w2.drewN q) := fun q => rd_string (hv'.keep (below_drewN (Below.refl _ _) q))
          clear hcv hob hv'
          go_quiet (fail)
          go_wp2
          go_ret
          refine ⟨grown_trans hg2 (grown_drewN _ _ _), rfl, ?_⟩
          rw [show k + (len + n) = lo + n by rw [HL.out]; omega]
          exact hr2.drewN _

end Go.Proofs.Ythaflimgigppaaa
