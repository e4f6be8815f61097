/-
  What the small functions do: mayHave, tooLong, num; slices.Clone of texts and of writes; slices.ContainsFunc of texts that are too long.
-/
import Derived.Test.YthamjlhkiabcnaaDBase
namespace Go.Proofs.Ythamjlhkiabcnaa
open Go.RowKit

set_option maxHeartbeats 400000 in
theorem num_any (n : Int) (w : World) : Calls Try.prog 14 #[.int .i64 n] w fun e w' => e = .returned (.int .i64 n) ∧ w = w' := by
  go_enter Try.func14, Try.ntmps14
  go_wp2
  go_ret
  exact ⟨rfl, rfl⟩

set_option maxHeartbeats 400000 in
theorem mayHave_yes (n : Int) (w : World) (h1 : 1 ≤ n) (h2 : n ≤ 4096) : Calls Try.prog 36 #[.int .i64 n] w fun e w' => e = .returned (.bool true) ∧ w = w' := by
  go_enter Try.func36, Try.ntmps36
  go_wp2
  go_ret
  exact ⟨rfl, rfl⟩

set_option maxHeartbeats 400000 in
theorem mayHave_no (n : Int) (w : World) (h : n < 1 ∨ 4096 < n) : Calls Try.prog 36 #[.int .i64 n] w fun e w' => e = .returned (.bool false) ∧ w = w' := by
  rcases Int.lt_or_le n 1 with h1 | h1
  · go_enter Try.func36, Try.ntmps36
    go_wp2
    go_ret
    exact ⟨rfl, rfl⟩
  · have h2 : decide (n ≤ 4096) = false := by simp; omega
    clear h
    go_enter Try.func36, Try.ntmps36
    go_wp2
    go_ret
    exact ⟨rfl, rfl⟩

set_option maxHeartbeats 400000 in
theorem tooLong_any (s : ByteArray) (w : World) (hs : s.size ≤ maxLen) : Calls Try.prog 38 #[.string s] w fun e w' => e = .returned (.bool (decide (1024 < s.size))) ∧ w = w' := by
  unfold maxLen at hs
  by_cases h : 1024 < s.size
  · go_enter Try.func38, Try.ntmps38
    go_wp2
    go_ret
    exact ⟨by simp; omega, rfl⟩
  · have h' : s.size ≤ 1024 := by omega
    go_enter Try.func38, Try.ntmps38
    go_wp2
    go_ret
    exact ⟨by simp; omega, rfl⟩

set_option maxHeartbeats 400000 in
theorem cloneS_any {w : World} {v : Value} {l : List ByteArray} (h : Row w 1 v l.length (strs l)) (hl : l.length ≤ 1099511627776) :
    Calls Try.prog 49 #[v] w fun e w' => ∃ v', e = .returned v' ∧ w'.ownsRow w.heap.size 9 1 v' l.length (strs l) ∧ Below w.heap.size w w' := by
  obtain ⟨i0, hi, hz0, hz1, hz2⟩ := info_parts rowS
  rcases h.2 with ⟨rfl, hn⟩ | ⟨b, off, cap, rfl, h1, h2, h3, h4⟩
  · have hnil : l = [] := List.eq_nil_of_length_eq_zero hn
    subst hnil
    have hq := fun (w : World) => Lib.run_eql_slice_nil (P := Try.prog) w 22 9 none 0 0 0 0 Try.underlying22
    go_enter Try.func49, Try.ntmps49
    go_wp2
    go_ret
    exact ⟨_, rfl, World.ownsRow_nil w _ _ 1, Below.refl _ _⟩
  · have hN := row_news h4
    have hq := fun (w : World) => Lib.run_eql_slice_nil (P := Try.prog) w 22 9 (some ⟨b, off, none⟩) l.length cap 0 0 Try.underlying22
    have hown0 : (w.alloc (.cells #[] 9)).ownsRow w.heap.size 9 1 (.slice (some ⟨w.heap.size, 0, none⟩) 0 0) 0 [] := World.ownsRow_made w #[] 0 (Nat.le_refl _) (by unfold maxLen; omega) rfl
    go_enter Try.func49, Try.ntmps49
    go_wp2_with (first
      | (at_builtin; refine wpList_append_own _ rfl _ _ 22 rfl w.heap.size 9 i0 (.string ⟨#[]⟩) 1 16 Try.underlying22 hi hz0 hz1 hz2 rfl (by decide) _ _ _ rfl hown0 ⟨b, off, none⟩ l.length cap (strs l) rfl (by simp [strs]) ?c1 (strs_oneCell l) (by unfold maxLen; omega) (by omega) (by simp) ?_))
    case c1 => exact fun j u hu => (World.grownBy_alloc w _ none).cell (hN j u hu) (by simp)
    intro v' w' hown' hgrow' _
    go_wp2
    go_ret
    refine ⟨_, rfl, ?_, ?_⟩
    · simpa using hown'
    · refine ((Below.refl _ _).alloc (Nat.le_refl _) _).grown hgrow' (by simp) ?_
      intro k hk
      simp [Value.ownBlock] at hk
      omega

set_option maxHeartbeats 400000 in
theorem cloneW_any {w : World} {v : Value} {l : List (Int × ByteArray)} (h : Row w 2 v l.length (wrs l)) (hl : l.length ≤ 1099511627776) :
    Calls Try.prog 48 #[v] w fun e w' => ∃ v', e = .returned v' ∧ w'.ownsRow w.heap.size 51 2 v' l.length (wrs l) ∧ Below w.heap.size w w' := by
  obtain ⟨i0, hi, hz0, hz1, hz2⟩ := info_parts rowW
  rcases h.2 with ⟨rfl, hn⟩ | ⟨b, off, cap, rfl, h1, h2, h3, h4⟩
  · have hnil : l = [] := List.eq_nil_of_length_eq_zero hn
    subst hnil
    have hq := fun (w : World) => Lib.run_eql_slice_nil (P := Try.prog) w 46 51 none 0 0 0 0 Try.underlying46
    go_enter Try.func48, Try.ntmps48
    go_wp2
    go_ret
    exact ⟨_, rfl, World.ownsRow_nil w _ _ 2, Below.refl _ _⟩
  · have hN := row_news h4
    have hq := fun (w : World) => Lib.run_eql_slice_nil (P := Try.prog) w 46 51 (some ⟨b, off, none⟩) l.length cap 0 0 Try.underlying46
    have hown0 : (w.alloc (.cells #[] 51)).ownsRow w.heap.size 51 2 (.slice (some ⟨w.heap.size, 0, none⟩) 0 0) 0 [] := World.ownsRow_made w #[] 0 (Nat.le_refl _) (by unfold maxLen; omega) rfl
    go_enter Try.func48, Try.ntmps48
    go_wp2_with (first
      | (at_builtin; refine wpList_append_own _ rfl _ _ 46 rfl w.heap.size 51 i0 (.agg #[.int .i64 0, .string ⟨#[]⟩]) 2 24 Try.underlying46 hi hz0 hz1 hz2 rfl (by decide) _ _ _ rfl hown0 ⟨b, off, none⟩ l.length cap (wrs l) rfl (wrs_length l) ?c1 (wrs_oneCell l) (by unfold maxLen; omega) (by omega) (by simp) ?_))
    case c1 => exact fun j u hu => (World.grownBy_alloc w _ none).cell (hN j u hu) (by simp)
    intro v' w' hown' hgrow' _
    go_wp2
    go_ret
    refine ⟨_, rfl, ?_, ?_⟩
    · simpa using hown'
    · refine ((Below.refl _ _).alloc (Nat.le_refl _) _).grown hgrow' (by simp) ?_
      intro k hk
      simp [Value.ownBlock] at hk
      omega

/-- Is a text of the list too long? -/
def anyLong (l : List ByteArray) : Bool := l.any fun s => decide (1024 < s.size)
theorem anyLong_snoc (l : List ByteArray) (k : Nat) (h : k < l.length) (h0 : anyLong (l.take k) = false) : anyLong (l.take (k + 1)) = decide (1024 < (l[k]).size) := by
  unfold anyLong at h0 ⊢
  rw [List.take_succ_eq_append_getElem h, List.any_append, h0]
  simp
theorem anyLong_hit (l : List ByteArray) (k : Nat) (h : k < l.length) (hs : 1024 < (l[k]).size) : anyLong l = true := by
  unfold anyLong
  rw [List.any_eq_true]
  exact ⟨_, List.getElem_mem h, by simpa using hs⟩

def IdxPost (l : List ByteArray) (w : World) (e : Ending) (w' : World) : Prop := (∃ i : Int, e = .returned (.int .i64 i) ∧ decide (0 ≤ i) = anyLong l) ∧ w = w'

set_option maxHeartbeats 800000 in
theorem indexFunc_any {w : World} {v : Value} {l : List ByteArray} (h : Row w 1 v l.length (strs l)) (hl : l.length ≤ 1099511627776) (hs : ∀ s ∈ l, s.size ≤ maxLen) :
    Calls Try.prog 52 #[v, .func (.func 38) #[] #[]] w (IdxPost l w) := by
  rcases h.2 with ⟨rfl, hn⟩ | ⟨b, off, cap, rfl, h1, h2, h3, h4⟩
  · have hnil : l = [] := List.eq_nil_of_length_eq_zero hn
    subst hnil
    go_enter Try.func52, Try.ntmps52
    go_wp2_with fail
    go_loop [8] (fun i => i = .int .i64 0) (fun _ => 0)
    case atStart => rfl
    case round =>
      subst hrel
      go_wp2_with fail
      go_ret
      exact ⟨⟨-1, rfl, rfl⟩, rfl⟩
  · have hN := fun k hk => h.strAt rfl (l := l) (i := k) hk
    have HS := Lib.hid hs
    clear hs h4 h
    go_enter Try.func52, Try.ntmps52
    go_wp2_with fail
    go_loop [8] (fun i => ∃ k : Nat, k ≤ l.length ∧ i = .int .i64 k ∧ anyLong (l.take k) = false) (fun i => l.length - (intOf i).toNat)
    case atStart => exact ⟨0, Nat.zero_le _, rfl, rfl⟩
    case round =>
      obtain ⟨k, hk, rfl, hrel⟩ := hrel
      have HR := Lib.hid hrel
      clear hrel
      by_cases hlt : k < l.length
      · have hc := hN k hlt
        have hstep := Lib.hid (anyLong_snoc l k hlt HR.out)
        have hhit := Lib.hid (anyLong_hit l k hlt)
        have hsz := HS.out _ (List.getElem_mem hlt)
        clear hN
        by_cases hlong : 1024 < (l[k]).size
        · go_wp2_with fail
          refine (tooLong_any _ _ hsz).mono ?_
          rintro e w1 ⟨rfl, rfl⟩
          rw [show decide (1024 < (l[k]).size) = true from by simpa using hlong]
          go_wp2_with fail
          go_ret
          exact ⟨⟨k, rfl, by rw [hhit.out hlong]; simp⟩, rfl⟩
        · go_wp2_with fail
          refine (tooLong_any _ _ hsz).mono ?_
          rintro e w1 ⟨rfl, rfl⟩
          rw [show decide (1024 < (l[k]).size) = false from by simpa using hlong]
          go_wp2_with fail
          go_round
          case rel => exact ⟨k + 1, by omega, by go_num, by rw [hstep.out]; simpa using hlong⟩
          case measure => simp [intOf]; omega
      · obtain rfl : k = l.length := by omega
        clear hN
        go_wp2_with fail
        go_ret
        refine ⟨⟨-1, rfl, ?_⟩, rfl⟩
        rw [← List.take_length (l := l), HR.out]
        rfl

set_option maxHeartbeats 400000 in
theorem containsFunc_any {w : World} {v : Value} {l : List ByteArray} (h : Row w 1 v l.length (strs l)) (hl : l.length ≤ 1099511627776) (hs : ∀ s ∈ l, s.size ≤ maxLen) :
    Calls Try.prog 37 #[v, .func (.func 38) #[] #[]] w fun e w' => e = .returned (.bool (anyLong l)) ∧ w = w' := by
  go_enter Try.func37, Try.ntmps37
  go_wp2_with fail
  refine (indexFunc_any h hl hs).mono ?_
  rintro e w1 ⟨⟨i, rfl, hi⟩, rfl⟩
  have Hi := Lib.hid hi
  clear hi
  go_wp2_with fail
  go_ret
  exact ⟨ret_bool Hi.out, rfl⟩

end Go.Proofs.Ythamjlhkiabcnaa
