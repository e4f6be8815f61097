/-
  What is asked of a table of numbers: Len, Find, Value; and the law's find.
-/
import Derived.Test.YtmbaedldikobcaaKLive
namespace Go.Proofs.Ytmbaedldikobcaa
open Go.RowKit Go.Maps
set_option linter.unusedVariables false

theorem look_no0 {w : World} {B a b : Nat} {v : Value} {ws : List ByteArray} (h : IsIn w B a b v ws) {s : ByteArray} (hs : s.size ≤ maxLen) (hi : s ∉ ws) :
    Calls Try.prog 108 #[.pointer (some ⟨a, 0, none⟩), .string s] w fun e w' => e = .returned (.tuple #[.int .i64 0, .bool false, .bool true]) ∧ w = w' := by
  obtain ⟨x, ps, D, h1, hd, h2⟩ := h.look hs
  obtain ⟨n, rfl, h3, _⟩ := plainElem_int_inv Try.underlying3 h2
  have hf : Maps.has D (keyS s) = false := by cases e : Maps.has D (keyS s); rfl; exact absurd ((hd.has s).1 e) hi
  rw [atKey_of_not_has hf] at h3
  simp at h3
  obtain ⟨rfl, _⟩ := h3
  rw [hf] at h1
  exact look_any h.lay h1

set_option maxHeartbeats 400000 in
theorem ilen {w : World} {B a b : Nat} {v : Value} {ws : List ByteArray} (h : IsIn w B a b v ws) : Calls Try.prog 62 #[.pointer (some ⟨a, 0, none⟩)] w fun e w' => e = .returned (.int .i64 (ws.length : Int)) ∧ w = w' := by
  obtain ⟨av, cv, rfl⟩ := (row_of_own h.row).shape
  have c1 : w.cell? ⟨a, 1, none⟩ = some (.slice av ws.length cv) := cellB h.lay rfl
  clear h
  go_enter Try.func62, Try.ntmps62
  go_wp2_with fail
  go_returns
  exact ⟨rfl, rfl⟩
set_option maxHeartbeats 400000 in
theorem ifind_yes {w : World} {B a b : Nat} {v : Value} {ws : List ByteArray} (h : IsIn w B a b v ws) {s : ByteArray} (hs : s.size ≤ maxLen) {i : Nat} (hi : ws[i]? = some s) :
    Calls Try.prog 63 #[.pointer (some ⟨a, 0, none⟩), .string s] w fun e w' => e = .returned (.tuple #[.int .i64 (i : Int), .bool true]) ∧ w = w' := by
  have H := Lib.hid h
  have HI := Lib.hid hi
  clear h hi
  go_enter Try.func63, Try.ntmps63
  go_wp2_with fail
  refine (look_yes H.out hs HI.out).mono ?_
  rintro e w1 ⟨rfl, rfl⟩
  go_wp2_with fail
  go_returns
  exact ⟨rfl, rfl⟩
set_option maxHeartbeats 400000 in
theorem ifind_no {w : World} {B a b : Nat} {v : Value} {ws : List ByteArray} (h : IsIn w B a b v ws) {s : ByteArray} (hs : s.size ≤ maxLen) (hi : s ∉ ws) :
    Calls Try.prog 63 #[.pointer (some ⟨a, 0, none⟩), .string s] w fun e w' => e = .returned (.tuple #[.int .i64 0, .bool false]) ∧ w = w' := by
  have H := Lib.hid h
  have HI := Lib.hid hi
  clear h hi
  go_enter Try.func63, Try.ntmps63
  go_wp2_with fail
  refine (look_no0 H.out hs HI.out).mono ?_
  rintro e w1 ⟨rfl, rfl⟩
  go_wp2_with fail
  go_returns
  exact ⟨rfl, rfl⟩
set_option maxHeartbeats 400000 in
theorem ivalue_yes {w : World} {B a b : Nat} {v : Value} {ws : List ByteArray} (h : IsIn w B a b v ws) (i : Nat) (hi : i < ws.length) (hl : ws.length < 1000000) :
    Calls Try.prog 64 #[.pointer (some ⟨a, 0, none⟩), .int .i64 (i : Int)] w fun e w' => e = .returned (.tuple #[.string (ws[i]), .bool true]) ∧ w = w' := by
  have H := Lib.hid h
  obtain ⟨av, cv, rfl, hx⟩ := (row_of_own h.row).at
  obtain ⟨gb, go, rfl, q⟩ := hx (by omega)
  have c1 : w.cell? ⟨a, 1, none⟩ = some (.slice (some ⟨gb, go, none⟩) ws.length cv) := cellB h.lay rfl
  have c2 := q i _ (strs_at ws i hi)
  clear h q hx
  generalize ws[i] = x at *
  have h0 : (0 : Int) ≤ (i : Int) := by omega
  have h1 : (i : Int) < (ws.length : Int) := by omega
  go_enter Try.func64, Try.ntmps64
  go_wp2_with fail
  refine (ilen H.out).mono ?_
  rintro e w1 ⟨rfl, rfl⟩
  go_wp2_with fail
  go_returns
  exact ⟨rfl, rfl⟩
set_option maxHeartbeats 400000 in
theorem ivalue_low {w : World} {a : Nat} (i : Int) (hi : i < 0) :
    Calls Try.prog 64 #[.pointer (some ⟨a, 0, none⟩), .int .i64 i] w fun e w' => e = .returned (.tuple #[.string ⟨#[]⟩, .bool false]) ∧ w = w' := by
  go_enter Try.func64, Try.ntmps64
  go_wp2_with fail
  go_returns
  exact ⟨rfl, rfl⟩
set_option maxHeartbeats 400000 in
theorem ivalue_high {w : World} {B a b : Nat} {v : Value} {ws : List ByteArray} (h : IsIn w B a b v ws) (i : Int) (h0 : 0 ≤ i) (hi : (ws.length : Int) ≤ i) :
    Calls Try.prog 64 #[.pointer (some ⟨a, 0, none⟩), .int .i64 i] w fun e w' => e = .returned (.tuple #[.string ⟨#[]⟩, .bool false]) ∧ w = w' := by
  have H := Lib.hid h
  clear h
  go_enter Try.func64, Try.ntmps64
  go_wp2_with fail
  refine (ilen H.out).mono ?_
  rintro e w1 ⟨rfl, rfl⟩
  go_wp2_with fail
  go_returns
  exact ⟨rfl, rfl⟩

theorem ne_bytes {a b : ByteArray} (h : a ≠ b) : (a.toList == b.toList) = false := by
  cases e : a.toList == b.toList
  · rfl
  · exact absurd (toList_inj (eq_of_beq e)) h

set_option maxHeartbeats 800000 in
theorem lfind_no {w : World} {v : Value} {l : List ByteArray} {s : ByteArray} (h : Row w 1 v l.length (strs l)) (hl : l.length < 1000000) (hs : s ∉ l) :
    Calls Try.prog 60 #[v, .string s] w fun e w' => e = .returned (.int .i64 (-1)) ∧ w = w' := by
  obtain ⟨aa, ca, rfl, xa⟩ := h.at
  have XA := Lib.hid xa
  have HS := Lib.hid hs
  clear h xa hs
  go_enter Try.func60, Try.ntmps60
  go_wp2_with fail
  go_loop [5] (fun v => ∃ k : Nat, v = .int .i64 (k : Int) ∧ k ≤ l.length) (fun v => l.length - (intOf v).toNat)
  case atStart => exact ⟨0, rfl, Nat.zero_le _⟩
  case round =>
    obtain ⟨k, rfl, hk⟩ := hrel
    by_cases hlt : k < l.length
    · obtain ⟨b1, o1, rfl, q1⟩ := XA.out (by omega)
      have c1 := q1 k _ (strs_at l k hlt)
      have hne := ne_bytes (a := l[k]) (b := s) (fun e => HS.out (e ▸ List.getElem_mem hlt))
      clear q1 XA HS
      generalize l[k] = x at *
      have hk0 : (0 : Int) ≤ (k : Int) := by omega
      have hk1 : (k : Int) < (l.length : Int) := by omega
      go_wp2_with fail
      go_round
      case rel => exact ⟨k + 1, by go_num, by omega⟩
      case measure => simp [intOf]; omega
    · obtain rfl : k = l.length := by omega
      go_wp2_with fail
      go_returns
      exact ⟨rfl, rfl⟩
set_option maxHeartbeats 800000 in
theorem lfind_yes {w : World} {v : Value} {l : List ByteArray} {s : ByteArray} {i : Nat} (h : Row w 1 v l.length (strs l)) (hl : l.length < 1000000) (hi : l[i]? = some s) (hd : l.Nodup) :
    Calls Try.prog 60 #[v, .string s] w fun e w' => e = .returned (.int .i64 (i : Int)) ∧ w = w' := by
  obtain ⟨aa, ca, rfl, xa⟩ := h.at
  have hil : i < l.length := (List.getElem?_eq_some_iff.1 hi).1
  have hie : l[i] = s := (List.getElem?_eq_some_iff.1 hi).2
  have XA := Lib.hid xa
  have HD := Lib.hid hd
  have HE := Lib.hid hie
  clear h xa hi hd hie
  go_enter Try.func60, Try.ntmps60
  go_wp2_with fail
  go_loop [5] (fun v => ∃ k : Nat, v = .int .i64 (k : Int) ∧ k ≤ i) (fun v => l.length - (intOf v).toNat)
  case atStart => exact ⟨0, rfl, Nat.zero_le _⟩
  case round =>
    obtain ⟨k, rfl, hk⟩ := hrel
    have hlt : k < l.length := by omega
    obtain ⟨b1, o1, rfl, q1⟩ := XA.out (by omega)
    have c1 := q1 k _ (strs_at l k hlt)
    have hk0 : (0 : Int) ≤ (k : Int) := by omega
    have hk1 : (k : Int) < (l.length : Int) := by omega
    by_cases hki : k = i
    · subst hki
      rw [HE.out] at c1
      have hq := beq_self_list s
      clear q1 XA
      go_wp2_with fail
      go_returns
      exact ⟨rfl, rfl⟩
    · have hne := ne_bytes (a := l[k]) (b := s) (fun e => hki ((List.getElem_inj HD.out).1 (e.trans HE.out.symm)))
      clear q1 XA HE
      generalize l[k] = x at *
      have hki' : k < i := by omega
      clear hki
      go_wp2_with fail
      go_round
      case rel => exact ⟨k + 1, by go_num, by omega⟩
      case measure => simp [intOf]; omega

end Go.Proofs.Ytmbaedldikobcaa
