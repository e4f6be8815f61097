/-
  How large a net is behind k acts; the law's huge.
-/
import Derived.Test.YtgnmieobgdbafaaNLiv
import Derived.Test.YtgnmieobgdbafaaNArg
namespace Go.Proofs.Ytgnmieobgdbafaa
open Go.RowKit
set_option linter.unusedVariables false
/-- Behind k acts. -/
structure Bd (k : Nat) (x : Nt) : Prop where
  ids : x.ids ≤ k
  hd : x.hd.length ≤ k
  fl : x.fl.length ≤ k
  st : ∀ j, 0 ≤ x.st j ∧ x.st j ≤ (k : Int)
  cm : ∀ j, 0 ≤ x.cm j ∧ x.cm j ≤ (k : Int)
  pk : ∀ p ∈ x.fl, p.fr < 3 ∧ p.tt < 3 ∧ 0 ≤ p.hl ∧ p.hl ≤ 1000
theorem Bd.more {k m : Nat} {x : Nt} (h : Bd k x) (hm : k ≤ m) : Bd m x :=
  ⟨Nat.le_trans h.ids hm, Nat.le_trans h.hd hm, Nat.le_trans h.fl hm, fun j => by have := h.st j; omega, fun j => by have := h.cm j; omega, h.pk⟩
theorem Bd.new : Bd 0 newNt := ⟨Nat.le_refl _, Nat.le_refl _, Nat.le_refl _, fun j => ⟨Int.le_refl _, Int.le_refl _⟩, fun j => ⟨Int.le_refl _, Int.le_refl _⟩, fun p hp => (by cases hp)⟩
theorem Bd.st9 {k : Nat} {x : Nt} (h : Bd k x) (hk : k ≤ 1000000) : ∀ j, x.st j ≤ 1000000000 ∧ -1000000000 ≤ x.st j := fun j => by have := h.st j; omega
theorem Bd.cm9 {k : Nat} {x : Nt} (h : Bd k x) (hk : k ≤ 1000000) : ∀ j, x.cm j ≤ 1000000000 ∧ -1000000000 ≤ x.cm j := fun j => by have := h.cm j; omega
theorem upd_in {k : Nat} {f : Nat → Int} (h : ∀ j, 0 ≤ f j ∧ f j ≤ (k : Int)) (i : Nat) : ∀ j, 0 ≤ upd f i (f i + 1) j ∧ upd f i (f i + 1) j ≤ ((k + 1 : Nat) : Int) := fun j => by
  unfold upd
  split
  · have := h i; omega
  · have := h j; omega
theorem in_more {k : Nat} {f : Nat → Int} (h : ∀ j, 0 ≤ f j ∧ f j ≤ (k : Int)) : ∀ j, 0 ≤ f j ∧ f j ≤ ((k + 1 : Nat) : Int) := fun j => by have := h j; omega
theorem areB_nat {f t : Int} (h : areB f t = true) : ∃ i j : Nat, f = (i : Int) ∧ t = (j : Int) ∧ i < 3 ∧ j < 3 := by
  obtain ⟨g0, g1, g2, g3, g4⟩ := areB_nodes h
  exact ⟨f.toNat, t.toNat, by omega, by omega, by omega, by omega⟩
theorem sendP_cases (x : Nt) (f t : Int) (b : ByteArray) : (∃ e : Int, e ≠ 0 ∧ sendP x f t b = (x, 0, e)) ∨ ∃ i j : Nat, f = (i : Int) ∧ t = (j : Int) ∧ i < 3 ∧ j < 3 ∧ ¬ 1024 ≤ x.fl.length ∧
    sendP x f t b = ({ x with ids := x.ids + 1, fl := x.fl ++ [⟨x.ids + 1, i, j, b, 0⟩], hd := x.hd ++ [⟨x.ids + 1, i, j, b, 0⟩], st := upd x.st (lk i j) (x.st (lk i j) + 1) }, x.ids + 1, 0) := by
  cases h : areB f t
  · exact .inl ⟨150, by decide, sendP_no h⟩
  by_cases hb : 4096 < b.size
  · exact .inl ⟨1, by decide, sendP_long h hb⟩
  by_cases h3 : 1024 ≤ x.fl.length ∨ 65536 ≤ x.hd.length
  · exact .inl ⟨6, by decide, sendP_many h hb h3⟩
  obtain ⟨i, j, rfl, rfl, hi, hj⟩ := areB_nat h
  exact .inr ⟨i, j, rfl, rfl, hi, hj, fun h => h3 (.inl h), sendP_ok h hb h3⟩
theorem Bd.send {k : Nat} {x : Nt} (h : Bd k x) (f t : Int) (b : ByteArray) : Bd (k + 1) (sendP x f t b).1 := by
  rcases sendP_cases x f t b with ⟨e, _, he⟩ | ⟨i, j, rfl, rfl, hi, hj, _, he⟩
  · rw [he]; exact h.more (Nat.le_succ _)
  · rw [he]
    refine ⟨Nat.succ_le_succ h.ids, by have := h.hd; simp; omega, by have := h.fl; simp; omega, upd_in h.st _, in_more h.cm, fun p hp => ?_⟩
    rcases List.mem_append.1 hp with hp | hp
    · exact h.pk p hp
    · obtain rfl := List.mem_singleton.1 hp
      exact ⟨hi, hj, Int.le_refl _, by show (0 : Int) ≤ 1000; omega⟩
theorem mem_out {l : List Pk} {k : Nat} {p : Pk} (h : p ∈ outP l k) : p ∈ l := by
  unfold outP at h
  rcases List.mem_append.1 h with h | h
  · exact List.mem_of_mem_take h
  · exact List.mem_of_mem_drop h
theorem out_le (l : List Pk) (k : Nat) : (outP l k).length ≤ l.length := by unfold outP; simp; omega
theorem delP_cases (x : Nt) (i : Int) : (∃ e : Int, e ≠ 0 ∧ delP x i = (x, zeroP, e)) ∨ ∃ (k : Nat) (p : Pk), i = (k : Int) ∧ x.fl[k]? = some p ∧ stopP x p = 0 ∧
    delP x i = ({ x with fl := outP x.fl k, cm := upd x.cm (lk p.fr p.tt) (x.cm (lk p.fr p.tt) + 1) }, p, 0) := by
  rcases hg : getP x.fl i with _ | p
  · exact .inl ⟨7, by decide, delP_no hg⟩
  by_cases hs : stopP x p = 0
  · obtain ⟨k, rfl, hk, _, _⟩ := getP_some hg
    exact .inr ⟨k, p, rfl, hk, hs, delP_ok hg hs⟩
  · exact .inl ⟨_, hs, delP_stop hg hs⟩
theorem Bd.del {k : Nat} {x : Nt} (h : Bd k x) (i : Int) : Bd (k + 1) (delP x i).1 := by
  rcases delP_cases x i with ⟨e, _, he⟩ | ⟨m, p, rfl, _, _, he⟩
  · rw [he]; exact h.more (Nat.le_succ _)
  · rw [he]
    exact ⟨Nat.le_succ_of_le h.ids, Nat.le_succ_of_le h.hd, Nat.le_succ_of_le (Nat.le_trans (out_le _ _) h.fl), in_more h.st, upd_in h.cm _, fun p hp => h.pk p (mem_out hp)⟩
theorem Bd.drop {k : Nat} {x : Nt} (h : Bd k x) (i : Int) : Bd k (dropP x i).1 := by
  unfold dropP
  split
  · exact h
  · exact ⟨h.ids, h.hd, Nat.le_trans (out_le _ _) h.fl, h.st, h.cm, fun p hp => h.pk p (mem_out hp)⟩
theorem Bd.dbl {k : Nat} {x : Nt} (h : Bd k x) (i : Int) : Bd (k + 1) (dblP x i).1 := by
  rcases hg : getP x.fl i with _ | p
  · rw [dblP_no hg]; exact h.more (Nat.le_succ _)
  by_cases hd : 1024 ≤ x.fl.length
  · rw [dblP_many hg hd]; exact h.more (Nat.le_succ _)
  rw [dblP_ok hg hd]
  obtain ⟨m, rfl, hm, _, _⟩ := getP_some hg
  have hp := h.pk p (List.mem_of_getElem? hm)
  refine ⟨Nat.succ_le_succ h.ids, Nat.le_succ_of_le h.hd, by have := h.fl; simp; omega, in_more h.st, in_more h.cm, fun q hq => ?_⟩
  rcases List.mem_append.1 hq with hq | hq
  · exact h.pk q hq
  · obtain rfl := List.mem_singleton.1 hq
    exact ⟨hp.1, hp.2.1, Int.le_refl _, by show (0 : Int) ≤ 1000; omega⟩
theorem Bd.mov {k : Nat} {x : Nt} (h : Bd k x) (i t : Int) : Bd k (movP x i t).1 := by
  rcases hg : getP x.fl i with _ | p
  · rw [movP_no (.inl hg)]; exact h
  rcases hg2 : getP x.fl t with _ | q
  · rw [movP_no (.inr hg2)]; exact h
  rw [movP_ok hg hg2]
  obtain ⟨m, rfl, hm, hml, hmn⟩ := getP_some hg
  obtain ⟨j, rfl, hj, hjl, hjn⟩ := getP_some hg2
  rw [hmn, hjn]
  refine ⟨h.ids, h.hd, ?_, h.st, h.cm, fun r hr => ?_⟩
  · show (inP (outP x.fl m) j p).length ≤ k
    rw [in_len _ _ _ (by rw [out_len _ _ hml]; omega), out_len _ _ hml]
    have := h.fl; omega
  · have hr' : r ∈ inP (outP x.fl m) j p := hr
    unfold inP at hr'
    rcases List.mem_append.1 hr' with hr' | hr'
    · exact h.pk r (mem_out (List.mem_of_mem_take hr'))
    · rcases List.mem_cons.1 hr' with rfl | hr'
      · exact h.pk _ (List.mem_of_getElem? hm)
      · exact h.pk r (mem_out (List.mem_of_mem_drop hr'))
theorem Bd.hold {k : Nat} {x : Nt} (h : Bd k x) (i t : Int) : Bd k (holdP x i t).1 := by
  rcases hg : getP x.fl i with _ | p
  · rw [holdP_no hg]; exact h
  by_cases ht : t < 0 ∨ 1000 < t
  · rw [holdP_arg hg ht]; exact h
  rw [holdP_ok hg ht]
  obtain ⟨m, rfl, hm, hml, hmn⟩ := getP_some hg
  have hp := h.pk p (List.mem_of_getElem? hm)
  refine ⟨h.ids, h.hd, by show (x.fl.set _ _).length ≤ k; rw [List.length_set]; exact h.fl, h.st, h.cm, fun r hr => ?_⟩
  rcases List.mem_or_eq_of_mem_set hr with hr | rfl
  · exact h.pk r hr
  · exact ⟨hp.1, hp.2.1, by show (0 : Int) ≤ t; omega, by show t ≤ 1000; omega⟩
theorem Bd.tick {k : Nat} {x : Nt} (h : Bd k x) : Bd k (tickP x) := by
  refine ⟨h.ids, h.hd, by show (x.fl.map tick1).length ≤ k; rw [List.length_map]; exact h.fl, h.st, h.cm, fun r hr => ?_⟩
  obtain ⟨p, hp, rfl⟩ := List.mem_map.1 (show r ∈ x.fl.map tick1 from hr)
  have := h.pk p hp
  refine ⟨this.1, this.2.1, ?_, ?_⟩ <;> (unfold tick1; simp only; split <;> omega)
theorem Bd.cut {k : Nat} {x : Nt} (h : Bd k x) (a b : Int) (c : Bool) : Bd k (cutP x a b c).1 := by
  unfold cutP
  split
  · exact h
  · exact ⟨h.ids, h.hd, h.fl, h.st, h.cm, h.pk⟩
/-- Not too many: whether huge is told hangs on the bytes alone. -/
theorem huge_any {w : World} {v : Value} {l : List Ac} (h : Row w 5 v l.length (acs l)) (hl : l.length ≤ 200) :
    Calls Try.prog 8 #[v] w fun e w' => (e = .returned (.bool true) ∨ e = .returned (.bool false)) ∧ w = w' := by
  obtain ⟨aa, ca, rfl, xa⟩ := h.at2
  have XA := Lib.hid xa
  clear h xa
  go_enter Try.func8, Try.ntmps8
  go_wp2_with fail
  go_loop [4, 3] (fun u n => ∃ (k : Nat) (acc : Int), u = .int .i64 (k : Int) ∧ n = .int .i64 acc ∧ k ≤ l.length) (fun u _ => 202 - (intOf u).toNat)
  case atStart => exact ⟨0, 0, rfl, rfl, by omega⟩
  case round =>
    obtain ⟨k, acc, rfl, rfl, hk⟩ := hrel
    by_cases hlt : k < l.length
    · obtain ⟨b1, o1, rfl, q1⟩ := XA.out (by omega)
      have c1 := q1 _ _ (acs_at l k hlt).2.2.2.1
      rw [← Nat.add_assoc] at c1
      clear q1 XA
      generalize (l[k]).v = x at *
      have hk0 : (0 : Int) ≤ (k : Int) := by omega
      have hk1 : (k : Int) < (l.length : Int) := by omega
      have hk2 : (k : Int) ≤ 200 := by omega
      go_wp2_with fail
      go_round
      case rel => exact ⟨k + 1, _, by go_num, rfl, by omega⟩
      case measure => simp [intOf]; omega
    · obtain rfl : k = l.length := by omega
      have h80 : decide ((200 : Int) < (l.length : Int)) = false := by simp; omega
      clear hlt XA
      by_cases hacc : 100000 < acc
      · go_wp2_with fail
        go_returns
        exact ⟨.inl rfl, rfl⟩
      · have hacc' : decide (100000 < acc) = false := by simpa using hacc
        clear hacc
        go_wp2_with fail
        go_returns
        exact ⟨.inr rfl, rfl⟩
theorem huge_long {w : World} {v : Value} {l : List Ac} (h : Row w 5 v l.length (acs l)) (hm : l.length ≤ maxLen) (hl : 200 < l.length) :
    Calls Try.prog 8 #[v] w fun e w' => e = .returned (.bool true) ∧ w = w' := by
  obtain ⟨aa, ca, rfl, xa⟩ := h.at2
  have XA := Lib.hid xa
  unfold maxLen at hm
  clear h xa
  go_enter Try.func8, Try.ntmps8
  go_wp2_with fail
  go_loop [4, 3] (fun u n => ∃ (k : Nat) (acc : Int), u = .int .i64 (k : Int) ∧ n = .int .i64 acc ∧ k ≤ 201) (fun u _ => 202 - (intOf u).toNat)
  case atStart => exact ⟨0, 0, rfl, rfl, by omega⟩
  case round =>
    obtain ⟨k, acc, rfl, rfl, hk⟩ := hrel
    by_cases hlt : k ≤ 200
    · obtain ⟨b1, o1, rfl, q1⟩ := XA.out (by omega)
      have c1 := q1 _ _ (acs_at l k (by omega)).2.2.2.1
      rw [← Nat.add_assoc] at c1
      clear q1 XA
      generalize (l[k]'(by omega)).v = x at *
      have hk0 : (0 : Int) ≤ (k : Int) := by omega
      have hk1 : (k : Int) < (l.length : Int) := by omega
      have hk2 : (k : Int) ≤ 200 := by omega
      go_wp2_with fail
      go_round
      case rel => exact ⟨k + 1, _, by go_num, rfl, by omega⟩
      case measure => simp [intOf]; omega
    · obtain rfl : k = 201 := by omega
      clear hlt XA
      by_cases h82 : 201 < l.length
      · have h82' : (201 : Int) < (l.length : Int) := by omega
        go_wp2_with fail
        go_returns
        exact ⟨rfl, rfl⟩
      · have h83 : l.length = 201 := by omega
        go_wp2_with fail
        go_returns
        exact ⟨rfl, rfl⟩
end Go.Proofs.Ytgnmieobgdbafaa
