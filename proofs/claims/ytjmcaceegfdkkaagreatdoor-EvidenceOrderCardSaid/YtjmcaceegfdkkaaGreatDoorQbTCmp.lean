/-
  The calls of each kind; New; the law's live.
  The document's own pool in memory: In, Size, Depth, Node, Has.
  cmp.Compare of ints, numbers and texts; cmp.Or of ints.
-/
import Derived.Test.YtjmcaceegfdkkaaGreatDoorQbTMake
namespace Go.Proofs.YtjmcaceegfdkkaaGreatDoor
open Go.RowKit Go.Maps
set_option linter.unusedVariables false
theorem i64R_lit {n : Int} (h : -1000 ≤ n ∧ n ≤ 1000000) : i64R n := by unfold i64R; omega
theorem emptyS_le : emptyS.size ≤ maxLen := by decide
section
variable {w : World} {B a b : Nat} {v : Value} {p : Pl}
end
set_option maxHeartbeats 800000 in
theorem pnew (w : World) : Calls Tryz.prog 61 #[] w fun e w' => e = .returned (.pointer (some ⟨w.heap.size + 1, 0, none⟩)) ∧ IsPool w' w.heap.size (w.heap.size + 1) w.heap.size (.slice none 0 0) [] ∧ Below w.heap.size w w' := by
  have hmm := @run_makeMap Tryz.prog
  go_enter Tryz.func61, Tryz.ntmps61
  go_wp2_with fail
  go_returns
  refine ⟨rfl, ⟨?_, by omega, Nat.le_refl _, World.ownsRow_nil _ _ _ 9, ⟨_, (World.ownsMap_made w _ _ _).alloc _, DictN.nil⟩, Ok.nil, fun m hm => by cases hm⟩, ((Below.refl _ _).alloc (Nat.le_refl _) _).alloc (by simp) _⟩
  have e : w.heap.size + 1 = (w.alloc (.map #[] 0)).heap.size := by simp
  rw [e]
  exact heap_alloc_new _ _
theorem num12_any (n : Int) (w : World) : Calls Tryz.prog 31 #[.int .i64 n] w fun e w' => e = .returned (.int .i64 n) ∧ w = w' := by
  go_enter Tryz.func31, Tryz.ntmps31
  go_wp2_with fail
  go_returns
  exact ⟨rfl, rfl⟩
end Go.Proofs.YtjmcaceegfdkkaaGreatDoor
namespace Go.Proofs.YtjmcaceegfdkkaaGreatDoor
open Go.RowKit Go.Maps
set_option linter.unusedVariables false
def ints (l : List Int) : List Value := l.map (Value.int .i64)
theorem ints_at (l : List Int) (i : Nat) (h : i < l.length) : (ints l)[i]? = some (.int .i64 (l[i])) := by simp [ints, h]
section
variable {w : World} {B a : Nat} {vl vs vd : Value} {p : Pl}
end
end Go.Proofs.YtjmcaceegfdkkaaGreatDoor
namespace Go.Proofs.YtjmcaceegfdkkaaGreatDoor
open Go.RowKit
set_option linter.unusedVariables false
/-- Keys in order. -/
class KOrd (K : Type) where
  lt : K → K → Bool
  irr : ∀ a, lt a a = false
  tr : ∀ {a b c}, lt a b = true → lt b c = true → lt a c = true
  tri : ∀ {a b}, lt a b = false → lt b a = false → a = b
theorem KOrd.asym {K : Type} [o : KOrd K] {a b : K} (h : o.lt a b = true) : o.lt b a = false := by
  cases hb : o.lt b a
  · rfl
  · have := o.tr h hb
    rw [o.irr] at this
    cases this
instance : KOrd ByteArray where
  lt a b := Op.bytesLess a.toList b.toList
  irr a := bytesLess_irr _
  tr h h' := bytesLess_tr _ _ _ h h'
  tri h h' := toList_inj (bytesLess_tri _ _ h h')
instance : KOrd Int where
  lt a b := decide (a < b)
  irr a := by simp
  tr h h' := by simp at *; omega
  tri h h' := by simp at *; omega
/-- What cmp.Compare answers. -/
def cmpOf {K : Type} [o : KOrd K] (a b : K) : Int := if o.lt a b then -1 else if o.lt b a then 1 else 0
set_option maxHeartbeats 400000 in
theorem nanS (s : ByteArray) (w : World) : Calls Tryz.prog 131 #[.string s] w fun e w' => e = .returned (.bool false) ∧ w = w' := by
  have h := beq_self_list s
  go_enter Tryz.func131, Tryz.ntmps131
  go_wp2
  go_ret
  exact ⟨rfl, rfl⟩
set_option maxHeartbeats 400000 in
theorem nanI (n : Int) (w : World) : Calls Tryz.prog 130 #[.int .i64 n] w fun e w' => e = .returned (.bool false) ∧ w = w' := by
  go_enter Tryz.func130, Tryz.ntmps130
  go_wp2
  go_ret
  exact ⟨rfl, rfl⟩
set_option maxHeartbeats 400000 in
theorem cmpS_lt {a b : ByteArray} (w : World) (h : Op.bytesLess a.toList b.toList = true) : Calls Tryz.prog 81 #[.string a, .string b] w fun e w' => e = .returned (.int .i64 (-1)) ∧ w = w' := by
  go_enter Tryz.func81, Tryz.ntmps81
  go_wp2_with fail
  refine (nanS _ _).mono ?_
  rintro e w' ⟨rfl, rfl⟩
  go_wp2_with fail
  refine (nanS _ _).mono ?_
  rintro e w' ⟨rfl, rfl⟩
  go_wp2
  go_ret
  exact ⟨rfl, rfl⟩
set_option maxHeartbeats 400000 in
theorem cmpS_gt {a b : ByteArray} (w : World) (h : Op.bytesLess b.toList a.toList = true) : Calls Tryz.prog 81 #[.string a, .string b] w fun e w' => e = .returned (.int .i64 1) ∧ w = w' := by
  have h2 : Op.bytesLess a.toList b.toList = false := KOrd.asym (K := ByteArray) h
  have h3 : (a.toList == b.toList) = false := by
    cases e : a.toList == b.toList
    · rfl
    · rw [eq_of_beq e, bytesLess_irr] at h; cases h
  clear h
  go_enter Tryz.func81, Tryz.ntmps81
  go_wp2_with fail
  refine (nanS _ _).mono ?_
  rintro e w' ⟨rfl, rfl⟩
  go_wp2_with fail
  refine (nanS _ _).mono ?_
  rintro e w' ⟨rfl, rfl⟩
  go_wp2
  go_ret
  exact ⟨rfl, rfl⟩
set_option maxHeartbeats 400000 in
theorem cmpS_eq (a : ByteArray) (w : World) : Calls Tryz.prog 81 #[.string a, .string a] w fun e w' => e = .returned (.int .i64 0) ∧ w = w' := by
  have h2 := bytesLess_irr a.toList
  have h3 := beq_self_list a
  go_enter Tryz.func81, Tryz.ntmps81
  go_wp2_with fail
  refine (nanS _ _).mono ?_
  rintro e w' ⟨rfl, rfl⟩
  go_wp2_with fail
  refine (nanS _ _).mono ?_
  rintro e w' ⟨rfl, rfl⟩
  go_wp2
  go_ret
  exact ⟨rfl, rfl⟩
theorem cmpS_any (a b : ByteArray) (w : World) : Calls Tryz.prog 81 #[.string a, .string b] w fun e w' => e = .returned (.int .i64 (cmpOf a b)) ∧ w = w' := by
  unfold cmpOf
  split
  · exact cmpS_lt w ‹_›
  · split
    · exact cmpS_gt w ‹_›
    · rename_i h1 h2
      have e : a = b := KOrd.tri (by simpa using h1) (by simpa using h2)
      subst e
      exact cmpS_eq a w
set_option maxHeartbeats 400000 in
theorem cmpI_lt {a b : Int} (w : World) (h : a < b) : Calls Tryz.prog 80 #[.int .i64 a, .int .i64 b] w fun e w' => e = .returned (.int .i64 (-1)) ∧ w = w' := by
  go_enter Tryz.func80, Tryz.ntmps80
  go_wp2_with fail
  refine (nanI _ _).mono ?_
  rintro e w' ⟨rfl, rfl⟩
  go_wp2_with fail
  refine (nanI _ _).mono ?_
  rintro e w' ⟨rfl, rfl⟩
  go_wp2
  go_ret
  exact ⟨rfl, rfl⟩
set_option maxHeartbeats 400000 in
theorem cmpI_gt {a b : Int} (w : World) (h : b < a) : Calls Tryz.prog 80 #[.int .i64 a, .int .i64 b] w fun e w' => e = .returned (.int .i64 1) ∧ w = w' := by
  go_enter Tryz.func80, Tryz.ntmps80
  go_wp2_with fail
  refine (nanI _ _).mono ?_
  rintro e w' ⟨rfl, rfl⟩
  go_wp2_with fail
  refine (nanI _ _).mono ?_
  rintro e w' ⟨rfl, rfl⟩
  go_wp2
  go_ret
  exact ⟨rfl, rfl⟩
set_option maxHeartbeats 400000 in
theorem cmpI_eq (a : Int) (w : World) : Calls Tryz.prog 80 #[.int .i64 a, .int .i64 a] w fun e w' => e = .returned (.int .i64 0) ∧ w = w' := by
  go_enter Tryz.func80, Tryz.ntmps80
  go_wp2_with fail
  refine (nanI _ _).mono ?_
  rintro e w' ⟨rfl, rfl⟩
  go_wp2_with fail
  refine (nanI _ _).mono ?_
  rintro e w' ⟨rfl, rfl⟩
  go_wp2
  go_ret
  exact ⟨rfl, rfl⟩
theorem cmpI_any (a b : Int) (w : World) : Calls Tryz.prog 80 #[.int .i64 a, .int .i64 b] w fun e w' => e = .returned (.int .i64 (cmpOf a b)) ∧ w = w' := by
  unfold cmpOf
  split
  · rename_i h1
    exact cmpI_lt w (of_decide_eq_true h1)
  · split
    · rename_i h1 h2
      exact cmpI_gt w (of_decide_eq_true h2)
    · rename_i h1 h2
      have e : a = b := KOrd.tri (by simpa using h1) (by simpa using h2)
      subst e
      exact cmpI_eq a w
set_option maxHeartbeats 400000 in
theorem nanU (n : Int) (w : World) : Calls Tryz.prog 129 #[.int .u64 n] w fun e w' => e = .returned (.bool false) ∧ w = w' := by
  go_enter Tryz.func129, Tryz.ntmps129
  go_wp2
  go_ret
  exact ⟨rfl, rfl⟩
set_option maxHeartbeats 400000 in
theorem cmpU_lt {a b : Int} (w : World) (h : a < b) : Calls Tryz.prog 79 #[.int .u64 a, .int .u64 b] w fun e w' => e = .returned (.int .i64 (-1)) ∧ w = w' := by
  go_enter Tryz.func79, Tryz.ntmps79
  go_wp2_with fail
  refine (nanU _ _).mono ?_
  rintro e w' ⟨rfl, rfl⟩
  go_wp2_with fail
  refine (nanU _ _).mono ?_
  rintro e w' ⟨rfl, rfl⟩
  go_wp2
  go_ret
  exact ⟨rfl, rfl⟩
set_option maxHeartbeats 400000 in
theorem cmpU_gt {a b : Int} (w : World) (h : b < a) : Calls Tryz.prog 79 #[.int .u64 a, .int .u64 b] w fun e w' => e = .returned (.int .i64 1) ∧ w = w' := by
  go_enter Tryz.func79, Tryz.ntmps79
  go_wp2_with fail
  refine (nanU _ _).mono ?_
  rintro e w' ⟨rfl, rfl⟩
  go_wp2_with fail
  refine (nanU _ _).mono ?_
  rintro e w' ⟨rfl, rfl⟩
  go_wp2
  go_ret
  exact ⟨rfl, rfl⟩
set_option maxHeartbeats 400000 in
theorem cmpU_eq (a : Int) (w : World) : Calls Tryz.prog 79 #[.int .u64 a, .int .u64 a] w fun e w' => e = .returned (.int .i64 0) ∧ w = w' := by
  go_enter Tryz.func79, Tryz.ntmps79
  go_wp2_with fail
  refine (nanU _ _).mono ?_
  rintro e w' ⟨rfl, rfl⟩
  go_wp2_with fail
  refine (nanU _ _).mono ?_
  rintro e w' ⟨rfl, rfl⟩
  go_wp2
  go_ret
  exact ⟨rfl, rfl⟩
theorem cmpU_any (a b : Int) (w : World) : Calls Tryz.prog 79 #[.int .u64 a, .int .u64 b] w fun e w' => e = .returned (.int .i64 (cmpOf a b)) ∧ w = w' := by
  unfold cmpOf
  split
  · rename_i h1
    exact cmpU_lt w (of_decide_eq_true h1)
  · split
    · rename_i h1 h2
      exact cmpU_gt w (of_decide_eq_true h2)
    · rename_i h1 h2
      have e : a = b := KOrd.tri (by simpa using h1) (by simpa using h2)
      subst e
      exact cmpU_eq a w
/-- The first that is not 0. -/
def orI : List Int → Int
  | [] => 0
  | a :: l => if a = 0 then orI l else a
theorem orI_drop (l : List Int) : ∀ (k : Nat) (h : k < l.length), orI (l.drop k) = if l[k] = 0 then orI (l.drop (k + 1)) else l[k] := by
  intro k h
  rw [List.drop_eq_getElem_cons h]
  rfl
set_option maxRecDepth 100000 in
set_option maxHeartbeats 1600000 in
theorem or_any {w : World} {v : Value} {l : List Int} (h : Row w 1 v l.length (ints l)) (hl : l.length < 1000000) :
    Calls Tryz.prog 78 #[v] w fun e w' => e = .returned (.int .i64 (orI l)) ∧ w = w' := by
  obtain ⟨aa, ca, rfl, xa⟩ := h.at
  have XA := Lib.hid xa
  clear h xa
  go_enter Tryz.func78, Tryz.ntmps78
  go_wp2_with fail
  go_loop [8] (fun i => ∃ k : Nat, i = .int .i64 (k : Int) ∧ k ≤ l.length ∧ orI (l.drop k) = orI l) (fun i => l.length - (intOf i).toNat)
  case atStart => exact ⟨0, rfl, Nat.zero_le _, rfl⟩
  case round =>
    obtain ⟨k, rfl, hk, ho⟩ := hrel
    by_cases hlt : k < l.length
    · obtain ⟨b1, o1, rfl, q1⟩ := XA.out (by omega)
      have c1 := q1 k _ (ints_at l k hlt)
      have hd := orI_drop l k hlt
      rw [ho] at hd
      have HD := Lib.hid hd
      clear q1 XA ho hd
      generalize l[k] = x at *
      have hk0 : (0 : Int) ≤ (k : Int) := by omega
      have hk1 : (k : Int) < (l.length : Int) := by omega
      by_cases hx : x = 0
      · subst hx
        go_wp2_with fail
        go_round
        case rel => exact ⟨k + 1, by go_num, by omega, by have := HD.out; rw [if_pos rfl] at this; exact this.symm⟩
        case measure => simp [intOf]; omega
      · have hx1 : (x != 0) = true := by rw [bne_iff_ne]; exact hx
        have hx2 : (x == 0) = false := by rw [beq_eq_false_iff_ne]; exact hx
        have HE : Hid (orI l = x) := Lib.hid (by have := HD.out; rwa [if_neg hx] at this)
        clear hx HD
        go_wp2_with fail
        go_returns
        exact ⟨congrArg (fun z => Ending.returned (Value.int .i64 z)) HE.out.symm, rfl⟩
    · obtain rfl : k = l.length := by omega
      rw [List.drop_length] at ho
      have HE : Hid (orI l = 0) := Lib.hid ho.symm
      clear ho XA hlt
      go_wp2_with fail
      go_returns
      exact ⟨congrArg (fun z => Ending.returned (Value.int .i64 z)) HE.out.symm, rfl⟩
end Go.Proofs.YtjmcaceegfdkkaaGreatDoor
