/-
  The document's own Rank, At, Get, Ceil, Floor on lists of entries.
-/
import Derived.Test.YtkobiimkaimbaaaKBuilt
namespace Go.Proofs.Ytkobiimkaimbaaa
open Go.RowKit
set_option linter.unusedVariables false

/-- How many entries from the front are below a key. -/
def rk (l : List Ent) (k : ByteArray) : Nat := match l with
  | [] => 0
  | a :: l => if KOrd.lt a.1 k then rk l k + 1 else 0
theorem rk_le (l : List Ent) (k : ByteArray) : rk l k ≤ l.length := by
  induction l with
  | nil => simp [rk]
  | cons a l ih => rw [rk]; split <;> simp; omega
theorem rk_lt (l : List Ent) (k : ByteArray) : ∀ n (h : n < l.length), n < rk l k → KOrd.lt (l[n]).1 k = true := by
  induction l with
  | nil => intro n h; simp at h
  | cons a l ih =>
    intro n h hn
    rw [rk] at hn
    split at hn
    · rename_i ha
      cases n with
      | zero => simpa using ha
      | succ n => simpa using ih n (by simpa using h) (by omega)
    · omega
theorem rk_end (l : List Ent) (k : ByteArray) : ∀ (h : rk l k < l.length), KOrd.lt (l[rk l k]).1 k = false := by
  induction l with
  | nil => intro h; simp at h
  | cons a l ih =>
    intro h
    by_cases ha : KOrd.lt a.1 k = true
    · have e : rk (a :: l) k = rk l k + 1 := by rw [rk, if_pos ha]
      simp only [e] at h ⊢
      simpa using ih (by simpa using h)
    · have e : rk (a :: l) k = 0 := by rw [rk, if_neg ha]
      simp only [e]
      simpa using ha
theorem rk_below (l : List Ent) (k : ByteArray) (h : Srt l) : rk l k = (below l k).length := by
  induction l with
  | nil => rfl
  | cons a l ih =>
    have h' : Srt ([] ++ a :: l) := h
    have hs : Srt l := h'.mid.2.1
    rw [rk]
    split
    · rename_i ha
      rw [ih hs]
      have := (below_mid h' (k := k)).2.1 ha
      simp only [List.nil_append] at this
      rw [this.1]
      simp
    · rename_i ha
      unfold below
      rw [filter_none (l := a :: l)]
      · rfl
      · intro b hb
        rcases List.mem_cons.1 hb with rfl | hb
        · simpa using ha
        · have hab := h'.mid.2.2.2.1 b hb
          cases hbk : KOrd.lt b.1 k
          · rfl
          · exact absurd (KOrd.tr hab hbk) ha

set_option maxHeartbeats 800000 in
theorem rrank {w : World} {v : Value} {l : List Ent} (k : ByteArray) (h : Row w 2 v l.length (ents l)) (hl : l.length < 1000000) :
    Calls Try.prog 84 #[v, .string k] w fun e w' => e = .returned (.int .i64 (rk l k : Int)) ∧ w = w' := by
  obtain ⟨aa, ca, rfl, xa⟩ := h.at2
  have XA := Lib.hid xa
  have HLE := Lib.hid (rk_le l k)
  clear h xa
  go_enter Try.func84, Try.ntmps84
  go_wp2_with fail
  go_loop [5] (fun u => ∃ n : Nat, u = .int .i64 (n : Int) ∧ n ≤ rk l k) (fun u => l.length - (intOf u).toNat)
  case atStart => exact ⟨0, rfl, Nat.zero_le _⟩
  case round =>
    obtain ⟨n, rfl, hn⟩ := hrel
    have hle := HLE.out
    by_cases hlt : n < l.length
    · obtain ⟨b1, o1, rfl, q1⟩ := XA.out (by omega)
      have c1 := q1 _ _ (ents_at l n hlt).1
      have hn0 : (0 : Int) ≤ (n : Int) := by omega
      have hn1 : (n : Int) < (l.length : Int) := by omega
      by_cases hr : n < rk l k
      · have h1 : Op.bytesLess (l[n]).1.toList k.toList = true := rk_lt l k n hlt hr
        clear q1 XA
        generalize (l[n]).1 = x at *
        go_wp2_with fail
        go_round
        case rel => exact ⟨n + 1, by go_num, by omega⟩
        case measure => simp [intOf]; omega
      · obtain rfl : n = rk l k := by omega
        have h1 : Op.bytesLess (l[rk l k]).1.toList k.toList = false := rk_end l k hlt
        clear q1 XA hr
        generalize (l[rk l k]).1 = x at *
        go_wp2_with fail
        go_returns
        exact ⟨rfl, rfl⟩
    · obtain rfl : n = rk l k := by omega
      have he : rk l k = l.length := by omega
      clear XA
      have hd : decide (((rk l k : Nat) : Int) < (l.length : Int)) = false := by simp; omega
      clear hlt
      go_wp2_with fail
      go_returns
      exact ⟨rfl, rfl⟩

set_option maxHeartbeats 800000 in
theorem rat_yes {w : World} {v : Value} {l : List Ent} (i : Nat) (h : Row w 2 v l.length (ents l)) (hi : i < l.length) (hl : l.length < 1000000) :
    Calls Try.prog 81 #[v, .int .i64 (i : Int)] w fun e w' => e = .returned (.tuple #[.agg #[.string (l[i]).1, .int .i64 (l[i]).2], .bool true]) ∧ Below w.heap.size w w' := by
  obtain ⟨aa, ca, rfl, xa⟩ := h.at2
  obtain ⟨b1, o1, rfl, q1⟩ := xa (by omega)
  have q2 := ents_at l i hi
  have bA : Below w.heap.size w (w.alloc (.cells #[.string ⟨#[]⟩, .int .i64 0] 48)) := (Below.refl _ _).alloc (Nat.le_refl _) _
  have d1 := q1 _ _ q2.1
  have d2 := q1 _ _ q2.2
  rw [show o1 + (i * 2 + 1) = o1 + i * 2 + 1 by omega] at d2
  have c1 := bcellAt bA d1
  have c2 := bcellAt bA d2
  have h0 : (0 : Int) ≤ (i : Int) := by omega
  have h1 : (i : Int) < (l.length : Int) := by omega
  clear h xa q1 q2 bA d1 d2
  generalize l[i] = y at *
  obtain ⟨yk, yv⟩ := y
  simp only at c1 c2
  go_enter Try.func81, Try.ntmps81
  go_wp2_with fail
  refine bodyPost_ret (v := .tuple #[.agg #[.string yk, .int .i64 yv], .bool true]) (by simp [results, Try.results81, go_sem]) rfl ?_
  refine ⟨rfl, ?_⟩
  first
    | exact (Below.refl _ _).alloc (Nat.le_refl _) _
    | exact (((Below.refl _ _).alloc (Nat.le_refl _) _).setCell (p := ⟨w.heap.size, 0, none⟩) (Nat.le_refl _) _).setCell (p := ⟨w.heap.size, 1, none⟩) (Nat.le_refl _) _
set_option maxHeartbeats 800000 in
theorem rat_no {w : World} {v : Value} {l : List Ent} (i : Int) (h : Row w 2 v l.length (ents l)) (hi : i < 0 ∨ (l.length : Int) ≤ i) :
    Calls Try.prog 81 #[v, .int .i64 i] w fun e w' => e = .returned (.tuple #[.agg #[.string ⟨#[]⟩, .int .i64 0], .bool false]) ∧ Below w.heap.size w w' := by
  obtain ⟨aa, ca, rfl⟩ := h.shape
  clear h
  by_cases h0 : i < 0
  · clear hi
    go_enter Try.func81, Try.ntmps81
    go_wp2_with fail
    refine bodyPost_ret (v := .tuple #[.agg #[.string ⟨#[]⟩, .int .i64 0], .bool false]) (by simp [results, Try.results81, go_sem]) rfl ?_
    refine ⟨rfl, ?_⟩
    first
      | exact (Below.refl _ _).alloc (Nat.le_refl _) _
      | exact (((Below.refl _ _).alloc (Nat.le_refl _) _).setCell (p := ⟨w.heap.size, 0, none⟩) (Nat.le_refl _) _).setCell (p := ⟨w.heap.size, 1, none⟩) (Nat.le_refl _) _
  · have h1 : (l.length : Int) ≤ i := by omega
    have h2 : decide (i < 0) = false := by simpa using h0
    clear hi h0
    go_enter Try.func81, Try.ntmps81
    go_wp2_with fail
    refine bodyPost_ret (v := .tuple #[.agg #[.string ⟨#[]⟩, .int .i64 0], .bool false]) (by simp [results, Try.results81, go_sem]) rfl ?_
    refine ⟨rfl, ?_⟩
    first
      | exact (Below.refl _ _).alloc (Nat.le_refl _) _
      | exact (((Below.refl _ _).alloc (Nat.le_refl _) _).setCell (p := ⟨w.heap.size, 0, none⟩) (Nat.le_refl _) _).setCell (p := ⟨w.heap.size, 1, none⟩) (Nat.le_refl _) _

end Go.Proofs.Ytkobiimkaimbaaa
