/-
  What the disk's functions do: laid, New, Load, has, Read, Blocks, Writes, Dead, Left, Arm, Start, Image, Log.
-/
import Derived.Test.YthamjlhkiabcnaaDObj
import Derived.Test.YthamjlhkiabcnaaDSmall
namespace Go.Proofs.Ythamjlhkiabcnaa
open Go.RowKit

/-- A disk: its blocks at first, its blocks, its writes, whether its power is off, how many writes are left (-1: not armed). -/
structure Dk where
  first : List ByteArray
  now : List ByteArray
  log : List (Int × ByteArray)
  dead : Bool
  left : Int

structure Dk.Good (d : Dk) : Prop where
  pos : 1 ≤ d.now.length
  le : d.now.length ≤ 4096
  flen : d.first.length = d.now.length
  logIn : ∀ x ∈ d.log, 0 ≤ x.1 ∧ x.1 < d.now.length
  logLen : d.log.length ≤ 4294967296
  leftLo : -1 ≤ d.left
  leftHi : d.left ≤ 9223372036854775807

/-- At block a lies the program's disk d. -/
def IsDisk (w : World) (B a : Nat) (S : Nat → Prop) (d : Dk) : Prop :=
  (∃ fv bv lv, IsObj w B a 80 [.bool d.dead, .int .i64 d.left] fv bv lv S d.first d.now d.log) ∧ d.Good

theorem IsDisk.lt {w : World} {B a : Nat} {S : Nat → Prop} {d : Dk} (h : IsDisk w B a S d) : ∀ k, S k → B ≤ k ∧ k < w.heap.size := by
  obtain ⟨⟨_, _, _, h⟩, _⟩ := h; exact h.lt
theorem IsDisk.memA {w : World} {B a : Nat} {S : Nat → Prop} {d : Dk} (h : IsDisk w B a S d) : S a := by
  obtain ⟨⟨_, _, _, h⟩, _⟩ := h; exact h.memA
theorem IsDisk.keep {w : World} {B a : Nat} {S : Nat → Prop} {d : Dk} (h : IsDisk w B a S d) {w' : World} {U : Nat → Prop} (ht : Touch U w w') (hU : ∀ k, S k → ¬ U k) : IsDisk w' B a S d := by
  obtain ⟨⟨_, _, _, h⟩, g⟩ := h; exact ⟨⟨_, _, _, h.keep ht hU⟩, g⟩
theorem IsDisk.below {w : World} {B a : Nat} {S : Nat → Prop} {d : Dk} (h : IsDisk w B a S d) {w' : World} (hb : Below w.heap.size w w') : IsDisk w' B a S d :=
  h.keep (touch_of_below hb fun _ => False) fun _ _ h => h

theorem two_cells {w : World} {a : Nat} {T : TypeId} {x0 x1 x2 x3 x4 : Value} (h : w.heap[a]? = some (.cells [x0, x1, x2, x3, x4].toArray T (0, 0))) : w.cell? ⟨a, 3, none⟩ = some x3 ∧ w.cell? ⟨a, 4, none⟩ = some x4 := by
  simp [World.cell?, h]

/-- A call answers a new disk. -/
def NewDisk (w : World) (B : Nat) (d : Dk) (f : Value → Value) (e : Ending) (w' : World) : Prop :=
  ∃ a S, e = .returned (f (.pointer (some ⟨a, 0, none⟩))) ∧ IsDisk w' B a S d ∧ (∀ k, S k → w.heap.size ≤ k) ∧ Below w.heap.size w w'

set_option maxHeartbeats 400000 in
theorem laid_any {w : World} {B : Nat} {v : Value} {l : List ByteArray} (h : Row w 1 v l.length (strs l)) (h1 : 1 ≤ l.length) (h2 : l.length ≤ 4096) (hB : B ≤ w.heap.size) :
    Calls Try.prog 39 #[v] w (NewDisk w B ⟨l, l, [], false, -1⟩ id) := by
  go_enter Try.func39, Try.ntmps39
  go_wp2_with fail
  refine (cloneS_any h (by omega)).mono ?_
  rintro e w1 ⟨v1, rfl, o1, b1⟩
  go_wp2_with fail
  refine (cloneS_any (h.below b1) (by omega)).mono ?_
  rintro e w2 ⟨v2, rfl, o2, b2⟩
  obtain ⟨a1, c1, rfl⟩ := (row_of_own o1).shape
  obtain ⟨a2, c2, rfl⟩ := (row_of_own o2).shape
  go_wp2_with fail
  go_ret
  obtain ⟨S, hobj, hS⟩ := IsObj.made o1 b1 o2 b2 hB 80 [.bool false, .int .i64 (-1)]
  refine ⟨w2.heap.size, S, rfl, ⟨⟨_, _, _, hobj⟩, ⟨h1, h2, rfl, fun x hx => (by cases hx), by simp, Int.le_refl _, (by decide : (-1 : Int) ≤ 9223372036854775807)⟩⟩, hS, ?_⟩
  exact (b1.trans (b2.mono b1.size)).alloc (by have := b1.size; have := b2.size; omega) _

set_option maxHeartbeats 400000 in
theorem new_no (n : Int) (w : World) (h : n < 1 ∨ 4096 < n) :
    Calls Try.prog 17 #[.int .i64 n] w fun e w' => e = .returned (.tuple #[.pointer none, .int .i64 2]) ∧ w = w' := by
  go_enter Try.func17, Try.ntmps17
  go_wp2_with fail
  refine (mayHave_no n w h).mono ?_
  rintro e w1 ⟨rfl, rfl⟩
  go_wp2_with fail
  go_ret2
  exact ⟨rfl, rfl⟩

def emptyB : ByteArray := ⟨#[]⟩
theorem strs_empty (n : Nat) : (madeCells (Value.string ⟨#[]⟩).cells (n * 1)).toList = strs (List.replicate n emptyB) := by
  rw [Nat.mul_one, show (Value.string ⟨#[]⟩).cells = #[Value.string ⟨#[]⟩] from rfl, toList_madeCells_one]
  simp [strs, emptyB]

set_option maxHeartbeats 400000 in
theorem new_yes (n : Nat) {B : Nat} (w : World) (h1 : 1 ≤ n) (h2 : n ≤ 4096) (hB : B ≤ w.heap.size) :
    Calls Try.prog 17 #[.int .i64 (n : Int)] w (NewDisk w B ⟨List.replicate n emptyB, List.replicate n emptyB, [], false, -1⟩ fun p => .tuple #[p, .int .i64 0]) := by
  obtain ⟨i0, hi, hz0, hz1, hz2⟩ := info_parts rowS
  go_enter Try.func17, Try.ntmps17
  go_wp2_with fail
  refine (mayHave_yes n w (by omega) (by omega)).mono ?_
  rintro e w1 ⟨rfl, rfl⟩
  go_wp2_with (first
      | (at_make; refine wpList_make_full _ rfl _ _ 22 rfl w.heap.size 9 i0 (.string ⟨#[]⟩) 1 Try.underlying22 hi hz0 hz1 .i64 .i64 _ _ n rfl rfl rfl rfl (by rw [hz2]; omega) (by unfold maxLen; omega) (Nat.le_refl _) ?_; intro w0 hown0 hgrow0))
  rw [strs_empty n] at hown0
  have hrow := row_of_own hown0
  have hlen : (List.replicate n emptyB).length = n := by simp
  have hb0 : Below w.heap.size w w0 := (Below.refl _ _).grown hgrow0 (Nat.le_refl _) (by simp)
  have hl := laid_any (w := w0) (B := B) (v := .slice (some ⟨w.heap.size, 0, none⟩) n n) (l := List.replicate n emptyB) (by rw [hlen]; exact hrow) (by omega) (by omega) (by have := hb0.size; omega)
  have HL := Lib.hid hl
  clear hl hlen hrow hown0 hgrow0
  refine HL.out.mono ?_
  rintro e w1 ⟨a, S, rfl, hd, hS, hb⟩
  have Hd := Lib.hid hd
  have HS := Lib.hid hS
  clear hd hS
  go_wp2_with fail
  go_ret2
  exact ⟨a, S, rfl, Hd.out, fun k hk => Nat.le_trans hb0.size (HS.out k hk), hb0.trans (hb.mono hb0.size)⟩

/-- What Load answers of an image. -/
def loadS (l : List ByteArray) : Nat := if l.length < 1 ∨ 4096 < l.length then 2 else if anyLong l then 1 else 0

set_option maxHeartbeats 400000 in
theorem load_arg {w : World} {v : Value} {l : List ByteArray} (h : Row w 1 v l.length (strs l)) (h1 : l.length < 1 ∨ 4096 < l.length) (hl : l.length ≤ 1099511627776) :
    Calls Try.prog 12 #[v] w fun e w' => e = .returned (.tuple #[.pointer none, .int .i64 2]) ∧ w = w' := by
  obtain ⟨sa, sc, rfl⟩ := h.shape
  clear h
  go_enter Try.func12, Try.ntmps12
  go_wp2_with fail
  refine (mayHave_no l.length w (by omega)).mono ?_
  rintro e w1 ⟨rfl, rfl⟩
  go_wp2_with fail
  go_ret2
  exact ⟨rfl, rfl⟩

set_option maxHeartbeats 400000 in
theorem load_long {w : World} {v : Value} {l : List ByteArray} (h : Row w 1 v l.length (strs l)) (h1 : 1 ≤ l.length) (h2 : l.length ≤ 4096) (hs : ∀ s ∈ l, s.size ≤ maxLen) (hlong : anyLong l = true) :
    Calls Try.prog 12 #[v] w fun e w' => e = .returned (.tuple #[.pointer none, .int .i64 1]) ∧ w = w' := by
  have hc := containsFunc_any h (by omega) hs
  rw [hlong] at hc
  have HC := Lib.hid hc
  obtain ⟨sa, sc, rfl⟩ := h.shape
  clear h hc hlong hs
  go_enter Try.func12, Try.ntmps12
  go_wp2_with fail
  refine (mayHave_yes l.length w (by omega) (by omega)).mono ?_
  rintro e w1 ⟨rfl, rfl⟩
  go_wp2_with fail
  refine HC.out.mono ?_
  rintro e w1 ⟨rfl, rfl⟩
  go_wp2_with fail
  go_ret2
  exact ⟨rfl, rfl⟩

set_option maxHeartbeats 400000 in
theorem load_ok {w : World} {B : Nat} {v : Value} {l : List ByteArray} (h : Row w 1 v l.length (strs l)) (h1 : 1 ≤ l.length) (h2 : l.length ≤ 4096) (hs : ∀ s ∈ l, s.size ≤ maxLen) (hlong : anyLong l = false) (hB : B ≤ w.heap.size) :
    Calls Try.prog 12 #[v] w (NewDisk w B ⟨l, l, [], false, -1⟩ fun p => .tuple #[p, .int .i64 0]) := by
  have hc := containsFunc_any h (by omega) hs
  rw [hlong] at hc
  have HC := Lib.hid hc
  have HL := Lib.hid (laid_any h h1 h2 hB)
  obtain ⟨sa, sc, rfl⟩ := h.shape
  clear h hc hlong hs
  go_enter Try.func12, Try.ntmps12
  go_wp2_with fail
  refine (mayHave_yes l.length w (by omega) (by omega)).mono ?_
  rintro e w1 ⟨rfl, rfl⟩
  go_wp2_with fail
  refine HC.out.mono ?_
  rintro e w1 ⟨rfl, rfl⟩
  go_wp2_with fail
  refine HL.out.mono ?_
  rintro e w1 ⟨a, S, rfl, hd, hS, hb⟩
  have Hd := Lib.hid hd
  have HS := Lib.hid hS
  clear hd hS
  go_wp2_with fail
  go_ret2
  exact ⟨a, S, rfl, Hd.out, HS.out, hb⟩

section
variable {w : World} {B a : Nat} {S : Nat → Prop} {d : Dk}

set_option maxHeartbeats 400000 in
theorem blocks_any (h : IsDisk w B a S d) : Calls Try.prog 20 #[.pointer (some ⟨a, 0, none⟩)] w fun e w' => e = .returned (.int .i64 (d.now.length : Int)) ∧ w = w' := by
  obtain ⟨⟨fv, bv, lv, h⟩, _⟩ := h
  have c1 := h.c1
  obtain ⟨sa, sc, rfl⟩ := h.rnow.shape
  go_enter Try.func20, Try.ntmps20
  go_wp2
  go_ret
  exact ⟨rfl, rfl⟩

set_option maxHeartbeats 400000 in
theorem writes_any (h : IsDisk w B a S d) : Calls Try.prog 27 #[.pointer (some ⟨a, 0, none⟩)] w fun e w' => e = .returned (.int .i64 (d.log.length : Int)) ∧ w = w' := by
  obtain ⟨⟨fv, bv, lv, h⟩, _⟩ := h
  have c2 := h.c2
  obtain ⟨sa, sc, rfl⟩ := h.rlog.shape
  go_enter Try.func27, Try.ntmps27
  go_wp2
  go_ret
  exact ⟨rfl, rfl⟩

set_option maxHeartbeats 400000 in
theorem dead_any (h : IsDisk w B a S d) : Calls Try.prog 26 #[.pointer (some ⟨a, 0, none⟩)] w fun e w' => e = .returned (.bool d.dead) ∧ w = w' := by
  obtain ⟨⟨fv, bv, lv, h⟩, _⟩ := h
  have c3 := (two_cells h.block).1
  go_enter Try.func26, Try.ntmps26
  go_wp2
  go_ret
  exact ⟨rfl, rfl⟩

/-- What Left tells. -/
def leftS (d : Dk) : Value := .tuple (if d.left = -1 then #[.int .i64 0, .bool false] else #[.int .i64 d.left, .bool true])

set_option maxHeartbeats 400000 in
theorem left_any (h : IsDisk w B a S d) : Calls Try.prog 33 #[.pointer (some ⟨a, 0, none⟩)] w fun e w' => e = .returned (leftS d) ∧ w = w' := by
  obtain ⟨⟨fv, bv, lv, h⟩, g⟩ := h
  have c4 := (two_cells h.block).2
  have g1 := g.leftLo
  have g2 := g.leftHi
  clear g
  generalize hl : d.left = q at *
  unfold leftS
  rw [hl]
  clear hl
  by_cases hq : q = -1
  · subst hq
    go_enter Try.func33, Try.ntmps33
    go_wp2
    go_ret2
    exact ⟨rfl, rfl⟩
  · have hne : (q == -1) = false := by simpa using hq
    rw [if_neg hq]
    clear hq
    go_enter Try.func33, Try.ntmps33
    go_wp2
    go_ret2
    exact ⟨rfl, rfl⟩

set_option maxHeartbeats 400000 in
theorem has_any (h : IsDisk w B a S d) (n : Int) : Calls Try.prog 45 #[.pointer (some ⟨a, 0, none⟩), .int .i64 n] w fun e w' => e = .returned (.bool (decide (0 ≤ n ∧ n < d.now.length))) ∧ w = w' := by
  obtain ⟨⟨fv, bv, lv, h⟩, _⟩ := h
  have c1 := h.c1
  obtain ⟨sa, sc, rfl⟩ := h.rnow.shape
  by_cases h0 : 0 ≤ n
  · have e : decide (0 ≤ n ∧ n < d.now.length) = decide (n < d.now.length) := by simp [h0]
    rw [e]
    clear e
    go_enter Try.func45, Try.ntmps45
    go_wp2
    go_ret
    exact ⟨rfl, rfl⟩
  · have e : decide (0 ≤ n ∧ n < d.now.length) = false := by simp [h0]
    rw [e]
    clear e
    have h1 : n < 0 := by omega
    go_enter Try.func45, Try.ntmps45
    go_wp2
    go_ret
    exact ⟨rfl, rfl⟩
end

end Go.Proofs.Ythamjlhkiabcnaa
