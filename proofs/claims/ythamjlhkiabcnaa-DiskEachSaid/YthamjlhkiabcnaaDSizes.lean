/-
  The statement DiskSizes: how many blocks a disk may have, how long they may be. No condition.
-/
import Derived.Test.YthamjlhkiabcnaaDLive
import Derived.ProofKit
import Derived.OpenShut
import Derived.ShutString
import Derived.ChangeOld
import Derived.RegionTactic
namespace Go.Proofs.Ythamjlhkiabcnaa
open Go.ChangeShapes Go.WideShapes Go.ChangeAt Go.RowKit
set_option linter.unusedVariables false

theorem own : ownKnob Try.prog.godebug = none := by kernel_rfl
theorem laidOut : laidOutB Try.prog = true := by kernel_rfl

set_option maxHeartbeats 400000 in
theorem refNew_no (n : Int) (w : World) (h : n < 1 ∨ 4096 < n) :
    Calls Try.prog 18 #[.int .i64 n] w fun e w' => e = .returned (.tuple #[.pointer none, .int .i64 2]) ∧ w = w' := by
  rcases Int.lt_or_le n 1 with h1 | h1
  · clear h
    go_enter Try.func18, Try.ntmps18
    go_wp2_with fail
    go_ret2
    exact ⟨rfl, rfl⟩
  · have h2 : 4096 < n := by omega
    clear h
    go_enter Try.func18, Try.ntmps18
    go_wp2_with fail
    go_ret2
    exact ⟨rfl, rfl⟩

def SomePtr (w : World) (e : Ending) (w' : World) : Prop := ∃ p, e = .returned (.tuple #[.pointer (some p), .int .i64 0]) ∧ Below w.heap.size w w'

def manyC (n : Nat) : Array Value := madeCells (Value.string ⟨#[]⟩).cells (n * 1)

set_option maxHeartbeats 800000 in
theorem refNew_yes (n : Nat) (w : World) (h1 : 1 ≤ n) (h2 : n ≤ 4096) :
    Calls Try.prog 18 #[.int .i64 (n : Int)] w (SomePtr w) := by
  obtain ⟨i0, hi, hz0, hz1, hz2⟩ := info_parts rowS
  have hmk : ∀ W : World, (Instr.makeSlice 22 (.int .i64 (n : Int)) (.int .i64 (n : Int))).run Try.prog W = .ok (.slice (some ⟨W.heap.size, 0, none⟩) n n) (W.alloc (.cells (manyC n) 9)) := fun W => by
    have := run_make (P := Try.prog) W 22 9 i0 (.string ⟨#[]⟩) Try.underlying22 hi hz0 .i64 .i64 n n (by omega) (Int.le_refl _) (by rw [hz2]; omega) (by omega)
    rw [hz1] at this
    simpa [manyC] using this
  clear hi hz0 hz1 hz2
  go_enter Try.func18, Try.ntmps18
  go_wp2_with fail
  go_region
  all_goals
    go_wp2_with fail
    go_ret2
    refine ⟨_, rfl, ?_⟩
    exact ((((Below.refl _ _).alloc (Nat.le_refl _) _).alloc (by simp) _).alloc (by simp; omega) _).drew

theorem rowB : (Try.prog.info? 5).map (fun i => (i.zero, i.size, i.bytes)) = some (some (.int .u8 0), 1, 1) := by kernel_rfl

theorem conv_zero {w : World} {B g n : Nat} (h' : w.ownsRow B 5 1 (.slice (some ⟨g, 0, none⟩) n n) n (madeCells (Value.int .u8 0).cells (n * 1)).toList) :
    ∃ s : ByteArray, s.size = n ∧ (convert 41 9 (.slice (some ⟨g, 0, none⟩) n n)).run Try.prog w = .ok (.string s) w := by
  have h := h'
  rw [Nat.mul_one, show (Value.int .u8 0).cells = #[Value.int .u8 0] from rfl, toList_madeCells_one] at h
  have hc := run_convert_bytes_arg (P := Try.prog) w 41 5 Try.underlying41 Try.underlying5 g 0 n n (List.replicate n 0) (by simp) (fun i hi => by
      rw [Nat.zero_add, h.cellAt i (by omega)]
      simp [hi]) 9 Try.underlying9
  refine ⟨_, ?_, hc⟩
  show Array.size _ = n
  rw [← Array.length_toList]
  simp

def bigRow : List ByteArray := List.replicate 4097 emptyB
theorem bigRow_length : bigRow.length = 4097 := List.length_replicate ..

set_option maxRecDepth 20000 in
set_option maxHeartbeats 3200000 in
theorem sizes_out (blocks size : Int) (w : World) (h : size < 0 ∨ 2048 < size) :
    Calls Try.prog 4 #[.int .i64 blocks, .int .i64 size] w fun e w' => e = .returned (.bool true) ∧ Below w.heap.size w w' := by
  rcases Int.lt_or_le size 0 with h1 | h1
  · clear h
    go_enter Try.func4, Try.ntmps4
    go_wp2_with fail
    refine (live_any _).mono ?_
    rintro e w1 ⟨rfl, hb⟩
    go_wp2_with fail
    go_ret
    exact ⟨rfl, hb⟩
  · have h2 : 2048 < size := by omega
    clear h
    go_enter Try.func4, Try.ntmps4
    go_wp2_with fail
    refine (live_any _).mono ?_
    rintro e w1 ⟨rfl, hb⟩
    go_wp2_with fail
    go_ret
    exact ⟨rfl, hb⟩

theorem write_len (d : Dk) (n : Int) (s : ByteArray) : (d.write n s).now.length = d.now.length := by
  unfold Dk.write
  split
  · rfl
  · split
    · rfl
    · split
      · rw [d.spend_now]
      · show (d.spend.now.set _ _).length = _
        rw [List.length_set, d.spend_now]

set_option maxRecDepth 20000 in
set_option maxHeartbeats 3200000 in
theorem sizes_no_long (blocks : Int) (n : Nat) (w : World) (h : n ≤ 2048) (hl : 1024 < n) (hb : blocks < 1 ∨ 4096 < blocks) :
    Calls Try.prog 4 #[.int .i64 blocks, .int .i64 (n : Int)] w fun e w' => e = .returned (.bool true) ∧ Below w.heap.size w w' := by
  obtain ⟨i0, hi, hz0, hz1, hz2⟩ := info_parts rowS
  obtain ⟨j0, hj, hy0, hy1, hy2⟩ := info_parts rowB
  have HB := Lib.hid hb
  clear hb
  go_enter Try.func4, Try.ntmps4
  go_wp2_with fail
  refine (new_no blocks w HB.out).mono ?_
  rintro e w1 ⟨rfl, rfl⟩
  go_wp2_with fail
  refine (refNew_no blocks w HB.out).mono ?_
  rintro e w1 ⟨rfl, rfl⟩
  go_wp2_with fail
  refine (num_any _ _).mono ?_
  rintro e w2 ⟨rfl, rfl⟩
  have b2 := Below.refl w.heap.size w
  go_wp2_with (at_make; refine wpList_make_full _ rfl _ _ 41 rfl w.heap.size 5 j0 (.int .u8 0) 1 Try.underlying41 hj hy0 hy1 .i64 .i64 _ _ n rfl rfl rfl rfl (by rw [hy2]; omega) (by unfold maxLen; omega) (Nat.le_refl _) ?_; intro w0 hown0 hgrow0; obtain ⟨s, hs, hc⟩ := conv_zero hown0; have HS := Lib.hid hs; clear hs)
  have b3 : Below w.heap.size w w0 := b2.grown hgrow0 b2.size (by simp)
  have hba : Below w0.heap.size w0 (w0.alloc (.cells #[.string s] 9)) := (Below.refl _ _).alloc (Nat.le_refl _) _
  have hlit := row_of_own (World.ownsRow_lit (base := w0.heap.size) (e := 9) (size := 1) w0 #[.string s] 1 (Nat.le_refl _) (by decide) rfl)
  have HLit := Lib.hid hlit
  have b4 := bthen b3 hba
  clear hown0 hgrow0 hlit b2
  refine (load_long (l := [s]) HLit.out (by simp) (by simp) (by intro q hq; simp at hq; subst hq; rw [HS.out]; unfold maxLen; omega) (by simp [anyLong, HS.out]; omega)).mono ?_
  rintro e w5 ⟨rfl, rfl⟩
  have b5 := b4
  clear b3 b4 HLit hba
  go_wp2_with fail
  refine (num_any _ _).mono ?_
  rintro e w6 ⟨rfl, rfl⟩
  go_wp2_with (at_make; refine wpList_make_full _ rfl _ _ 22 rfl (w0.alloc (.cells #[.string s] 9)).heap.size 9 i0 (.string ⟨#[]⟩) 1 Try.underlying22 hi hz0 hz1 .i64 .i64 _ _ 4097 rfl rfl rfl rfl (by rw [hz2]; decide) (by decide) (Nat.le_refl _) ?_; intro w7 hown7 hgrow7)
  have b7 : Below w.heap.size w w7 := b5.grown hgrow7 b5.size (by simp)
  rw [strs_empty 4097] at hown7
  have hrow := Lib.hid (row_of_own hown7)
  clear hown7 hgrow7
  refine (load_arg (l := bigRow) (by rw [bigRow_length]; simpa [bigRow] using hrow.out) (by rw [bigRow_length]; decide) (by rw [bigRow_length]; decide)).mono ?_
  rintro e w8 ⟨rfl, rfl⟩
  go_wp2_with fail
  refine (num_any _ _).mono ?_
  rintro e w8 ⟨rfl, rfl⟩
  go_wp2_with fail
  refine (live_any _).mono ?_
  rintro e w8 ⟨rfl, b⟩
  go_wp2_with fail
  go_ret
  exact ⟨rfl, bthen b7 b⟩

set_option maxRecDepth 20000 in
set_option maxHeartbeats 3200000 in
theorem sizes_no_short (blocks : Int) (n : Nat) (w : World) (h : n ≤ 2048) (hl : n ≤ 1024) (hb : blocks < 1 ∨ 4096 < blocks) :
    Calls Try.prog 4 #[.int .i64 blocks, .int .i64 (n : Int)] w fun e w' => e = .returned (.bool true) ∧ Below w.heap.size w w' := by
  obtain ⟨i0, hi, hz0, hz1, hz2⟩ := info_parts rowS
  obtain ⟨j0, hj, hy0, hy1, hy2⟩ := info_parts rowB
  have HB := Lib.hid hb
  clear hb
  go_enter Try.func4, Try.ntmps4
  go_wp2_with fail
  refine (new_no blocks w HB.out).mono ?_
  rintro e w1 ⟨rfl, rfl⟩
  go_wp2_with fail
  refine (refNew_no blocks w HB.out).mono ?_
  rintro e w1 ⟨rfl, rfl⟩
  go_wp2_with fail
  refine (num_any _ _).mono ?_
  rintro e w2 ⟨rfl, rfl⟩
  have b2 := Below.refl w.heap.size w
  go_wp2_with (at_make; refine wpList_make_full _ rfl _ _ 41 rfl w.heap.size 5 j0 (.int .u8 0) 1 Try.underlying41 hj hy0 hy1 .i64 .i64 _ _ n rfl rfl rfl rfl (by rw [hy2]; omega) (by unfold maxLen; omega) (Nat.le_refl _) ?_; intro w0 hown0 hgrow0; obtain ⟨s, hs, hc⟩ := conv_zero hown0; have HS := Lib.hid hs; clear hs)
  have b3 : Below w.heap.size w w0 := b2.grown hgrow0 b2.size (by simp)
  have hba : Below w0.heap.size w0 (w0.alloc (.cells #[.string s] 9)) := (Below.refl _ _).alloc (Nat.le_refl _) _
  have hlit := row_of_own (World.ownsRow_lit (base := w0.heap.size) (e := 9) (size := 1) w0 #[.string s] 1 (Nat.le_refl _) (by decide) rfl)
  have HLit := Lib.hid hlit
  have b4 := bthen b3 hba
  clear hown0 hgrow0 hlit b2
  refine (load_ok (l := [s]) (B := w.heap.size) HLit.out (by simp) (by simp) (by intro q hq; simp at hq; subst hq; rw [HS.out]; unfold maxLen; omega) (by simp [anyLong, HS.out]; omega) b4.size).mono ?_
  rintro e w5 ⟨x, S5, rfl, _, _, b⟩
  have b5 := bthen b4 b
  clear b
  clear b3 b4 HLit hba
  go_wp2_with fail
  refine (num_any _ _).mono ?_
  rintro e w6 ⟨rfl, rfl⟩
  go_wp2_with (at_make; refine wpList_make_full _ rfl _ _ 22 rfl w5.heap.size 9 i0 (.string ⟨#[]⟩) 1 Try.underlying22 hi hz0 hz1 .i64 .i64 _ _ 4097 rfl rfl rfl rfl (by rw [hz2]; decide) (by decide) (Nat.le_refl _) ?_; intro w7 hown7 hgrow7)
  have b7 : Below w.heap.size w w7 := b5.grown hgrow7 b5.size (by simp)
  rw [strs_empty 4097] at hown7
  have hrow := Lib.hid (row_of_own hown7)
  clear hown7 hgrow7
  refine (load_arg (l := bigRow) (by rw [bigRow_length]; exact hrow.out) (by rw [bigRow_length]; decide) (by rw [bigRow_length]; decide)).mono ?_
  rintro e w8 ⟨rfl, rfl⟩
  go_wp2_with fail
  refine (num_any _ _).mono ?_
  rintro e w8 ⟨rfl, rfl⟩
  go_wp2_with fail
  refine (live_any _).mono ?_
  rintro e w8 ⟨rfl, b⟩
  go_wp2_with fail
  go_ret
  exact ⟨rfl, bthen b7 b⟩

set_option maxRecDepth 20000 in
set_option maxHeartbeats 3200000 in
theorem sizes_yes_long (blocks : Nat) (n : Nat) (w : World) (h : n ≤ 2048) (hl : 1024 < n) (hb1 : 1 ≤ blocks) (hb2 : blocks ≤ 4096) :
    Calls Try.prog 4 #[.int .i64 (blocks : Int), .int .i64 (n : Int)] w fun e w' => e = .returned (.bool true) ∧ Below w.heap.size w w' := by
  obtain ⟨i0, hi, hz0, hz1, hz2⟩ := info_parts rowS
  obtain ⟨j0, hj, hy0, hy1, hy2⟩ := info_parts rowB
  go_enter Try.func4, Try.ntmps4
  go_wp2_with fail
  refine (new_yes blocks (B := w.heap.size) w (by omega) (by omega) (Nat.le_refl _)).mono ?_
  rintro e w1 ⟨a, S1, rfl, h1, _, b1⟩
  have H1 := Lib.hid h1
  clear h1
  go_wp2_with fail
  refine (refNew_yes blocks w1 (by omega) (by omega)).mono ?_
  rintro e w2 ⟨p, rfl, b⟩
  have H2 := Lib.hid (H1.out.below b)
  have b2 := bthen b1 b
  clear b1 b H1
  go_wp2_with fail
  refine (num_any _ _).mono ?_
  rintro e w3 ⟨rfl, rfl⟩
  go_wp2_with (at_make; refine wpList_make_full _ rfl _ _ 41 rfl w2.heap.size 5 j0 (.int .u8 0) 1 Try.underlying41 hj hy0 hy1 .i64 .i64 _ _ n rfl rfl rfl rfl (by rw [hy2]; omega) (by unfold maxLen; omega) (Nat.le_refl _) ?_; intro w0 hown0 hgrow0; obtain ⟨s, hs, hc⟩ := conv_zero hown0; have HS := Lib.hid hs; clear hs)
  have b3 : Below w.heap.size w w0 := b2.grown hgrow0 b2.size (by simp)
  have H3 := Lib.hid (H2.out.keep (touch_of_grown hgrow0 (fun _ => False) (by simp)) fun _ _ h => h)
  clear H2
  have hba : Below w0.heap.size w0 (w0.alloc (.cells #[.string s] 9)) := (Below.refl _ _).alloc (Nat.le_refl _) _
  have hlit := row_of_own (World.ownsRow_lit (base := w0.heap.size) (e := 9) (size := 1) w0 #[.string s] 1 (Nat.le_refl _) (by decide) rfl)
  have HLit := Lib.hid hlit
  have b4 := bthen b3 hba
  clear hown0 hgrow0 hlit b2
  have H4 := Lib.hid (H3.out.below hba)
  clear H3
  refine (load_long (l := [s]) HLit.out (by simp) (by simp) (by intro q hq; simp at hq; subst hq; rw [HS.out]; unfold maxLen; omega) (by simp [anyLong, HS.out]; omega)).mono ?_
  rintro e w5 ⟨rfl, rfl⟩
  have b5 := b4
  have H5 := H4
  clear b3 b4 HLit hba H4
  go_wp2_with fail
  refine (num_any _ _).mono ?_
  rintro e w6 ⟨rfl, rfl⟩
  go_wp2_with fail
  refine (write_any H5.out _ s (by rw [HS.out]; unfold maxLen; omega) (by simp)).mono ?_
  rintro e w6 ⟨rfl, ht⟩
  obtain ⟨S6, h6, b6⟩ := Turned.next b5 H5.out ht
  have he : (Dk.writeE ⟨List.replicate blocks emptyB, List.replicate blocks emptyB, [], false, -1⟩ ((blocks : Int) - 1) s) = 1 := by
    simp [Dk.writeE, Dk.has, Dk.spent, HS.out]
    omega
  rw [he]
  have H6 := Lib.hid h6
  clear h6 ht b5 H5 he
  go_wp2_with fail
  refine (num_any _ _).mono ?_
  rintro e w7 ⟨rfl, rfl⟩
  go_wp2_with fail
  refine (blocks_any H6.out).mono ?_
  rintro e w7 ⟨rfl, rfl⟩
  rw [show ((Dk.write ⟨List.replicate blocks emptyB, List.replicate blocks emptyB, [], false, -1⟩ ((blocks : Int) - 1) s).now.length : Int) = blocks by rw [write_len]; simp]
  go_wp2_with (at_make; refine wpList_make_full _ rfl _ _ 22 rfl w6.heap.size 9 i0 (.string ⟨#[]⟩) 1 Try.underlying22 hi hz0 hz1 .i64 .i64 _ _ 4097 rfl rfl rfl rfl (by rw [hz2]; decide) (by decide) (Nat.le_refl _) ?_; intro w7 hown7 hgrow7)
  have b7 : Below w.heap.size w w7 := b6.grown hgrow7 b6.size (by simp)
  rw [strs_empty 4097] at hown7
  have hrow := Lib.hid (row_of_own hown7)
  clear hown7 hgrow7
  refine (load_arg (l := bigRow) (by rw [bigRow_length]; exact hrow.out) (by rw [bigRow_length]; decide) (by rw [bigRow_length]; decide)).mono ?_
  rintro e w8 ⟨rfl, rfl⟩
  go_wp2_with fail
  refine (num_any _ _).mono ?_
  rintro e w8 ⟨rfl, rfl⟩
  go_wp2_with fail
  refine (live_any _).mono ?_
  rintro e w8 ⟨rfl, b⟩
  go_wp2_with fail
  go_ret
  exact ⟨rfl, bthen b7 b⟩

set_option maxRecDepth 20000 in
set_option maxHeartbeats 3200000 in
theorem sizes_yes_short (blocks : Nat) (n : Nat) (w : World) (h : n ≤ 2048) (hl : n ≤ 1024) (hb1 : 1 ≤ blocks) (hb2 : blocks ≤ 4096) :
    Calls Try.prog 4 #[.int .i64 (blocks : Int), .int .i64 (n : Int)] w fun e w' => e = .returned (.bool true) ∧ Below w.heap.size w w' := by
  obtain ⟨i0, hi, hz0, hz1, hz2⟩ := info_parts rowS
  obtain ⟨j0, hj, hy0, hy1, hy2⟩ := info_parts rowB
  go_enter Try.func4, Try.ntmps4
  go_wp2_with fail
  refine (new_yes blocks (B := w.heap.size) w (by omega) (by omega) (Nat.le_refl _)).mono ?_
  rintro e w1 ⟨a, S1, rfl, h1, _, b1⟩
  have H1 := Lib.hid h1
  clear h1
  go_wp2_with fail
  refine (refNew_yes blocks w1 (by omega) (by omega)).mono ?_
  rintro e w2 ⟨p, rfl, b⟩
  have H2 := Lib.hid (H1.out.below b)
  have b2 := bthen b1 b
  clear b1 b H1
  go_wp2_with fail
  refine (num_any _ _).mono ?_
  rintro e w3 ⟨rfl, rfl⟩
  go_wp2_with (at_make; refine wpList_make_full _ rfl _ _ 41 rfl w2.heap.size 5 j0 (.int .u8 0) 1 Try.underlying41 hj hy0 hy1 .i64 .i64 _ _ n rfl rfl rfl rfl (by rw [hy2]; omega) (by unfold maxLen; omega) (Nat.le_refl _) ?_; intro w0 hown0 hgrow0; obtain ⟨s, hs, hc⟩ := conv_zero hown0; have HS := Lib.hid hs; clear hs)
  have b3 : Below w.heap.size w w0 := b2.grown hgrow0 b2.size (by simp)
  have H3 := Lib.hid (H2.out.keep (touch_of_grown hgrow0 (fun _ => False) (by simp)) fun _ _ h => h)
  clear H2
  have hba : Below w0.heap.size w0 (w0.alloc (.cells #[.string s] 9)) := (Below.refl _ _).alloc (Nat.le_refl _) _
  have hlit := row_of_own (World.ownsRow_lit (base := w0.heap.size) (e := 9) (size := 1) w0 #[.string s] 1 (Nat.le_refl _) (by decide) rfl)
  have HLit := Lib.hid hlit
  have b4 := bthen b3 hba
  clear hown0 hgrow0 hlit b2
  have H4 := Lib.hid (H3.out.below hba)
  clear H3
  refine (load_ok (l := [s]) (B := w.heap.size) HLit.out (by simp) (by simp) (by intro q hq; simp at hq; subst hq; rw [HS.out]; unfold maxLen; omega) (by simp [anyLong, HS.out]; omega) b4.size).mono ?_
  rintro e w5 ⟨x, S5, rfl, _, _, b⟩
  have b5 := bthen b4 b
  have H5 := Lib.hid (H4.out.below b)
  clear b
  clear b3 b4 HLit hba H4
  go_wp2_with fail
  refine (num_any _ _).mono ?_
  rintro e w6 ⟨rfl, rfl⟩
  go_wp2_with fail
  refine (write_any H5.out _ s (by rw [HS.out]; unfold maxLen; omega) (by simp)).mono ?_
  rintro e w6 ⟨rfl, ht⟩
  obtain ⟨S6, h6, b6⟩ := Turned.next b5 H5.out ht
  have he : (Dk.writeE ⟨List.replicate blocks emptyB, List.replicate blocks emptyB, [], false, -1⟩ ((blocks : Int) - 1) s) = 0 := by
    simp [Dk.writeE, Dk.has, Dk.spent, HS.out]
    omega
  rw [he]
  have H6 := Lib.hid h6
  clear h6 ht b5 H5 he
  go_wp2_with fail
  refine (num_any _ _).mono ?_
  rintro e w7 ⟨rfl, rfl⟩
  go_wp2_with fail
  refine (blocks_any H6.out).mono ?_
  rintro e w7 ⟨rfl, rfl⟩
  rw [show ((Dk.write ⟨List.replicate blocks emptyB, List.replicate blocks emptyB, [], false, -1⟩ ((blocks : Int) - 1) s).now.length : Int) = blocks by rw [write_len]; simp]
  go_wp2_with (at_make; refine wpList_make_full _ rfl _ _ 22 rfl w6.heap.size 9 i0 (.string ⟨#[]⟩) 1 Try.underlying22 hi hz0 hz1 .i64 .i64 _ _ 4097 rfl rfl rfl rfl (by rw [hz2]; decide) (by decide) (Nat.le_refl _) ?_; intro w7 hown7 hgrow7)
  have b7 : Below w.heap.size w w7 := b6.grown hgrow7 b6.size (by simp)
  rw [strs_empty 4097] at hown7
  have hrow := Lib.hid (row_of_own hown7)
  clear hown7 hgrow7
  refine (load_arg (l := bigRow) (by rw [bigRow_length]; exact hrow.out) (by rw [bigRow_length]; decide) (by rw [bigRow_length]; decide)).mono ?_
  rintro e w8 ⟨rfl, rfl⟩
  go_wp2_with fail
  refine (num_any _ _).mono ?_
  rintro e w8 ⟨rfl, rfl⟩
  go_wp2_with fail
  refine (live_any _).mono ?_
  rintro e w8 ⟨rfl, b⟩
  go_wp2_with fail
  go_ret
  exact ⟨rfl, bthen b7 b⟩

theorem sizes_walk (blocks size : Int) (w : World) :
    Calls Try.prog 4 #[.int .i64 blocks, .int .i64 size] w fun e w' => e = .returned (.bool true) ∧ Below w.heap.size w w' := by
  by_cases h : size < 0 ∨ 2048 < size
  · exact sizes_out blocks size w h
  · obtain ⟨n, rfl⟩ := Int.eq_ofNat_of_zero_le (show 0 ≤ size by omega)
    by_cases hb : blocks < 1 ∨ 4096 < blocks
    · by_cases hl : 1024 < n
      · exact sizes_no_long blocks n w (by omega) hl hb
      · exact sizes_no_short blocks n w (by omega) (by omega) hb
    · obtain ⟨m, rfl⟩ := Int.eq_ofNat_of_zero_le (show 0 ≤ blocks by omega)
      by_cases hl : 1024 < n
      · exact sizes_yes_long m n w (by omega) hl (by omega) (by omega)
      · exact sizes_yes_short m n w (by omega) (by omega) (by omega) (by omega)

set_option maxRecDepth 100000 in
theorem sizes_lifted (os : Os) (started : os.Started) (H : Type) (enc : TypeId × Value → H) :
    ReturnsInHanded {} Try.checked os 4 .any (Rows.diskSizesSpec.pre6 enc Try.prog Try.f4 Rows.diskSizesRow.domain false) (Rows.diskSizesSpec.post enc Try.prog Try.f4 false true false false) := by
  refine returnsInHanded_of_change (C := Try.checked) own started (by kernel_rfl) Try.func4
    (ChangeSpec.witness6 (enc := enc) (C := Try.checked) false ⟨#[], #[.int .i64 0, .int .i64 0], []⟩ 8 (by kernel_rfl) (by kernel_rfl) (by kernel_rfl) (by kernel_rfl)) ?_
  intro W base args ds gs before hval0 hW hcnd _
  have hval : ∀ (j : Nat) t v, Try.f4.params[j]? = some t → args[j]? = some v → Value.okWide Try.prog W .any base t v := hval0
  have hW' := hW
  obtain ⟨p, q, hA0, hV, rfl, hfz, hnd⟩ := hW
  have hA : DataW.TrodAll enc Try.prog W 0 (fun _ => true) true Try.f4.params.toList args.toList ds p := hA0
  rw [Try.params4] at hA hval
  obtain ⟨v0, vs0, d0, ds0, p0, q0, hargs, rfl, rfl, h0, r0⟩ := trodAll_cons hA
  obtain ⟨v1, vs1, d1, ds1, p1, q1, hargs1, rfl, rfl, h1, r1⟩ := trodAll_cons r0
  obtain ⟨rfl, rfl, rfl⟩ := trodAll_nil r1
  subst hargs1
  obtain rfl : args = #[v0, v1] := by cases args; simp_all
  obtain ⟨rfl, rfl⟩ := trodVars_none hV
  obtain ⟨a0, rfl, rfl, rfl, w0⟩ := open_int Try.underlying3 (hval 0 3 v0 rfl rfl) h0
  obtain ⟨a1, rfl, rfl, rfl, w1⟩ := open_int Try.underlying3 (hval 1 3 v1 rfl rfl) h1
  clear hA0 hval0
  simp only [List.append_nil] at hW'
  refine (sizes_walk a0 a1 W).mono fun e W' ⟨he, bel⟩ => ?_
  subst he
  exact ⟨_, rfl, _, _, _, [], _, [], hW', trodAll_mk1 (shut_bool Try.underlying4 _), (trodAll_cons_mk (shut_int Try.underlying3 w0) (trodAll_cons_mk (shut_int Try.underlying3 w1) trodAll_mk0)), rfl, bel.frame _, fun h => by cases h⟩

/-- The statement. -/
theorem sizes_holds : Rows.DiskSizesSaid :=
  OpenClaim.holds_of_wide 4 Try.f4 rfl rfl rfl rfl rfl rfl rfl ⟨rfl, rfl, rfl, rfl, rfl⟩ rfl rfl rfl rfl rfl (by kernel_rfl) Try.func4 (by kernel_rfl)
    (of_decide_eq_true (by kernel_rfl)) (by unfold Func.isWrapper; first | (rw [if_pos (by decide +kernel)]; kernel_rfl) | (rw [if_neg (by decide +kernel)]; exact ⟨rfl, rfl⟩))
    (fun os started H enc _ => sizes_lifted os started H enc)

#print axioms sizes_holds
end Go.Proofs.Ythamjlhkiabcnaa
