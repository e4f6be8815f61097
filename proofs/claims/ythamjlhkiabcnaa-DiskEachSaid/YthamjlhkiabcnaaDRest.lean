/-
  What the disk's functions do that make lists and disks: Image, Log, Cut, Copy; and Same.
-/
import Derived.Test.YthamjlhkiabcnaaDWrite
import Derived.Test.YthamjlhkiabcnaaRows
namespace Go.Proofs.Ythamjlhkiabcnaa
open Go.RowKit

theorem Row.room {w : World} {size n : Nat} {v : Value} {cs : List Value} (h : Row w size v n cs) : ∃ a c, v = .slice a n c ∧ n ≤ c ∧ (0 < n → ∃ b off, a = some ⟨b, off, none⟩ ∧ b < w.heap.size ∧ ∀ j u, cs[j]? = some u → w.cell? ⟨b, off + j, none⟩ = some u) := by
  rcases h.2 with ⟨rfl, rfl⟩ | ⟨b, off, cap, rfl, h1, h2, h3, h4⟩
  · exact ⟨_, _, rfl, Nat.le_refl _, fun h => absurd h (by omega)⟩
  · exact ⟨_, _, rfl, h2, fun _ => ⟨b, off, rfl, h1, h4⟩⟩

section
variable {w : World} {B a : Nat} {S : Nat → Prop} {d : Dk}

set_option maxHeartbeats 400000 in
theorem image_any (h : IsDisk w B a S d) : Calls Try.prog 25 #[.pointer (some ⟨a, 0, none⟩)] w fun e w' => ∃ v', e = .returned v' ∧ w'.ownsRow w.heap.size 9 1 v' d.now.length (strs d.now) ∧ Below w.heap.size w w' := by
  obtain ⟨⟨fv, bv, lv, h⟩, g⟩ := h
  have c1 := h.c1
  have hle := g.le
  have HC := Lib.hid (cloneS_any h.rnow (by omega))
  obtain ⟨sa, sc, rfl⟩ := h.rnow.shape
  clear h g
  go_enter Try.func25, Try.ntmps25
  go_wp2_with fail
  refine HC.out.mono ?_
  rintro e w1 ⟨v1, rfl, o1, b1⟩
  have O1 := Lib.hid o1
  clear o1
  go_wp2_with fail
  go_ret
  exact ⟨_, rfl, O1.out, b1⟩

set_option maxHeartbeats 400000 in
theorem log_any (h : IsDisk w B a S d) : Calls Try.prog 22 #[.pointer (some ⟨a, 0, none⟩)] w fun e w' => ∃ v', e = .returned v' ∧ w'.ownsRow w.heap.size 51 2 v' d.log.length (wrs d.log) ∧ Below w.heap.size w w' := by
  obtain ⟨⟨fv, bv, lv, h⟩, g⟩ := h
  have c2 := h.c2
  have hle := g.logLen
  have HC := Lib.hid (cloneW_any h.rlog (by omega))
  obtain ⟨sa, sc, rfl⟩ := h.rlog.shape
  clear h g
  go_enter Try.func22, Try.ntmps22
  go_wp2_with fail
  refine HC.out.mono ?_
  rintro e w1 ⟨v1, rfl, o1, b1⟩
  have O1 := Lib.hid o1
  clear o1
  go_wp2_with fail
  go_ret
  exact ⟨_, rfl, O1.out, b1⟩

/-- The disk as it was behind n writes. -/
def Dk.start (d : Dk) : Dk := ⟨d.first, d.first, [], false, -1⟩
def Dk.played (d : Dk) (n : Nat) : Dk := (d.log.take n).foldl Dk.lay d.start

theorem foldl_lay (l : List (Int × ByteArray)) : ∀ d : Dk, (l.foldl Dk.lay d).first = d.first ∧ (l.foldl Dk.lay d).log = d.log ++ l ∧ (l.foldl Dk.lay d).now.length = d.now.length ∧ (l.foldl Dk.lay d).dead = d.dead ∧ (l.foldl Dk.lay d).left = d.left := by
  induction l with
  | nil => intro d; simp
  | cons x l ih =>
    intro d
    obtain ⟨h1, h2, h3, h4, h5⟩ := ih (d.lay x)
    refine ⟨h1, ?_, ?_, h4, h5⟩
    · rw [List.foldl_cons, h2]; simp [Dk.lay]
    · rw [List.foldl_cons, h3]; simp [Dk.lay]
theorem Dk.played_log (d : Dk) (n : Nat) : (d.played n).log = d.log.take n := by rw [Dk.played, (foldl_lay _ _).2.1]; simp [Dk.start]
theorem Dk.played_first (d : Dk) (n : Nat) : (d.played n).first = d.first := by rw [Dk.played, (foldl_lay _ _).1]; rfl
theorem Dk.played_len (d : Dk) (n : Nat) : (d.played n).now.length = d.first.length := by rw [Dk.played, (foldl_lay _ _).2.2.1]; rfl
theorem Dk.played_succ (d : Dk) (n : Nat) (h : n < d.log.length) : d.played (n + 1) = (d.played n).lay (d.log[n]) := by
  unfold Dk.played
  rw [List.take_succ_eq_append_getElem h, List.foldl_append]
  rfl

set_option maxHeartbeats 400000 in
theorem cut_arg (h : IsDisk w B a S d) (n : Int) (hn : n < 0 ∨ d.log.length < n) : Calls Try.prog 23 #[.pointer (some ⟨a, 0, none⟩), .int .i64 n] w fun e w' => e = .returned (.tuple #[.pointer none, .int .i64 2]) ∧ w = w' := by
  obtain ⟨⟨fv, bv, lv, h⟩, g⟩ := h
  have c2 := h.c2
  obtain ⟨sa, sc, rfl⟩ := h.rlog.shape
  clear h g
  rcases Int.lt_or_le n 0 with h1 | h1
  · clear hn
    go_enter Try.func23, Try.ntmps23
    go_wp2
    go_ret2
    exact ⟨rfl, rfl⟩
  · have h2 : (d.log.length : Int) < n := by omega
    clear hn
    go_enter Try.func23, Try.ntmps23
    go_wp2
    go_ret2
    exact ⟨rfl, rfl⟩

set_option maxHeartbeats 1600000 in
theorem cut_ok (h : IsDisk w B a S d) (n : Nat) (hn : n ≤ d.log.length) (hB : B ≤ w.heap.size) : Calls Try.prog 23 #[.pointer (some ⟨a, 0, none⟩), .int .i64 (n : Int)] w (NewDisk w B (d.played n) fun p => .tuple #[p, .int .i64 0]) := by
  obtain ⟨⟨fv, bv, lv, h⟩, g⟩ := h
  have c0 := h.c0
  have c2 := h.c2
  have hL := Lib.hid (laid_any h.rfi (by have := g.flen; have := g.pos; omega) (by have := g.flen; have := g.le; omega) hB)
  have hlen := g.logLen
  have hin := Lib.hid g.logIn
  have hfl := Lib.hid g.flen
  obtain ⟨la, lc, rfl, hcap, hrow⟩ := h.rlog.room
  have HR := Lib.hid hrow
  obtain ⟨sa, sc, rfl⟩ := h.rfi.shape
  have H := Lib.hid h
  clear h g hrow
  go_enter Try.func23, Try.ntmps23
  go_wp2_with fail
  refine hL.out.mono ?_
  rintro e w1 ⟨c, S1, rfl, hd, hS, hb⟩
  have c2' := (H.out.below hb).c2
  have HD := Lib.hid hd
  have HS := Lib.hid hS
  clear hd hS
  go_wp2_with fail
  go_loopw [36] (fun i wr => ∃ k : Nat, k ≤ n ∧ i = .int .i64 (k : Int) ∧ ∃ S', IsDisk wr B c S' (d.played k) ∧ (∀ q, S' q → w.heap.size ≤ q) ∧ Below w.heap.size w wr) (fun i _ => n - (intOf i).toNat)
  case atStart => exact ⟨0, Nat.zero_le _, rfl, S1, HD.out, HS.out, hb⟩
  case round =>
    obtain ⟨k, hk, rfl, S2, hd2, hS2, hb2⟩ := hrel
    by_cases hlt : k < n
    · have hk' : k < d.log.length := by omega
      obtain ⟨lb, lo, rfl, hlb, hcells⟩ := HR.out (by omega)
      obtain ⟨hw0, hw1⟩ := wrs_at d.log k hk'
      have x0 := cell_later hb2 (hcells _ _ hw0)
      have x1 := cell_later hb2 (hcells _ _ hw1)
      have hx := hin.out _ (List.getElem_mem hk')
      have hhas : (d.played k).has (d.log[k]).1 = true := by
        unfold Dk.has; rw [d.played_len, hfl.out]; exact decide_eq_true hx
      have hll : (d.played k).log.length < 4294967296 := by rw [d.played_log, List.length_take]; omega
      have hsucc := Lib.hid (d.played_succ k hk')
      have hhas' := Lib.hid hhas
      have hll' := Lib.hid hll
      clear hcells hw0 hw1 hx hhas hll
      rw [show lo + (k * 2 + 1) = lo + k * 2 + 1 by omega] at x1
      generalize d.log[k] = x at *
      obtain ⟨xi, xs⟩ := x
      go_wp2_with fail
      have hba : Below wr.heap.size wr (wr.alloc (.cells #[.int .i64 xi, .string xs] 51)) := (Below.refl _ _).alloc (Nat.le_refl _) _
      refine (lay_any (hd2.below hba) xi xs hhas'.out hll'.out).mono ?_
      rintro e w2 ⟨rfl, S3, hd3, hS3, ht3⟩
      have hwb : w.heap.size ≤ wr.heap.size := hb2.size
      have hb3 : Below w.heap.size w w2 := (hb2.trans (hba.mono hwb)).trans (ht3.below (by have := hba.size; omega) hS2)
      have hS4 : Hid (∀ q, S3 q → w.heap.size ≤ q) := fun q hq => by
        rcases hS3 q hq with e | e
        · exact hS2 q e
        · have := hba.size; omega
      have HD3 := Lib.hid hd3
      clear hd3 hS3 ht3 hba hS2 hd2
      go_wp2_with fail
      go_roundw
      case rel => exact ⟨k + 1, by omega, by go_num, S3, by rw [hsucc.out]; exact HD3.out, hS4.out, hb3⟩
      case measure => simp [intOf]; omega
    · obtain rfl : k = n := by omega
      have HD2 := Lib.hid hd2
      have HS2 := Lib.hid hS2
      clear hd2 hS2
      go_wp2_with fail
      go_ret2
      exact ⟨c, S2, rfl, HD2.out, HS2.out, hb2⟩

end

end Go.Proofs.Ythamjlhkiabcnaa
