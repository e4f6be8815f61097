/-
  What the document's own disk does: Load, Write, Read, Arm, Start.
-/
import Derived.Test.YthamjlhkiabcnaaDAgain
namespace Go.Proofs.Ythamjlhkiabcnaa
open Go.RowKit

/-- The cells behind the three slices of the document's own disk. -/
def rtail (d : Dk) : List Value := [.bool (decide (d.left ≠ -1)), .int .i64 (if d.left = -1 then 0 else d.left), .bool d.dead]
/-- At block a lies the document's disk d. -/
def IsRef (w : World) (B a : Nat) (S : Nat → Prop) (d : Dk) : Prop :=
  (∃ fv bv lv, IsObj w B a 73 (rtail d) fv bv lv S d.first d.now d.log) ∧ d.Good

theorem IsRef.lt {w : World} {B a : Nat} {S : Nat → Prop} {d : Dk} (h : IsRef w B a S d) : ∀ k, S k → B ≤ k ∧ k < w.heap.size := by
  obtain ⟨⟨_, _, _, h⟩, _⟩ := h; exact h.lt
theorem IsRef.keep {w : World} {B a : Nat} {S : Nat → Prop} {d : Dk} (h : IsRef w B a S d) {w' : World} {U : Nat → Prop} (ht : Touch U w w') (hU : ∀ k, S k → ¬ U k) : IsRef w' B a S d := by
  obtain ⟨⟨_, _, _, h⟩, g⟩ := h; exact ⟨⟨_, _, _, h.keep ht hU⟩, g⟩
theorem IsRef.below {w : World} {B a : Nat} {S : Nat → Prop} {d : Dk} (h : IsRef w B a S d) {w' : World} (hb : Below w.heap.size w w') : IsRef w' B a S d :=
  h.keep (touch_of_below hb fun _ => False) fun _ _ h => h

theorem three_cells {w : World} {a : Nat} {T : TypeId} {x0 x1 x2 x3 x4 x5 : Value} (h : w.heap[a]? = some (.cells (x0 :: x1 :: x2 :: [x3, x4, x5]).toArray T (0, 0))) : w.cell? ⟨a, 3, none⟩ = some x3 ∧ w.cell? ⟨a, 4, none⟩ = some x4 ∧ w.cell? ⟨a, 5, none⟩ = some x5 := by
  simp [World.cell?, h]

/-- A call has turned the document's disk at a to d. -/
def TurnedR (w : World) (B a : Nat) (S : Nat → Prop) (d : Dk) (w' : World) : Prop := ∃ S', IsRef w' B a S' d ∧ (∀ k, S' k → S k ∨ w.heap.size ≤ k) ∧ Touch S w w'
def NewRef (w : World) (B : Nat) (d : Dk) (e : Ending) (w' : World) : Prop :=
  ∃ a S, e = .returned (.tuple #[.pointer (some ⟨a, 0, none⟩), .int .i64 0]) ∧ IsRef w' B a S d ∧ (∀ k, S k → w.heap.size ≤ k) ∧ Below w.heap.size w w'

section
variable {w : World} {B a : Nat} {S : Nat → Prop} {d : Dk}
theorem TurnedR.here (h : IsRef w B a S d) : TurnedR w B a S d w := ⟨S, h, fun _ hk => .inl hk, Touch.refl _ _⟩
theorem turnedR_tail (h : IsRef w B a S d) {d' : Dk} (h1 : d'.first = d.first) (h2 : d'.now = d.now) (h3 : d'.log = d.log) (hg : d'.Good) {w' : World} (ht : ∀ fv bv lv, IsObj w B a 73 (rtail d) fv bv lv S d.first d.now d.log → IsObj w' B a 73 (rtail d') fv bv lv S d.first d.now d.log)
    (htt : Touch S w w') : TurnedR w B a S d' w' := by
  obtain ⟨⟨fv, bv, lv, h⟩, _⟩ := h
  exact ⟨S, ⟨⟨fv, bv, lv, by rw [h1, h2, h3]; exact ht _ _ _ h⟩, hg⟩, fun _ hk => .inl hk, htt⟩

theorem spend_spent (h : d.spent = true) : d.spend = { d with dead := true } := by
  unfold Dk.spent at h
  unfold Dk.spend
  split
  · rfl
  · rename_i hl
    have hd : d.dead = true := by simpa [hl] using h
    rw [if_pos hd]
    cases d
    simp_all
theorem rtail_dead (d : Dk) : rtail { d with dead := true } = (rtail d).set 2 (.bool true) := rfl
theorem rtail_dec (h : d.left ≠ -1) (h0 : d.left ≠ 0) : rtail { d with left := d.left - 1 } = (rtail d).set 1 (.int .i64 (d.left - 1)) := by
  have e1 : d.left - 1 ≠ -1 := by omega
  simp [rtail, e1, h]

set_option maxHeartbeats 800000 in
theorem refRead_any (h : IsRef w B a S d) (n : Int) : Calls Try.prog 44 #[.pointer (some ⟨a, 0, none⟩), .int .i64 n] w fun e w' => e = .returned (d.readV n) ∧ w = w' := by
  obtain ⟨⟨fv, bv, lv, h⟩, g⟩ := h
  have hpos := g.pos
  have c1 := h.c1
  have c5 := (three_cells h.block).2.2
  rcases h.onow.2 with ⟨_, h0⟩ | ⟨gb, cap, cur, rfl, hgb, hblk, hcap, hmax, _, _⟩
  · omega
  by_cases hn : 0 ≤ n ∧ n < d.now.length
  · obtain ⟨hn0, hn1⟩ := hn
    obtain ⟨m, rfl⟩ := Int.eq_ofNat_of_zero_le hn0
    have hm : m < d.now.length := by omega
    have hc := h.rnow.strAt rfl m hm
    rw [Nat.zero_add] at hc
    have hh : d.has (m : Int) = true := decide_eq_true ⟨hn0, hn1⟩
    cases hd : d.dead
    · have e : d.readV (m : Int) = .tuple #[.string (d.now[m]), .int .i64 0] := by simp [Dk.readV, hh, hd, hm]
      rw [e]
      rw [hd] at c5
      clear e hd h g hblk hh
      go_enter Try.func44, Try.ntmps44
      go_wp2
      go_ret2
      exact ⟨rfl, rfl⟩
    · have e : d.readV (m : Int) = .tuple #[.string ⟨#[]⟩, .int .i64 20] := by simp [Dk.readV, hh, hd]
      rw [e]
      rw [hd] at c5
      clear e hd h g hblk hh
      go_enter Try.func44, Try.ntmps44
      go_wp2
      go_ret2
      exact ⟨rfl, rfl⟩
  · have hh : d.has n = false := decide_eq_false hn
    have e : d.readV n = .tuple #[.string ⟨#[]⟩, .int .i64 2] := by simp [Dk.readV, hh]
    rw [e]
    clear e h g hblk hh
    by_cases h0 : n < 0
    · clear hn
      go_enter Try.func44, Try.ntmps44
      go_wp2
      go_ret2
      exact ⟨rfl, rfl⟩
    · have h0' : 0 ≤ n := by omega
      have h1 : (d.now.length : Int) ≤ n := by omega
      clear hn h0
      go_enter Try.func44, Try.ntmps44
      go_wp2
      go_ret2
      exact ⟨rfl, rfl⟩

set_option maxHeartbeats 400000 in
theorem refArm_bad (n : Int) (h : n < -1) (w : World) : Calls Try.prog 41 #[.pointer (some ⟨a, 0, none⟩), .int .i64 n] w fun e w' => e = .returned (.int .i64 2) ∧ w = w' := by
  go_enter Try.func41, Try.ntmps41
  go_wp2
  go_ret
  exact ⟨rfl, rfl⟩

set_option maxHeartbeats 800000 in
theorem refArm_ok (h : IsRef w B a S d) (n : Int) (h1 : -1 ≤ n) (h2 : n ≤ 9223372036854775807) : Calls Try.prog 41 #[.pointer (some ⟨a, 0, none⟩), .int .i64 n] w fun e w' => e = .returned (.int .i64 0) ∧ TurnedR w B a S { d with left := n } w' := by
  have H := Lib.hid h
  obtain ⟨⟨fv, bv, lv, h⟩, g⟩ := h
  obtain ⟨c3, c4, c5⟩ := three_cells h.block
  have fz := h.fz
  have hg : Dk.Good { d with left := n } := ⟨g.pos, g.le, g.flen, g.logIn, g.logLen, h1, h2⟩
  have HG := Lib.hid hg
  have hA := Lib.hid h.memA
  clear h g hg
  by_cases hn : n = -1
  · subst hn
    go_enter Try.func41, Try.ntmps41
    go_wp2
    go_ret
    refine ⟨rfl, turnedR_tail (d' := { d with left := -1 }) H.out rfl rfl rfl HG.out (fun fv bv lv ho => ?_) ?_⟩
    · exact (ho.tailSet 0 (.bool false)).tailSet 1 (.int .i64 0)
    · exact (touch_set _ _ _ _ S hA.out).trans (touch_set _ _ _ _ S hA.out)
  · have hn0 : 0 ≤ n := by omega
    have Hn := Lib.hid hn
    clear hn
    go_enter Try.func41, Try.ntmps41
    go_wp2
    go_ret
    refine ⟨rfl, turnedR_tail (d' := { d with left := n }) H.out rfl rfl rfl HG.out (fun fv bv lv ho => ?_) ?_⟩
    · have := ((ho.tailSet 0 (.bool true)).tailSet 1 (.int .i64 0)).tailSet 1 (.int .i64 n)
      have e : rtail { d with left := n } = (((rtail d).set 0 (.bool true)).set 1 (.int .i64 0)).set 1 (.int .i64 n) := by simp [rtail, Hn.out]
      rw [e]; exact this
    · exact ((touch_set _ _ _ _ S hA.out).trans (touch_set _ _ _ _ S hA.out)).trans (touch_set _ _ _ _ S hA.out)

set_option maxHeartbeats 800000 in
theorem refStart_any (h : IsRef w B a S d) : Calls Try.prog 42 #[.pointer (some ⟨a, 0, none⟩)] w fun e w' => e = .returned (.tuple #[]) ∧ TurnedR w B a S { d with dead := false, left := -1 } w' := by
  have H := Lib.hid h
  obtain ⟨⟨fv, bv, lv, h⟩, g⟩ := h
  obtain ⟨c3, c4, c5⟩ := three_cells h.block
  have fz := h.fz
  have hg : Dk.Good { d with dead := false, left := -1 } := ⟨g.pos, g.le, g.flen, g.logIn, g.logLen, Int.le_refl _, (by decide : (-1 : Int) ≤ 9223372036854775807)⟩
  have HG := Lib.hid hg
  have hA := Lib.hid h.memA
  clear h g hg
  go_enter Try.func42, Try.ntmps42
  go_wp2
  go_end0
  refine ⟨rfl, turnedR_tail (d' := { d with dead := false, left := -1 }) H.out rfl rfl rfl HG.out (fun fv bv lv ho => ?_) ?_⟩
  · exact ((ho.tailSet 2 (.bool false)).tailSet 0 (.bool false)).tailSet 1 (.int .i64 0)
  · exact ((touch_set _ _ _ _ S hA.out).trans (touch_set _ _ _ _ S hA.out)).trans (touch_set _ _ _ _ S hA.out)

set_option maxHeartbeats 1600000 in
theorem refWrite_any (h : IsRef w B a S d) (n : Int) (s : ByteArray) (hs : s.size ≤ maxLen) (hl : d.log.length < 4294967296) :
    Calls Try.prog 40 #[.pointer (some ⟨a, 0, none⟩), .int .i64 n, .string s] w fun e w' => e = .returned (.int .i64 (d.writeE n s)) ∧ TurnedR w B a S (d.write n s) w' := by
  unfold maxLen at hs
  have H := Lib.hid h
  obtain ⟨⟨fv, bv, lv, h⟩, g⟩ := h
  have hpos := g.pos
  have hlo := g.leftLo
  have hhi := g.leftHi
  have c1 := h.c1
  obtain ⟨c3, c4, c5⟩ := three_cells h.block
  have fz := h.fz
  have hA := Lib.hid h.memA
  rcases h.onow.2 with ⟨_, h0⟩ | ⟨gb, cap, cur, rfl, hgb, hblk, hcap, hmax, _, _⟩
  · omega
  have HG := Lib.hid g
  have HO := Lib.hid h
  clear hblk g h
  by_cases hn : 0 ≤ n ∧ n < d.now.length
  · have hh : d.has n = true := decide_eq_true hn
    obtain ⟨hn0, hn1⟩ := hn
    by_cases hlong : 1024 < s.size
    · have e1 : d.writeE n s = 1 := by simp [Dk.writeE, hh, hlong]
      have e2 : d.write n s = d := by simp [Dk.write, hh, hlong]
      rw [e1, e2]
      clear e1 e2 hh c3 c4 c5
      go_enter Try.func40, Try.ntmps40
      go_wp2
      go_ret
      exact ⟨rfl, TurnedR.here H.out⟩
    · have hlong' : s.size ≤ 1024 := by omega
      cases hsp : d.spent
      · have e1 : d.writeE n s = 0 := by simp [Dk.writeE, hh, hlong, hsp]
        have e2 : d.write n s = d.spend.lay (n, s) := by simp [Dk.write, hh, hlong, hsp]
        have hdd : d.dead = false := by simp [Dk.spent] at hsp; exact hsp.1
        have hl0 : d.left ≠ 0 := by simp [Dk.spent] at hsp; exact hsp.2
        have hgl : Hid ((d.spend.lay (n, s)).Good) := Lib.hid (HG.out.spend.lay (x := (n, s)) (by unfold Dk.has; rw [d.spend_now]; exact hh) (by rw [d.spend_log]; exact hl))
        obtain ⟨m, rfl⟩ := Int.eq_ofNat_of_zero_le hn0
        obtain ⟨i0, hi, hz0, hz1, hz2⟩ := info_parts rowW
        have hcm : w.cell? ⟨gb, m, none⟩ = some (.string (d.now[m]'(by omega))) := by
          rw [HO.out.onow.cellAt m (by omega)]; exact strs_at _ _ _
        have hfb : ∀ o, w.frozen? ⟨gb, o, none⟩ = false := fun o => HO.out.onow.frozenAt o
        have c2 := HO.out.c2
        have hgba : Hid (gb ≠ a) := Lib.hid ((HO.out.apB gb rfl).1)
        rw [e1, e2]
        rw [hdd] at c5
        clear e1 e2 hh hsp
        by_cases hm1 : d.left = -1
        · have hsd : d.spend = d := by simp [Dk.spend, hdd, hm1]
          rw [hsd] at hgl ⊢
          have c3' : w.cell? ⟨a, 3, none⟩ = some (.bool false) := by rw [c3]; simp [hm1]
          clear c3 hsd hdd hl0 hm1 hlong c4
          have hO1 := (HO.out).nowSet rfl m s
          have hVs : (w.setCell ⟨gb, m, none⟩ (.string s)).heap.size = w.heap.size := by simp
          have q0 : (w.setCell ⟨gb, m, none⟩ (.string s)).cell? ⟨a, 2, none⟩ = some lv := hO1.c2
          have hN := news2 (w.setCell ⟨gb, m, none⟩ (.string s)) (.int .i64 (m : Int)) (.string s) 51
          rw [hVs] at hN
          have HN := Lib.hid hN
          have HVs := Lib.hid hVs
          have HO1 := Lib.hid hO1
          have hq : ∀ w', ((w.setCell ⟨gb, m, none⟩ (.string s)).alloc (.cells #[.int .i64 (m : Int), .string s] 51)).grownBy w' lv.ownBlock → w'.cell? ⟨a, 2, none⟩ = some lv ∧ w'.frozen? ⟨a, 2, none⟩ = false := fun w' hg => by
            have h3 := hO1.keep (touch_alloc (w.setCell ⟨gb, m, none⟩ (.string s)) (.cells #[.int .i64 (m : Int), .string s] 51) fun _ => False) (fun _ _ h => h)
            have hb := hg.block a h3.alt (fun e => h3.apL a e.symm rfl)
            exact ⟨(World.cell?_of_block (w := (w.setCell ⟨gb, m, none⟩ (.string s)).alloc _) (a := ⟨a, 2, none⟩) hb).trans h3.c2, (World.frozen?_of_block (w := (w.setCell ⟨gb, m, none⟩ (.string s)).alloc _) (a := ⟨a, 2, none⟩) hb).trans (h3.fz 2)⟩
          have HQ := Lib.hid hq
          have HT0 : Hid (Touch S w (w.setCell ⟨gb, m, none⟩ (.string s))) := Lib.hid ((Touch.refl S w).trans (touch_set _ gb m (.string s) S (HO.out.memB rfl)))
          clear hq hN hVs hO1
          go_enter Try.func40, Try.ntmps40
          go_wp2_with (at_builtin; refine wpList_append_at _ rfl _ _ 46 rfl B 51 i0 (.agg #[.int .i64 0, .string ⟨#[]⟩]) 2 24 Try.underlying46 hi hz0 hz1 hz2 rfl (by decide) lv d.log.length (wrs d.log) rfl (HO1.out.olog.alloc _) ⟨w.heap.size, 0, none⟩ 1 1 [.int .i64 (m : Int), .string s] rfl (by decide) rfl HN.out (wrs_oneCell [((m : Int), s)]) (by unfold maxLen; omega) (by omega) (by have := HO.out.alt; have := HO.out.base; simp; omega) ?_)
          intro v' w' hown' hg hw
          obtain ⟨q1, q2⟩ := HQ.out w' hg
          obtain ⟨sa, sc, rfl⟩ := (row_of_own hown').shape
          have hlp := (HO1.out.keep (touch_alloc _ _ fun _ => False) (fun _ _ h => h)).logPut (x := ((m : Int), s)) hown' hg (hw.imp (fun e => e) fun e => ⟨w.heap.size + 1, e, by simp⟩)
          have HLP := Lib.hid hlp
          clear hown' hg hw hlp HN HVs HQ
          go_wp2
          go_ret
          obtain ⟨S', k1, k2, k3⟩ := HLP.out
          refine ⟨rfl, S', ⟨⟨fv, _, _, k1⟩, hgl.out⟩, fun k hk => (k2 k hk).imp (fun e => e) fun e => ?_, HT0.out.trans ((touch_alloc _ _ S).trans k3)⟩
          exact Nat.le_trans (by simp) e
        · have hsd : d.spend = { d with left := d.left - 1 } := by simp [Dk.spend, hdd, hl0, hm1]
          rw [hsd] at hgl ⊢
          have c3' : w.cell? ⟨a, 3, none⟩ = some (.bool true) := by rw [c3]; simp [hm1]
          have c4' : w.cell? ⟨a, 4, none⟩ = some (.int .i64 d.left) := by rw [c4]; simp [hm1]
          have hle0 : ((d.left : Int) == 0) = false := by simpa using hl0
          have hO0 := HO.out.tailSet 1 (.int .i64 (d.left - 1))
          rw [← rtail_dec hm1 hl0] at hO0
          have HO0 := Lib.hid hO0
          have c2' : (w.setCell ⟨a, 4, none⟩ (.int .i64 (d.left - 1))).cell? ⟨gb, m, none⟩ = some (.string (d.now[m]'(by omega))) := by
            rw [hO0.onow.cellAt m (by omega)]; exact strs_at _ _ _
          have c1' : (w.setCell ⟨a, 4, none⟩ (.int .i64 (d.left - 1))).cell? ⟨a, 1, none⟩ = some (.slice (some ⟨gb, 0, none⟩) d.now.length cap) := hO0.c1
          clear c3 c4 hsd hdd hl0 hm1 hlong hO0
          have hO1 := (HO0.out).nowSet rfl m s
          have hVs : ((w.setCell ⟨a, 4, none⟩ (.int .i64 (d.left - 1))).setCell ⟨gb, m, none⟩ (.string s)).heap.size = w.heap.size := by simp
          have q0 : ((w.setCell ⟨a, 4, none⟩ (.int .i64 (d.left - 1))).setCell ⟨gb, m, none⟩ (.string s)).cell? ⟨a, 2, none⟩ = some lv := hO1.c2
          have hN := news2 ((w.setCell ⟨a, 4, none⟩ (.int .i64 (d.left - 1))).setCell ⟨gb, m, none⟩ (.string s)) (.int .i64 (m : Int)) (.string s) 51
          rw [hVs] at hN
          have HN := Lib.hid hN
          have HVs := Lib.hid hVs
          have HO1 := Lib.hid hO1
          have hq : ∀ w', (((w.setCell ⟨a, 4, none⟩ (.int .i64 (d.left - 1))).setCell ⟨gb, m, none⟩ (.string s)).alloc (.cells #[.int .i64 (m : Int), .string s] 51)).grownBy w' lv.ownBlock → w'.cell? ⟨a, 2, none⟩ = some lv ∧ w'.frozen? ⟨a, 2, none⟩ = false := fun w' hg => by
            have h3 := hO1.keep (touch_alloc ((w.setCell ⟨a, 4, none⟩ (.int .i64 (d.left - 1))).setCell ⟨gb, m, none⟩ (.string s)) (.cells #[.int .i64 (m : Int), .string s] 51) fun _ => False) (fun _ _ h => h)
            have hb := hg.block a h3.alt (fun e => h3.apL a e.symm rfl)
            exact ⟨(World.cell?_of_block (w := ((w.setCell ⟨a, 4, none⟩ (.int .i64 (d.left - 1))).setCell ⟨gb, m, none⟩ (.string s)).alloc _) (a := ⟨a, 2, none⟩) hb).trans h3.c2, (World.frozen?_of_block (w := ((w.setCell ⟨a, 4, none⟩ (.int .i64 (d.left - 1))).setCell ⟨gb, m, none⟩ (.string s)).alloc _) (a := ⟨a, 2, none⟩) hb).trans (h3.fz 2)⟩
          have HQ := Lib.hid hq
          have HT0 : Hid (Touch S w ((w.setCell ⟨a, 4, none⟩ (.int .i64 (d.left - 1))).setCell ⟨gb, m, none⟩ (.string s))) := Lib.hid ((touch_set w a 4 (.int .i64 (d.left - 1)) S hA.out).trans (touch_set _ gb m (.string s) S (HO.out.memB rfl)))
          clear hq hN hVs hO1
          go_enter Try.func40, Try.ntmps40
          go_wp2_with (at_builtin; refine wpList_append_at _ rfl _ _ 46 rfl B 51 i0 (.agg #[.int .i64 0, .string ⟨#[]⟩]) 2 24 Try.underlying46 hi hz0 hz1 hz2 rfl (by decide) lv d.log.length (wrs d.log) rfl (HO1.out.olog.alloc _) ⟨w.heap.size, 0, none⟩ 1 1 [.int .i64 (m : Int), .string s] rfl (by decide) rfl HN.out (wrs_oneCell [((m : Int), s)]) (by unfold maxLen; omega) (by omega) (by have := HO.out.alt; have := HO.out.base; simp; omega) ?_)
          intro v' w' hown' hg hw
          obtain ⟨q1, q2⟩ := HQ.out w' hg
          obtain ⟨sa, sc, rfl⟩ := (row_of_own hown').shape
          have hlp := (HO1.out.keep (touch_alloc _ _ fun _ => False) (fun _ _ h => h)).logPut (x := ((m : Int), s)) hown' hg (hw.imp (fun e => e) fun e => ⟨w.heap.size + 1, e, by simp⟩)
          have HLP := Lib.hid hlp
          clear hown' hg hw hlp HN HVs HQ
          go_wp2
          go_ret
          obtain ⟨S', k1, k2, k3⟩ := HLP.out
          refine ⟨rfl, S', ⟨⟨fv, _, _, k1⟩, hgl.out⟩, fun k hk => (k2 k hk).imp (fun e => e) fun e => ?_, HT0.out.trans ((touch_alloc _ _ S).trans k3)⟩
          exact Nat.le_trans (by simp) e
      · have e1 : d.writeE n s = 20 := by simp [Dk.writeE, hh, hlong, hsp]
        have e2 : d.write n s = d.spend := by simp [Dk.write, hh, hlong, hsp]
        have hsd := spend_spent hsp
        have hgs := Lib.hid HG.out.spend
        rw [e1, e2]
        rw [hsd] at hgs ⊢
        have ht := turnedR_tail (d' := { d with dead := true }) (w' := w.setCell ⟨a, 5, none⟩ (.bool true)) H.out rfl rfl rfl hgs.out (fun fv bv lv ho => ho.tailSet 2 (.bool true)) (touch_set _ _ _ _ S hA.out)
        have HT := Lib.hid ht
        clear e1 e2 hh hsd ht
        cases hdd : d.dead
        · have hl0 : d.left = 0 := by simpa [Dk.spent, hdd] using hsp
          rw [hdd] at c5
          rw [hl0] at c3 c4
          have c3' : w.cell? ⟨a, 3, none⟩ = some (.bool true) := by rw [c3]; simp
          have c4' : w.cell? ⟨a, 4, none⟩ = some (.int .i64 0) := by rw [c4]; simp
          clear hdd hsp hl0 c3 c4 hlong
          go_enter Try.func40, Try.ntmps40
          go_wp2
          go_ret
          exact ⟨rfl, HT.out⟩
        · rw [hdd] at c5
          clear hdd hsp c3 c4 hlong
          go_enter Try.func40, Try.ntmps40
          go_wp2
          go_ret
          exact ⟨rfl, HT.out⟩
  · have hh : d.has n = false := decide_eq_false hn
    have e1 : d.writeE n s = 2 := by simp [Dk.writeE, hh]
    have e2 : d.write n s = d := by simp [Dk.write, hh]
    rw [e1, e2]
    clear e1 e2 hh c3 c4 c5
    by_cases h0 : n < 0
    · clear hn
      go_enter Try.func40, Try.ntmps40
      go_wp2
      go_ret
      exact ⟨rfl, TurnedR.here H.out⟩
    · have h0' : 0 ≤ n := by omega
      have h1 : (d.now.length : Int) ≤ n := by omega
      clear hn h0
      go_enter Try.func40, Try.ntmps40
      go_wp2
      go_ret
      exact ⟨rfl, TurnedR.here H.out⟩
end

end Go.Proofs.Ythamjlhkiabcnaa
