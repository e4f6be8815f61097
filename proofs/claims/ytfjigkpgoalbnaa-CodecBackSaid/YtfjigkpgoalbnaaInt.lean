/-
  codec's (*Reader).Int and Byte.
-/
import Derived.Test.YtfjigkpgoalbnaaNum
namespace Go.Proofs.Ytfjigkpgoalbnaa
open Go.RowKit

/-- The int of a number. -/
def unzig (n : Nat) : Int := if n % 2 = 1 then -((n / 2 : Nat) : Int) - 1 else ((n / 2 : Nat) : Int)
theorem unzig_odd {n : Nat} (h : n % 2 = 1) : unzig n = -((n / 2 : Nat) : Int) - 1 := if_pos h
theorem unzig_even {n : Nat} (h : ¬ n % 2 = 1) : unzig n = ((n / 2 : Nat) : Int) := if_neg h
theorem unzig_zig (n : Int) : unzig (zig n) = n := by
  unfold zig
  split
  · rw [unzig_odd (by omega)]; omega
  · rw [unzig_even (by omega)]; omega

set_option maxRecDepth 20000 in
set_option maxHeartbeats 400000 in
theorem unfold_any (n : Nat) (w : World) (hn : Hid (n < 18446744073709551616)) :
    Calls Try.prog 46 #[.int .u64 (n : Int)] w fun e w' => e = .returned (.int .i64 (unzig n)) ∧ w = w' := by
  have h2 : n / 2 ≤ 9223372036854775807 := by have := hn.out; omega
  by_cases ho : n % 2 = 1
  · have hb : ((n : Int) % 2 == 1) = true := by simp; omega
    rw [unzig_odd ho]
    clear ho
    go_enter Try.func46, Try.ntmps46
    go_wp2_with fail
    go_ret
    exact ⟨ret_int (by omega), rfl⟩
  · have hb : ((n : Int) % 2 == 1) = false := by simp; omega
    rw [unzig_even ho]
    clear ho
    go_enter Try.func46, Try.ntmps46
    go_wp2_with fail
    go_ret
    exact ⟨ret_int (by omega), rfl⟩

set_option maxHeartbeats 400000 in
theorem Int1_ok {W : World} {a : Nat} {v : Value} {p : List UInt8} {k : Nat} (h : IsReader W a v p k 0) {n len : Nat} (hs : numS (p.drop k) = .inr (n, len)) (rc nc : Nat) (x : Value)
    (hrc : W.cell? ⟨rc, 0, none⟩ = some (.pointer (some ⟨a, 0, none⟩))) (hnc : W.cell? ⟨nc, 0, none⟩ = some x) (hf : W.frozen? ⟨nc, 0, none⟩ = false) (hna : nc ≠ a) :
    Calls Try.prog 45 #[.pointer (some ⟨rc, 0, none⟩), .pointer (some ⟨nc, 0, none⟩)] W fun e' w' => e' = .returned (.tuple #[]) ∧
      ∃ w1, W.grownBy w1 (some a) ∧ IsReader w1 a v p (k + len) 0 ∧ w' = w1.setCell ⟨nc, 0, none⟩ (.int .i64 (unzig n)) := by
  have hnum := num_any h
  rw [hs] at hnum
  have HN := Lib.hid hnum
  clear hnum
  have hlt := (numS_lt hs).1
  clear hs
  go_enter Try.func45, Try.ntmps45
  go_wp2_with fail
  refine HN.out.mono ?_
  rintro e' w1 ⟨hg, rfl, hr⟩
  have c1 := hg.cell hnc (by simpa using hna)
  have f1 := (frozen_grown hg (World.block_lt_of_cell? W _ hnc) (by simpa using hna)).trans hf
  go_wp2_with fail
  refine (unfold_any n w1 hlt).mono ?_
  rintro e' w2 ⟨rfl, rfl⟩
  go_wp2_with fail
  go_end0
  exact ⟨rfl, w1, hg, hr, rfl⟩

set_option maxHeartbeats 400000 in
theorem Int1_bad {W : World} {a : Nat} {v : Value} {p : List UInt8} {k : Nat} (h : IsReader W a v p k 0) {er : Nat} (hs : numS (p.drop k) = .inl er) (rc nc : Nat)
    (hrc : W.cell? ⟨rc, 0, none⟩ = some (.pointer (some ⟨a, 0, none⟩))) :
    Calls Try.prog 45 #[.pointer (some ⟨rc, 0, none⟩), .pointer (some ⟨nc, 0, none⟩)] W fun e' w' => e' = .panicked (faultOf er) ∧ W.grownBy w' (some a) ∧ ∃ k', IsReader w' a v p k' 0 := by
  have hnum := num_any h
  rw [hs] at hnum
  have HN := Lib.hid hnum
  clear hnum hs
  go_enter Try.func45, Try.ntmps45
  go_wp2_with fail
  refine HN.out.mono ?_
  rintro e' w1 ⟨hg, rfl, hr⟩
  go_wp2_with fail
  exact ⟨rfl, rfl, hg, hr⟩

set_option maxHeartbeats 400000 in
theorem Byte1_ok {W : World} {a : Nat} {v : Value} {p : List UInt8} {k : Nat} (h : IsReader W a v p k 0) (hs : k < p.length) (rc nc : Nat) (x : Value)
    (hrc : W.cell? ⟨rc, 0, none⟩ = some (.pointer (some ⟨a, 0, none⟩))) (hnc : W.cell? ⟨nc, 0, none⟩ = some x) (hf : W.frozen? ⟨nc, 0, none⟩ = false) (hna : nc ≠ a) :
    Calls Try.prog 49 #[.pointer (some ⟨rc, 0, none⟩), .pointer (some ⟨nc, 0, none⟩)] W fun e' w' => e' = .returned (.tuple #[]) ∧
      ∃ w1, W.grownBy w1 (some a) ∧ IsReader w1 a v p (k + 1) 0 ∧ w' = w1.setCell ⟨nc, 0, none⟩ (.int .u8 ((p.getD k 0).toNat : Int)) := by
  have HN := Lib.hid (next_byte h hs)
  clear hs
  generalize p.getD k 0 = c at *
  unfold u8v at HN
  go_enter Try.func49, Try.ntmps49
  go_wp2_with fail
  refine HN.out.mono ?_
  rintro e' w1 ⟨rfl, hg, hr⟩
  have c1 := hg.cell hnc (by simpa using hna)
  have f1 := (frozen_grown hg (World.block_lt_of_cell? W _ hnc) (by simpa using hna)).trans hf
  go_wp2_with fail
  go_end0
  exact ⟨rfl, w1, hg, hr, rfl⟩

set_option maxHeartbeats 400000 in
theorem Byte1_bad {W : World} {a : Nat} {v : Value} {p : List UInt8} {k : Nat} (h : IsReader W a v p k 0) (hs : k = p.length) (rc nc : Nat)
    (hrc : W.cell? ⟨rc, 0, none⟩ = some (.pointer (some ⟨a, 0, none⟩))) :
    Calls Try.prog 49 #[.pointer (some ⟨rc, 0, none⟩), .pointer (some ⟨nc, 0, none⟩)] W fun e' w' => e' = .panicked (faultOf 3) ∧ W.grownBy w' (some a) ∧ ∃ k', IsReader w' a v p k' 0 := by
  have HN := Lib.hid (next_end h hs)
  clear hs
  go_enter Try.func49, Try.ntmps49
  go_wp2_with fail
  refine HN.out.mono ?_
  rintro e' w1 ⟨rfl, n, rfl⟩
  go_wp2_with fail
  exact ⟨rfl, rfl, grown_drewN _ _ _, _, h.drewN _⟩

theorem callF_Int (cap : Array Value) (w : World) : (callFunc 45 cap).run Try.prog w = .ok (.enter 45 cap) w := by kernel_rfl

set_option maxHeartbeats 400000 in
theorem Int_nil (w : World) :
    Calls Try.prog 27 #[.pointer none] w fun e' w' => e' = .returned (.int .i64 0) ∧ Below w.heap.size w w' := by
  have hmf : ∀ (fn : Fn) (first cap : Array Value) (w : World), (Instr.makeFunc fn first cap).run Try.prog w = .ok (.func fn first cap) w := fun _ _ _ _ => rfl
  have G := Lib.hid (two_facts w (.pointer none) (.int .i64 0) 47 2)
  go_enter Try.func27, Try.ntmps27
  go_wp2_with fail
  obtain ⟨g0, _, g1, g2, g3⟩ := G.out
  clear G
  change Calls _ _ _ (two w (.pointer none) (.int .i64 0) 47 2) _
  generalize two w (.pointer none) (.int .i64 0) 47 2 = wA at *
  refine (read_nil _ _).mono ?_
  rintro e' w1 ⟨rfl, hb⟩
  have c1 := cell_later hb g1
  have f1 := (hb.frozen (p := ⟨w.heap.size + 1, 0, none⟩) (by simp; omega)).trans g2
  have hb1 := g0.trans (hb.mono (by omega))
  clear g0 g1 g2 hb
  go_wp2_with fail
  exact bodyPost_ret (v := .int .i64 0) (by simp [results, Try.results27, go_sem, c1]) rfl ⟨rfl, below_set_new hb1 (by omega) _ _⟩

set_option maxHeartbeats 400000 in
theorem Int_after {w : World} {a : Nat} {v : Value} {p : List UInt8} {k e : Nat} (h : IsReader w a v p k e) (he : 0 < e) :
    Calls Try.prog 27 #[.pointer (some ⟨a, 0, none⟩)] w fun e' w' => e' = .returned (.int .i64 0) ∧ Below w.heap.size w w' := by
  have hmf : ∀ (fn : Fn) (first cap : Array Value) (w : World), (Instr.makeFunc fn first cap).run Try.prog w = .ok (.func fn first cap) w := fun _ _ _ _ => rfl
  have G := Lib.hid (two_facts w (.pointer (some ⟨a, 0, none⟩)) (.int .i64 0) 47 2)
  go_enter Try.func27, Try.ntmps27
  go_wp2_with fail
  obtain ⟨g0, _, g1, g2, g3⟩ := G.out
  clear G
  change Calls _ _ _ (two w (.pointer (some ⟨a, 0, none⟩)) (.int .i64 0) 47 2) _
  have hA := h.below g0
  generalize two w (.pointer (some ⟨a, 0, none⟩)) (.int .i64 0) 47 2 = wA at *
  refine (read_after hA he _).mono ?_
  rintro e' w1 ⟨rfl, hb⟩
  have c1 := cell_later hb g1
  have f1 := (hb.frozen (p := ⟨w.heap.size + 1, 0, none⟩) (by simp; omega)).trans g2
  have hb1 := g0.trans (hb.mono (by omega))
  clear g0 g1 g2 hb hA h
  go_wp2_with fail
  exact bodyPost_ret (v := .int .i64 0) (by simp [results, Try.results27, go_sem, c1]) rfl ⟨rfl, below_set_new hb1 (by omega) _ _⟩

set_option maxHeartbeats 400000 in
theorem Int_ok {w : World} {a : Nat} {v : Value} {p : List UInt8} {k : Nat} (h : IsReader w a v p k 0) {n len : Nat} (hs : numS (p.drop k) = .inr (n, len)) :
    Calls Try.prog 27 #[.pointer (some ⟨a, 0, none⟩)] w fun e' w' => e' = .returned (.int .i64 (unzig n)) ∧ w.grownBy w' (some a) ∧ IsReader w' a v p (k + len) 0 := by
  have hmf : ∀ (fn : Fn) (first cap : Array Value) (w : World), (Instr.makeFunc fn first cap).run Try.prog w = .ok (.func fn first cap) w := fun _ _ _ _ => rfl
  have hs' := Lib.hid hs
  clear hs
  have la := h.lt
  have G := Lib.hid (two_facts w (.pointer (some ⟨a, 0, none⟩)) (.int .i64 0) 47 2)
  go_enter Try.func27, Try.ntmps27
  go_wp2_with fail
  obtain ⟨g0, g4, g1, g2, g3⟩ := G.out
  clear G
  change Calls _ _ _ (two w (.pointer (some ⟨a, 0, none⟩)) (.int .i64 0) 47 2) _
  have hA := h.below g0
  generalize two w (.pointer (some ⟨a, 0, none⟩)) (.int .i64 0) 47 2 = wA at *
  have hI := inRead_grown wA a k none
  have hA' := hA.grown hI (by simp) (by cases v.ownBlock <;> simp)
  have q1 := frozen_grown hI (a := ⟨w.heap.size + 1, 0, none⟩) (by simp; omega) (by simp)
  refine (read_ok hA 45 _ _ (fun w => callF_Int _ w) (Int1_ok hA' hs'.out w.heap.size (w.heap.size + 1) _ (hI.cell g4 (by simp)) (hI.cell g1 (by simp)) (q1.trans g2) (by omega))).mono ?_
  rintro e' w2 ⟨rfl, w1, hg, hr, rfl⟩
  have hb1 : w.grownBy w1 (some a) := grown_trans (grown_of_below g0 _) (grown_trans (inRead_grown wA a k _) hg)
  have hw1 : w.heap.size + 1 < w1.heap.size := by have := hI.size; have := hg.size; omega
  have hv : v.ownBlock ≠ some (w.heap.size + 1) := fun e => by have := h.rd.own_lt _ e; omega
  obtain ⟨x, hx⟩ : ∃ x, w1.cell? ⟨w.heap.size + 1, 0, none⟩ = some x := ⟨_, hg.cell (hI.cell g1 (by simp)) (by simp; omega)⟩
  have f1 := ((frozen_grown hg (a := ⟨w.heap.size + 1, 0, none⟩) (by have := hI.size; simp; omega) (by simp; omega)).trans q1).trans g2
  have hr2 := hr.set_other (g := w.heap.size + 1) (by omega) hv 0 (.int .i64 (unzig n))
  have hr3 := hr2.set_other (g := w.heap.size + 1) (by omega) hv 0 (.int .i64 (unzig n))
  have hb2 := grown_set_new hb1 (g := w.heap.size + 1) (by omega) 0 (.int .i64 (unzig n))
  have hb3 := grown_set_new hb2 (g := w.heap.size + 1) (by omega) 0 (.int .i64 (unzig n))
  have c2 : (w1.setCell ⟨w.heap.size + 1, 0, none⟩ (.int .i64 (unzig n))).cell? ⟨w.heap.size + 1, 0, none⟩ = some (.int .i64 (unzig n)) := by simp [go_sem, hx]
  have f2 : (w1.setCell ⟨w.heap.size + 1, 0, none⟩ (.int .i64 (unzig n))).frozen? ⟨w.heap.size + 1, 0, none⟩ = false := by simp [go_sem, f1]
  clear hb1 hb2 hr2 hr hI hA hA' q1 g0 g1 g2 g4 hg f1
  generalize w1.setCell ⟨w.heap.size + 1, 0, none⟩ (.int .i64 (unzig n)) = w2 at *
  go_wp2_with fail
  exact bodyPost_ret (v := .int .i64 (unzig n)) (by simp [results, Try.results27, go_sem, c2]) rfl ⟨rfl, hb3, hr3⟩

set_option maxHeartbeats 400000 in
theorem Int_bad {w : World} {a : Nat} {v : Value} {p : List UInt8} {k : Nat} (h : IsReader w a v p k 0) {er : Nat} (hs : numS (p.drop k) = .inl er) (hel : er < 200) :
    Calls Try.prog 27 #[.pointer (some ⟨a, 0, none⟩)] w fun e' w' => e' = .returned (.int .i64 0) ∧ w.grownBy w' (some a) ∧ IsReader w' a v p k er := by
  have hmf : ∀ (fn : Fn) (first cap : Array Value) (w : World), (Instr.makeFunc fn first cap).run Try.prog w = .ok (.func fn first cap) w := fun _ _ _ _ => rfl
  have hs' := Lib.hid hs
  clear hs
  have la := h.lt
  have G := Lib.hid (two_facts w (.pointer (some ⟨a, 0, none⟩)) (.int .i64 0) 47 2)
  go_enter Try.func27, Try.ntmps27
  go_wp2_with fail
  obtain ⟨g0, g4, g1, g2, g3⟩ := G.out
  clear G
  change Calls _ _ _ (two w (.pointer (some ⟨a, 0, none⟩)) (.int .i64 0) 47 2) _
  have hA := h.below g0
  generalize two w (.pointer (some ⟨a, 0, none⟩)) (.int .i64 0) 47 2 = wA at *
  have hI := inRead_grown wA a k none
  have hA' := hA.grown hI (by simp) (by cases v.ownBlock <;> simp)
  refine (read_bad hA 45 _ er hel (fun w => callF_Int _ w) (Int1_bad hA' hs'.out w.heap.size (w.heap.size + 1) (hI.cell g4 (by simp)))).mono ?_
  rintro e' w1 ⟨rfl, hg, hr⟩
  have hb1 : w.grownBy w1 (some a) := grown_trans (grown_of_below g0 _) hg
  have hv : v.ownBlock ≠ some (w.heap.size + 1) := fun e => by have := h.rd.own_lt _ e; omega
  have c2 := hg.cell g1 (by simp; omega)
  have f2 := (frozen_grown hg (a := ⟨w.heap.size + 1, 0, none⟩) (by simp; omega) (by simp; omega)).trans g2
  have hr3 := hr.set_other (g := w.heap.size + 1) (by omega) hv 0 (.int .i64 0)
  have hb3 := grown_set_new hb1 (g := w.heap.size + 1) (by omega) 0 (.int .i64 0)
  clear hb1 hr hI hA hA' g0 g1 g2 g4 hg
  go_wp2_with fail
  exact bodyPost_ret (v := .int .i64 0) (by simp [results, Try.results27, go_sem, c2]) rfl ⟨rfl, hb3, hr3⟩

theorem callF_Byte (cap : Array Value) (w : World) : (callFunc 49 cap).run Try.prog w = .ok (.enter 49 cap) w := by kernel_rfl

set_option maxHeartbeats 400000 in
theorem Byte_nil (w : World) :
    Calls Try.prog 32 #[.pointer none] w fun e' w' => e' = .returned (.int .u8 0) ∧ Below w.heap.size w w' := by
  have hmf : ∀ (fn : Fn) (first cap : Array Value) (w : World), (Instr.makeFunc fn first cap).run Try.prog w = .ok (.func fn first cap) w := fun _ _ _ _ => rfl
  have G := Lib.hid (two_facts w (.pointer none) (.int .u8 0) 47 5)
  go_enter Try.func32, Try.ntmps32
  go_wp2_with fail
  obtain ⟨g0, _, g1, g2, g3⟩ := G.out
  clear G
  change Calls _ _ _ (two w (.pointer none) (.int .u8 0) 47 5) _
  generalize two w (.pointer none) (.int .u8 0) 47 5 = wA at *
  refine (read_nil _ _).mono ?_
  rintro e' w1 ⟨rfl, hb⟩
  have c1 := cell_later hb g1
  have f1 := (hb.frozen (p := ⟨w.heap.size + 1, 0, none⟩) (by simp; omega)).trans g2
  have hb1 := g0.trans (hb.mono (by omega))
  clear g0 g1 g2 hb
  go_wp2_with fail
  exact bodyPost_ret (v := .int .u8 0) (by simp [results, Try.results32, go_sem, c1]) rfl ⟨rfl, below_set_new hb1 (by omega) _ _⟩

set_option maxHeartbeats 400000 in
theorem Byte_after {w : World} {a : Nat} {v : Value} {p : List UInt8} {k e : Nat} (h : IsReader w a v p k e) (he : 0 < e) :
    Calls Try.prog 32 #[.pointer (some ⟨a, 0, none⟩)] w fun e' w' => e' = .returned (.int .u8 0) ∧ Below w.heap.size w w' := by
  have hmf : ∀ (fn : Fn) (first cap : Array Value) (w : World), (Instr.makeFunc fn first cap).run Try.prog w = .ok (.func fn first cap) w := fun _ _ _ _ => rfl
  have G := Lib.hid (two_facts w (.pointer (some ⟨a, 0, none⟩)) (.int .u8 0) 47 5)
  go_enter Try.func32, Try.ntmps32
  go_wp2_with fail
  obtain ⟨g0, _, g1, g2, g3⟩ := G.out
  clear G
  change Calls _ _ _ (two w (.pointer (some ⟨a, 0, none⟩)) (.int .u8 0) 47 5) _
  have hA := h.below g0
  generalize two w (.pointer (some ⟨a, 0, none⟩)) (.int .u8 0) 47 5 = wA at *
  refine (read_after hA he _).mono ?_
  rintro e' w1 ⟨rfl, hb⟩
  have c1 := cell_later hb g1
  have f1 := (hb.frozen (p := ⟨w.heap.size + 1, 0, none⟩) (by simp; omega)).trans g2
  have hb1 := g0.trans (hb.mono (by omega))
  clear g0 g1 g2 hb hA h
  go_wp2_with fail
  exact bodyPost_ret (v := .int .u8 0) (by simp [results, Try.results32, go_sem, c1]) rfl ⟨rfl, below_set_new hb1 (by omega) _ _⟩

set_option maxHeartbeats 400000 in
theorem Byte_ok {w : World} {a : Nat} {v : Value} {p : List UInt8} {k : Nat} (h : IsReader w a v p k 0) (hs : k < p.length) :
    Calls Try.prog 32 #[.pointer (some ⟨a, 0, none⟩)] w fun e' w' => e' = .returned (.int .u8 ((p.getD k 0).toNat : Int)) ∧ w.grownBy w' (some a) ∧ IsReader w' a v p (k + 1) 0 := by
  have hmf : ∀ (fn : Fn) (first cap : Array Value) (w : World), (Instr.makeFunc fn first cap).run Try.prog w = .ok (.func fn first cap) w := fun _ _ _ _ => rfl
  have hs' := Lib.hid hs
  clear hs
  have la := h.lt
  have G := Lib.hid (two_facts w (.pointer (some ⟨a, 0, none⟩)) (.int .u8 0) 47 5)
  go_enter Try.func32, Try.ntmps32
  go_wp2_with fail
  obtain ⟨g0, g4, g1, g2, g3⟩ := G.out
  clear G
  change Calls _ _ _ (two w (.pointer (some ⟨a, 0, none⟩)) (.int .u8 0) 47 5) _
  have hA := h.below g0
  generalize two w (.pointer (some ⟨a, 0, none⟩)) (.int .u8 0) 47 5 = wA at *
  have hI := inRead_grown wA a k none
  have hA' := hA.grown hI (by simp) (by cases v.ownBlock <;> simp)
  have q1 := frozen_grown hI (a := ⟨w.heap.size + 1, 0, none⟩) (by simp; omega) (by simp)
  refine (read_ok hA 49 _ _ (fun w => callF_Byte _ w) (Byte1_ok hA' hs'.out w.heap.size (w.heap.size + 1) _ (hI.cell g4 (by simp)) (hI.cell g1 (by simp)) (q1.trans g2) (by omega))).mono ?_
  rintro e' w2 ⟨rfl, w1, hg, hr, rfl⟩
  have hb1 : w.grownBy w1 (some a) := grown_trans (grown_of_below g0 _) (grown_trans (inRead_grown wA a k _) hg)
  have hw1 : w.heap.size + 1 < w1.heap.size := by have := hI.size; have := hg.size; omega
  have hv : v.ownBlock ≠ some (w.heap.size + 1) := fun e => by have := h.rd.own_lt _ e; omega
  obtain ⟨x, hx⟩ : ∃ x, w1.cell? ⟨w.heap.size + 1, 0, none⟩ = some x := ⟨_, hg.cell (hI.cell g1 (by simp)) (by simp; omega)⟩
  have f1 := ((frozen_grown hg (a := ⟨w.heap.size + 1, 0, none⟩) (by have := hI.size; simp; omega) (by simp; omega)).trans q1).trans g2
  have hr2 := hr.set_other (g := w.heap.size + 1) (by omega) hv 0 (.int .u8 ((p.getD k 0).toNat : Int))
  have hr3 := hr2.set_other (g := w.heap.size + 1) (by omega) hv 0 (.int .u8 ((p.getD k 0).toNat : Int))
  have hb2 := grown_set_new hb1 (g := w.heap.size + 1) (by omega) 0 (.int .u8 ((p.getD k 0).toNat : Int))
  have hb3 := grown_set_new hb2 (g := w.heap.size + 1) (by omega) 0 (.int .u8 ((p.getD k 0).toNat : Int))
  have c2 : (w1.setCell ⟨w.heap.size + 1, 0, none⟩ (.int .u8 ((p.getD k 0).toNat : Int))).cell? ⟨w.heap.size + 1, 0, none⟩ = some (.int .u8 ((p.getD k 0).toNat : Int)) := by simp [go_sem, hx]
  have f2 : (w1.setCell ⟨w.heap.size + 1, 0, none⟩ (.int .u8 ((p.getD k 0).toNat : Int))).frozen? ⟨w.heap.size + 1, 0, none⟩ = false := by simp [go_sem, f1]
  clear hb1 hb2 hr2 hr hI hA hA' q1 g0 g1 g2 g4 hg f1
  generalize w1.setCell ⟨w.heap.size + 1, 0, none⟩ (.int .u8 ((p.getD k 0).toNat : Int)) = w2 at *
  go_wp2_with fail
  exact bodyPost_ret (v := .int .u8 ((p.getD k 0).toNat : Int)) (by simp [results, Try.results32, go_sem, c2]) rfl ⟨rfl, hb3, hr3⟩

set_option maxHeartbeats 400000 in
theorem Byte_bad {w : World} {a : Nat} {v : Value} {p : List UInt8} {k : Nat} (h : IsReader w a v p k 0) (hs : k = p.length) :
    Calls Try.prog 32 #[.pointer (some ⟨a, 0, none⟩)] w fun e' w' => e' = .returned (.int .u8 0) ∧ w.grownBy w' (some a) ∧ IsReader w' a v p k 3 := by
  have hmf : ∀ (fn : Fn) (first cap : Array Value) (w : World), (Instr.makeFunc fn first cap).run Try.prog w = .ok (.func fn first cap) w := fun _ _ _ _ => rfl
  have hs' := Lib.hid hs
  clear hs
  have la := h.lt
  have G := Lib.hid (two_facts w (.pointer (some ⟨a, 0, none⟩)) (.int .u8 0) 47 5)
  go_enter Try.func32, Try.ntmps32
  go_wp2_with fail
  obtain ⟨g0, g4, g1, g2, g3⟩ := G.out
  clear G
  change Calls _ _ _ (two w (.pointer (some ⟨a, 0, none⟩)) (.int .u8 0) 47 5) _
  have hA := h.below g0
  generalize two w (.pointer (some ⟨a, 0, none⟩)) (.int .u8 0) 47 5 = wA at *
  have hI := inRead_grown wA a k none
  have hA' := hA.grown hI (by simp) (by cases v.ownBlock <;> simp)
  refine (read_bad hA 49 _ 3 (by omega) (fun w => callF_Byte _ w) (Byte1_bad hA' hs'.out w.heap.size (w.heap.size + 1) (hI.cell g4 (by simp)))).mono ?_
  rintro e' w1 ⟨rfl, hg, hr⟩
  have hb1 : w.grownBy w1 (some a) := grown_trans (grown_of_below g0 _) hg
  have hv : v.ownBlock ≠ some (w.heap.size + 1) := fun e => by have := h.rd.own_lt _ e; omega
  have c2 := hg.cell g1 (by simp; omega)
  have f2 := (frozen_grown hg (a := ⟨w.heap.size + 1, 0, none⟩) (by simp; omega) (by simp; omega)).trans g2
  have hr3 := hr.set_other (g := w.heap.size + 1) (by omega) hv 0 (.int .u8 0)
  have hb3 := grown_set_new hb1 (g := w.heap.size + 1) (by omega) 0 (.int .u8 0)
  clear hb1 hr hI hA hA' g0 g1 g2 g4 hg
  go_wp2_with fail
  exact bodyPost_ret (v := .int .u8 0) (by simp [results, Try.results32, go_sem, c2]) rfl ⟨rfl, hb3, hr3⟩

end Go.Proofs.Ytfjigkpgoalbnaa
