/-
  built: a map and a list of entries; wide.
-/
import Derived.Test.YtmbaedldikobcaaKPutW
namespace Go.Proofs.Ytmbaedldikobcaa
open Go.RowKit
set_option linter.unusedVariables false

abbrev MapS : TypeId := 31
def treeOf (l : List Ent) : Tr ByteArray Int := l.foldl (fun t x => Tr.put t x.1 x.2) .nil
def lstOf (l : List Ent) : List Ent := l.foldl (fun t x => rput t x.1 x.2) []
theorem treeOf_snoc (l : List Ent) (k : Nat) (h : k < l.length) : treeOf (l.take (k + 1)) = Tr.put (treeOf (l.take k)) (l[k]).1 (l[k]).2 := by
  unfold treeOf
  rw [List.take_succ_eq_append_getElem h, List.foldl_append]
  rfl
theorem lstOf_snoc (l : List Ent) (k : Nat) (h : k < l.length) : lstOf (l.take (k + 1)) = rput (lstOf (l.take k)) (l[k]).1 (l[k]).2 := by
  unfold lstOf
  rw [List.take_succ_eq_append_getElem h, List.foldl_append]
  rfl
theorem treeOf_list (l : List Ent) : ∀ k, k ≤ l.length → Srt (treeOf (l.take k)).toL ∧ (treeOf (l.take k)).toL = lstOf (l.take k) ∧ (treeOf (l.take k)).size ≤ k := by
  intro k
  induction k with
  | zero => intro _; exact ⟨Srt.nil, rfl, by simp [treeOf, Tr.size]⟩
  | succ k ih =>
    intro h
    obtain ⟨h1, h2, h3⟩ := ih (by omega)
    have hp := Tr.toL_put (treeOf (l.take k)) (l[k]'(by omega)).1 (l[k]'(by omega)).2 h1
    rw [treeOf_snoc l k (by omega), lstOf_snoc l k (by omega)]
    refine ⟨by rw [hp]; exact h1.lput _ _, by rw [hp, rput_lput _ _ _ (by rw [← h2]; exact h1), h2], ?_⟩
    have := Tr.size_put_le (treeOf (l.take k)) (l[k]'(by omega)).1 (l[k]'(by omega)).2
    omega
theorem lstOf_len (l : List Ent) (k : Nat) (h : k ≤ l.length) : (lstOf (l.take k)).length ≤ k := by
  obtain ⟨_, h2, h3⟩ := treeOf_list l k h
  rw [← h2, Tr.size_toL]; exact h3

theorem own_base {w : World} {base base' n size : Nat} {e : TypeId} {v : Value} {xs : List Value} (h : w.ownsRow base e size v n xs) (hb : base' ≤ base) : w.ownsRow base' e size v n xs := by
  obtain ⟨h1, h2⟩ := h
  refine ⟨h1, ?_⟩
  rcases h2 with h2 | ⟨g, cap, cur, rfl, hb', rest⟩
  · exact .inl h2
  · exact .inr ⟨g, cap, cur, rfl, by omega, rest⟩

/-- What built leaves. -/
def BuiltPost (w : World) (l : List Ent) (e : Ending) (w' : World) : Prop :=
  ∃ q u, e = .returned (.tuple #[.agg #[.pointer q], u]) ∧ IsTS w' (.pointer q) (treeOf l) ∧ w'.ownsRow w.heap.size EntR 2 u (lstOf l).length (ents (lstOf l)) ∧ Below w.heap.size w w'

set_option maxRecDepth 100000 in
set_option maxHeartbeats 6400000 in
theorem built_any {w : World} {v : Value} {l : List Ent} (h : Row w 2 v l.length (ents l)) (hl : l.length ≤ 100) :
    Calls Try.prog 25 #[v] w (BuiltPost w l) := by
  obtain ⟨aa, ca, rfl, xa⟩ := h.at2
  have XA := Lib.hid xa
  have b0 : Below w.heap.size w ((w.alloc (.cells #[.pointer none] MapS)).alloc (.cells #[.pointer none] MapS)) := ((Below.refl _ _).alloc (Nat.le_refl _) _).alloc (by simp) _
  have y0 : ((w.alloc (.cells #[.pointer none] MapS)).alloc (.cells #[.pointer none] MapS)).heap[w.heap.size]? = some (Obj.cells #[.pointer none] MapS) := by
    rw [(((Below.refl _ _).alloc (Nat.le_refl _) (.cells #[.pointer none] MapS) : Below (w.alloc (.cells #[.pointer none] MapS)).heap.size (w.alloc (.cells #[.pointer none] MapS)) _)).block _ (by simp)]; exact heap_alloc_new _ _
  have y1 : ((w.alloc (.cells #[.pointer none] MapS)).alloc (.cells #[.pointer none] MapS)).heap[w.heap.size + 1]? = some (Obj.cells #[.pointer none] MapS) := by
    have e : w.heap.size + 1 = (w.alloc (.cells #[.pointer none] MapS)).heap.size := by simp
    rw [e]; exact heap_alloc_new _ _
  have HB := Lib.hid b0
  have HY0 := Lib.hid y0
  have HY1 := Lib.hid y1
  clear h xa b0 y0 y1
  go_enter Try.func25, Try.ntmps25
  go_wp2_with fail
  generalize ((w.alloc (.cells #[.pointer none] MapS)).alloc (.cells #[.pointer none] MapS)) = W at *
  go_loopw [6, 5] (fun i u wr => ∃ (n : Nat) (q : Option Addr), i = .int .i64 (n : Int) ∧ n ≤ l.length ∧ Below w.heap.size w wr ∧ IsTS wr (.pointer q) (treeOf (l.take n)) ∧ wr.ownsRow w.heap.size EntR 2 u (lstOf (l.take n)).length (ents (lstOf (l.take n))) ∧ wr.heap[w.heap.size + 1]? = some (Obj.cells #[.pointer q] MapS) ∧ wr.heap[w.heap.size]? = some (Obj.cells #[.pointer none] MapS)) (fun i _ _ => l.length - (intOf i).toNat)
  case atStart => exact ⟨0, none, rfl, Nat.zero_le _, HB.out, rfl, World.ownsRow_nil _ _ _ 2, HY1.out, HY0.out⟩
  case round =>
    obtain ⟨n, q, rfl, hn, hb, ht, ho, hy1, hy0⟩ := hrel
    obtain ⟨au, cu, rfl⟩ := (row_of_own ho).shape
    have z1 : wr.cell? ⟨w.heap.size + 1, 0, none⟩ = some (.pointer q) := cellB hy1 rfl
    have zf1 : wr.frozen? ⟨w.heap.size + 1, 0, none⟩ = false := frozenB hy1
    have z0 : wr.cell? ⟨w.heap.size, 0, none⟩ = some (.pointer none) := cellB hy0 rfl
    have zf0 : wr.frozen? ⟨w.heap.size, 0, none⟩ = false := frozenB hy0
    have HBB := Lib.hid hb
    have HT := Lib.hid ht
    have HO := Lib.hid ho
    have HH1 := Lib.hid hy1
    have HH0 := Lib.hid hy0
    have HLN := Lib.hid (lstOf_len l n hn)
    have HTL := Lib.hid (treeOf_list l n hn)
    clear hb ht hy1 hy0 ho
    by_cases hlt : n < l.length
    · obtain ⟨b1, o1, rfl, q1⟩ := XA.out (by omega)
      have q2 := ents_at l n hlt
      have d1 := q1 _ _ q2.1
      have d2 := q1 _ _ q2.2
      rw [show o1 + (n * 2 + 1) = o1 + n * 2 + 1 by omega] at d2
      have c1 := bcellAt HBB.out d1
      have c2 := bcellAt HBB.out d2
      have HS := Lib.hid (treeOf_snoc l n hlt)
      have HL := Lib.hid (lstOf_snoc l n hlt)
      clear q1 q2 XA
      generalize hy : l[n] = y at *
      obtain ⟨yk, yv⟩ := y
      simp only at c1 c2 d1 d2
      have D1 := Lib.hid d1
      have D2 := Lib.hid d2
      clear hy d1 d2
      have hn0 : (0 : Int) ≤ (n : Int) := by omega
      have hn1 : (n : Int) < (l.length : Int) := by omega
      go_wp2_with fail
      go_still_tail 11, (by kernel_rfl)
      change wpList _ _ _ _ _ wr.drew
      go_wp2_with fail
      refine (mputS yk yv (HT.out.below (bd _)) (by have := HTL.out.2.2; omega)).mono ?_
      rintro e w2 ⟨q2, rfl, t2, u2⟩
      have x2 := bcellAt (bmore (bd _) u2) z1
      have f2 := bfrozenAt (bmore (bd _) u2) z1 zf1
      have hh1 := Hold.below (T := MapS) (bmore (bd _) u2) _ _ HH1.out
      have hh0 := Hold.below (T := MapS) (bmore (bd _) u2) _ _ HH0.out
      have HT2 := Lib.hid (t2.hold (Hold.setCell (o := 0) (v := .pointer q2) hh1 (by decide)))
      have HO2 := Lib.hid (own_hold (own_hold HO.out (Hold.below (bmore (bd _) u2))) (Hold.setCell (o := 0) (v := .pointer q2) hh1 (by decide)))
      have E1 := Lib.hid (setCellB (j := 0) (u := .pointer q2) hh1)
      have E0 : Hid ((w2.setCell ⟨w.heap.size + 1, 0, none⟩ (.pointer q2)).heap[w.heap.size]? = some (Obj.cells #[.pointer none] MapS)) := Lib.hid (by rw [Below.heap_setCell _ _ _ _ (by simp)]; exact hh0)
      have E3 := Lib.hid ((HBB.out.trans ((bmore (bd _) u2).mono HBB.out.size)).setCell (p := ⟨w.heap.size + 1, 0, none⟩) (by simp) (.pointer q2))
      clear t2 u2 hh1 hh0 z1 zf1 z0 zf0 c1 c2
      go_wp2_with fail
      generalize (w2.setCell ⟨w.heap.size + 1, 0, none⟩ (.pointer q2)) = W2 at *
      have c1 := bcellAt E3.out D1.out
      have c2 := bcellAt E3.out D2.out
      go_still_tail 11, (by kernel_rfl)
      change wpList _ _ _ _ _ W2.drew
      go_wp2_with fail
      refine (rput_any yk yv ((row_of_own HO2.out).below (bd _)) (by have := HLN.out; omega)).mono ?_
      rintro e w3 ⟨u3, rfl, o3, b3⟩
      have HB3 := Lib.hid b3
      have HO3 := Lib.hid (own_base o3 (show w.heap.size ≤ W2.drew.heap.size from E3.out.size))
      clear o3 b3
      go_wp2_with fail
      go_roundw
      case rel => exact ⟨n + 1, q2, by go_num, by omega, E3.out.trans ((bmore (bd _) HB3.out).mono E3.out.size), by rw [HS.out]; exact HT2.out.below (bmore (bd _) HB3.out), by rw [HL.out]; exact HO3.out, Hold.below (bmore (bd _) HB3.out) _ _ E1.out, Hold.below (T := MapS) (bmore (bd _) HB3.out) _ _ E0.out⟩
      case measure => simp [intOf]; omega
    · obtain rfl : n = l.length := by omega
      have HT' : Hid (IsTS wr (.pointer q) (treeOf l)) := Lib.hid (by have := HT.out; rwa [List.take_length] at this)
      have HO' : Hid (wr.ownsRow w.heap.size EntR 2 (.slice au (lstOf (l.take l.length)).length cu) (lstOf l).length (ents (lstOf l))) := Lib.hid (by have := HO.out; rw [List.take_length] at this ⊢; exact this)
      clear hlt XA HT HO
      have hxs : (wr.setCell ⟨w.heap.size, 0, none⟩ (.pointer q)).cell? ⟨w.heap.size, 0, none⟩ = some (.pointer q) := World.cell?_setCell_same' _ _ _ (by rw [z0]; rfl)
      go_wp2_with fail
      refine bodyPost_ret (v := .tuple #[.agg #[.pointer q], .slice au (lstOf (l.take l.length)).length cu]) (by simp [results, Try.results25, go_sem, hxs]) rfl ?_
      exact ⟨q, _, rfl, HT'.out.hold (Hold.setCell (o := 0) (v := .pointer q) HH0.out (by decide)), own_hold HO'.out (Hold.setCell (o := 0) (v := .pointer q) HH0.out (by decide)), HBB.out.setCell (p := ⟨w.heap.size, 0, none⟩) (Nat.le_refl _) _⟩

/-- Not too many: whether wide is told hangs on the bytes alone. -/
theorem wide_any {w : World} {v : Value} {l : List Ent} (h : Row w 2 v l.length (ents l)) (hl : l.length ≤ 80) :
    Calls Try.prog 24 #[v] w fun e w' => (e = .returned (.bool true) ∨ e = .returned (.bool false)) ∧ w = w' := by
  obtain ⟨aa, ca, rfl, xa⟩ := h.at2
  have XA := Lib.hid xa
  clear h xa
  go_enter Try.func24, Try.ntmps24
  go_wp2_with fail
  go_loop [4, 3] (fun u n => ∃ (k : Nat) (acc : Int), u = .int .i64 (k : Int) ∧ n = .int .i64 acc ∧ k ≤ l.length) (fun u _ => 82 - (intOf u).toNat)
  case atStart => exact ⟨0, 0, rfl, rfl, by omega⟩
  case round =>
    obtain ⟨k, acc, rfl, rfl, hk⟩ := hrel
    by_cases hlt : k < l.length
    · obtain ⟨b1, o1, rfl, q1⟩ := XA.out (by omega)
      have c1 := q1 _ _ (ents_at l k hlt).1
      clear q1 XA
      generalize (l[k]).1 = x at *
      have hk0 : (0 : Int) ≤ (k : Int) := by omega
      have hk1 : (k : Int) < (l.length : Int) := by omega
      have hk2 : (k : Int) ≤ 80 := by omega
      go_wp2_with fail
      go_round
      case rel => exact ⟨k + 1, _, by go_num, rfl, by omega⟩
      case measure => simp [intOf]; omega
    · obtain rfl : k = l.length := by omega
      clear hlt XA
      by_cases hacc : 4000 < acc
      · go_wp2_with fail
        go_returns
        exact ⟨.inl rfl, rfl⟩
      · have hacc' : decide (4000 < acc) = false := by simpa using hacc
        have h80 : decide ((80 : Int) < (l.length : Int)) = false := by simp; omega
        clear hacc
        go_wp2_with fail
        go_returns
        exact ⟨.inr rfl, rfl⟩
theorem wide_long {w : World} {v : Value} {l : List Ent} (h : Row w 2 v l.length (ents l)) (hm : l.length ≤ maxLen) (hl : 80 < l.length) :
    Calls Try.prog 24 #[v] w fun e w' => e = .returned (.bool true) ∧ w = w' := by
  obtain ⟨aa, ca, rfl, xa⟩ := h.at2
  have XA := Lib.hid xa
  unfold maxLen at hm
  clear h xa
  go_enter Try.func24, Try.ntmps24
  go_wp2_with fail
  go_loop [4, 3] (fun u n => ∃ (k : Nat) (acc : Int), u = .int .i64 (k : Int) ∧ n = .int .i64 acc ∧ k ≤ 81) (fun u _ => 82 - (intOf u).toNat)
  case atStart => exact ⟨0, 0, rfl, rfl, by omega⟩
  case round =>
    obtain ⟨k, acc, rfl, rfl, hk⟩ := hrel
    by_cases hlt : k ≤ 80
    · obtain ⟨b1, o1, rfl, q1⟩ := XA.out (by omega)
      have c1 := q1 _ _ (ents_at l k (by omega)).1
      clear q1 XA
      generalize (l[k]'(by omega)).1 = x at *
      have hk0 : (0 : Int) ≤ (k : Int) := by omega
      have hk1 : (k : Int) < (l.length : Int) := by omega
      have hk2 : (k : Int) ≤ 80 := by omega
      go_wp2_with fail
      go_round
      case rel => exact ⟨k + 1, _, by go_num, rfl, by omega⟩
      case measure => simp [intOf]; omega
    · obtain rfl : k = 81 := by omega
      clear hlt XA
      by_cases h82 : 81 < l.length
      · have h82' : (81 : Int) < (l.length : Int) := by omega
        go_wp2_with fail
        go_returns
        exact ⟨rfl, rfl⟩
      · have h83 : l.length = 81 := by omega
        go_wp2_with fail
        go_returns
        exact ⟨rfl, rfl⟩

end Go.Proofs.Ytmbaedldikobcaa
