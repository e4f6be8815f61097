/-
  The document's own Same of two lists of entries that are the same; its Drop.
-/
import Derived.Test.YtkobiimkaimbaaaKRefH
namespace Go.Proofs.Ytkobiimkaimbaaa
open Go.RowKit
set_option linter.unusedVariables false

theorem neq_ent (x : ByteArray) (n : Int) (W : World) : (binOp .neq 48 (.agg #[.string x, .int .i64 n]) (.agg #[.string x, .int .i64 n])).run Try.prog W = .ok (.bool false) W := by
  have hp : Try.prog.stoodInHeld 48 = false := by kernel_rfl
  have hu := Try.underlying48
  rw [run_neq_struct]
  rw [run_equalIn_agg (P := Try.prog) W 9999 48 _ _ (by simp [Program.fieldsOf, hu]) hp]
  simp only [Program.fieldsOf, hu]
  simp [Op.eqFields, go_sem]

set_option maxRecDepth 100000 in
set_option maxHeartbeats 1600000 in
theorem same_ents {w : World} {va vb : Value} {l : List Ent} (ha : Row w 2 va l.length (ents l)) (hb : Row w 2 vb l.length (ents l)) (hl : l.length < 1000000) :
    Calls Try.prog 22 #[va, vb] w fun e w' => e = .returned (.bool true) ∧ Drew w w' := by
  obtain ⟨aa, ca, rfl, xa⟩ := ha.at2
  obtain ⟨ab, cb, rfl, xb⟩ := hb.at2
  have XA := Lib.hid xa
  have XB := Lib.hid xb
  clear ha hb xa xb
  go_enter Try.func22, Try.ntmps22
  go_wp2_with fail
  go_loopw [5] (fun v wr => ∃ k m : Nat, v = .int .i64 (k : Int) ∧ k ≤ l.length ∧ wr = w.drewN m) (fun v _ => l.length - (intOf v).toNat)
  case atStart => exact ⟨0, 0, rfl, Nat.zero_le _, rfl⟩
  case round =>
    obtain ⟨k, m, rfl, hk, rfl⟩ := hrel
    by_cases hlt : k < l.length
    · obtain ⟨b1, o1, rfl, q1⟩ := XA.out (by omega)
      obtain ⟨b2, o2, rfl, q2⟩ := XB.out (by omega)
      have q3 := ents_at l k hlt
      have c1 := q1 _ _ q3.1
      have c2 := q1 _ _ q3.2
      have c3 := q2 _ _ q3.1
      have c4 := q2 _ _ q3.2
      rw [show o1 + (k * 2 + 1) = o1 + k * 2 + 1 by omega] at c2
      rw [show o2 + (k * 2 + 1) = o2 + k * 2 + 1 by omega] at c4
      clear q1 q2 q3 XA XB
      generalize l[k] = y at *
      obtain ⟨yk, yv⟩ := y
      simp only at c1 c2 c3 c4
      have hne := fun W => neq_ent yk yv W
      have hk0 : (0 : Int) ≤ (k : Int) := by omega
      have hk1 : (k : Int) < (l.length : Int) := by omega
      go_wp2_with fail
      go_quiet (fail)
      go_wp2_with fail
      go_roundw
      case rel => exact ⟨k + 1, m + nq, by go_num, by omega, by first | rfl | rw [World.drewN_drewN]⟩
      case measure => simp [intOf]; omega
    · obtain rfl : k = l.length := by omega
      go_wp2_with fail
      go_returns
      exact ⟨rfl, m, rfl⟩

/-- What Drop leaves of a list. -/
def rdrop (l : List Ent) (k : ByteArray) : List Ent := l.filter fun x => !(x.1.toList == k.toList)
theorem rdrop_snoc (l : List Ent) (k : ByteArray) (i : Nat) (h : i < l.length) : rdrop (l.take (i + 1)) k = rdrop (l.take i) k ++ (if ((l[i]).1.toList == k.toList) = true then [] else [l[i]]) := by
  unfold rdrop
  rw [List.take_succ_eq_append_getElem h, List.filter_append]
  congr 1
  rw [List.filter_cons, List.filter_nil]
  cases (l[i]).1.toList == k.toList <;> rfl
theorem rdrop_len (l : List Ent) (k : ByteArray) (i : Nat) : (rdrop (l.take i) k).length ≤ i := by
  unfold rdrop
  refine Nat.le_trans (List.length_filter_le _ _) ?_
  simp; omega
theorem rdrop_ldrop (l : List Ent) (k : ByteArray) (h : Srt l) : rdrop l k = ldrop l k := by
  have hp := h.parts k
  unfold rdrop ldrop
  conv => lhs; rw [hp]
  rw [List.filter_append, List.filter_append, filter_all (l := below l k), filter_all (l := above l k), filter_none (l := atKey l k)]
  · rfl
  · intro b hb; rw [(mem_atKey.1 hb).2]; simp
  · intro b hb
    have h1 := (mem_above.1 hb).2
    rw [ne_bytes (fun e => by rw [e, KOrd.irr] at h1; cases h1)]; rfl
  · intro b hb
    have h1 := (mem_below.1 hb).2
    rw [ne_bytes (fun e => by rw [e, KOrd.irr] at h1; cases h1)]; rfl

set_option maxRecDepth 100000 in
set_option maxHeartbeats 3200000 in
theorem rdrop_any {w : World} {v : Value} {l : List Ent} (k : ByteArray) (h : Row w 2 v l.length (ents l)) (hl : l.length ≤ 1000) :
    Calls Try.prog 17 #[v, .string k] w fun e w' => ∃ u, e = .returned u ∧ w'.ownsRow w.heap.size 48 2 u (rdrop l k).length (ents (rdrop l k)) ∧ Below w.heap.size w w' := by
  obtain ⟨i0, hi0, hz0, hz1, hz2⟩ := info_parts rowE
  obtain ⟨aa, ca, rfl, xa⟩ := h.at2
  have XA := Lib.hid xa
  clear h xa
  go_enter Try.func17, Try.ntmps17
  go_wp2_with fail
  go_loopw [6, 5] (fun i o wr => ∃ n : Nat, i = .int .i64 (n : Int) ∧ n ≤ l.length ∧ wr.ownsRow w.heap.size 48 2 o (rdrop (l.take n) k).length (ents (rdrop (l.take n) k)) ∧ Below w.heap.size w wr) (fun i _ _ => l.length - (intOf i).toNat)
  case atStart => exact ⟨0, rfl, Nat.zero_le _, World.ownsRow_nil _ _ _ 2, Below.refl _ _⟩
  case round =>
    obtain ⟨n, rfl, hn, ho, hb⟩ := hrel
    obtain ⟨au, cu, rfl⟩ := (row_of_own ho).shape
    have hlen := rdrop_len l k n
    by_cases hlt : n < l.length
    · obtain ⟨b1, o1, rfl, q1⟩ := XA.out (by omega)
      have q2 := ents_at l n hlt
      have d1 := q1 _ _ q2.1
      have d2 := q1 _ _ q2.2
      rw [show o1 + (n * 2 + 1) = o1 + n * 2 + 1 by omega] at d2
      have c1 := bcellAt hb d1
      have c2 := bcellAt hb d2
      have HST := Lib.hid (rdrop_snoc l k n hlt)
      clear q1 q2 XA d1 d2
      generalize hy : l[n] = y at *
      obtain ⟨yk, yv⟩ := y
      simp only at c1 c2
      clear hy
      generalize rdrop (l.take n) k = oo at *
      have HO := Lib.hid ho
      have HBB := Lib.hid hb
      have hn0 : (0 : Int) ≤ (n : Int) := by omega
      have hn1 : (n : Int) < (l.length : Int) := by omega
      clear ho hb
      cases hq : yk.toList == k.toList
      · have HQ := Lib.hid hq
        go_wp2_with (first
          | (at_builtin; refine wpList_append_own _ rfl _ _ 33 rfl w.heap.size 48 i0 (.agg #[.string ⟨#[]⟩, .int .i64 0]) 2 24 Try.underlying33 hi0 hz0 hz1 hz2 rfl (by decide) _ _ _ rfl (HO.out.alloc _) ⟨wr.heap.size, 0, none⟩ 1 1 [.string yk, .int .i64 yv] rfl rfl (news2 _ _ _ _) (by simp [Value.oneCell']) (by unfold maxLen; omega) (by omega) (by have := HBB.out.size; simp; omega) ?_
             intro uX wX hownX hgX _
             obtain ⟨saX, scX, rfl⟩ := (row_of_own hownX).shape
             have hX9 : Below w.heap.size w wX := (HBB.out.trans (((Below.refl wr.heap.size wr).alloc (Nat.le_refl _) (.cells #[.string yk, .int .i64 yv] 48)).mono HBB.out.size)).trans (grown_below hgX (by have := HBB.out.size; simp; omega) (fun k e => (own_type HO.out e).1))
             have OX := Lib.hid hownX
             have BX := Lib.hid hX9
             clear hownX hgX hX9))
        go_roundw
        case rel => exact ⟨n + 1, by go_num, by omega, by rw [HST.out, if_neg (by rw [HQ.out]; simp)]; simpa [ents_append, ents] using OX.out, BX.out⟩
        case measure => simp [intOf]; omega
      · have HQ := Lib.hid hq
        go_wp2_with fail
        go_roundw
        case rel => exact ⟨n + 1, by go_num, by omega, by rw [HST.out, if_pos HQ.out]; simpa using HO.out, HBB.out⟩
        case measure => simp [intOf]; omega
    · obtain rfl : n = l.length := by omega
      have HO : Hid (wr.ownsRow w.heap.size 48 2 (.slice au (rdrop (l.take l.length) k).length cu) (rdrop l k).length (ents (rdrop l k))) := Lib.hid (by have := ho; rw [List.take_length] at this ⊢; exact this)
      have HBB := Lib.hid hb
      clear hlt XA ho hb
      go_wp2_with fail
      go_returns
      exact ⟨_, rfl, HO.out, HBB.out⟩

end Go.Proofs.Ytkobiimkaimbaaa
